/-
  A chip while an erase is under way: what it makes of any bytes. Plain facts on the machine, and a chip that lies still while a row behind it grows. Conditions: those of each statement.
-/
import Derived.Test.YtjhjghakfedeeaaGreatLend
namespace Go.Proofs.YtjhjghakfedeeaaGreat
open Go.RowKit Plain
set_option linter.unusedVariables false

theorem rn_grow {n b : Nat} {u w w' : World} {s : St} (h : Hid (Run n b u w s)) (hd : s.durs = []) (hb : b < u.heap.size) (k : Below u.heap.size w w') : Hid (Run n b u w' s) := by
  refine ⟨?_, h.out.only.then k⟩
  obtain ⟨⟨ds, h1, h2⟩, h3⟩ := h.out.lies
  have hB : LiesB u.heap.size n b w s := ⟨ds, h1, h2, fun g _ h0 => by rw [hd] at h0; exact absurd h0 (by decide), h3, hb⟩
  exact (hB.below k).lies
/-- An erase of 400 clocks has begun. -/
structure St.Bz (s : St) : Prop where
  idle : s.Idle
  left : s.left = 400
  sus : s.sus = false
  en : s.en = true
  prot : s.prot = false
  quad : s.quad = false
  durs : s.durs = []
theorem bz_script (A : ByteArray) : ((((newSt A).next [400]).say (wordL [6])).say (wordL [32, 0, 8, 0])).Bz ∧ (((newSt A).next [400]).say (wordL [6])).sel = false := by
  have h1 : ((newSt A).next [400]).Rest := ⟨⟨rfl, rfl, rfl⟩, rfl, rfl⟩
  have e2 := say_enable h1
  have h2 := rest_en h1 true
  rw [e2]
  refine ⟨?_, rfl⟩
  have e3 := say_erase h2 2048 (by decide)
  have e4 : wordL [32, 0, 8, 0] = wordL [32, 0, 2048 / 256, 2048 % 256] := rfl
  rw [e4, e3, begin_under true 2048 ⟨#[]⟩ rfl rfl]
  exact ⟨⟨rfl, rfl, rfl⟩, rfl, rfl, rfl, rfl, rfl, rfl⟩
theorem bz_opFor {s : St} (hb : s.busy = true) (hl : 0 < s.left) (o : Nat) (ho : o ≠ 117) : s.opFor o = if o = 5 ∨ o = 53 then opOf o else noOp := by
  have ht : s.takes o = decide (o = 5 ∨ o = 53) := by
    unfold St.takes
    rw [hb, decide_eq_true hl]
    by_cases h1 : o = 5 ∨ o = 53
    · rw [if_pos (by omega), decide_eq_true h1]
    · rw [if_neg (by omega), decide_eq_false h1]
      split
      · rfl
      · split
        · simp
        · rfl
  unfold St.opFor
  rw [ht]
  by_cases h1 : o = 5 ∨ o = 53
  · rw [if_pos h1, decide_eq_true h1]; rfl
  · rw [if_neg h1, decide_eq_false h1]; rfl
theorem bz_wait {s : St} (h : s.Bz) (n : Nat) (hn : n < 400) : s.wait n = { s with left := 400 - n } := by
  have := wait_some h.sus n (by rw [h.left]; exact hn)
  rw [h.left] at this
  exact this
theorem bz_busy {s : St} (h : s.Bz) (n : Nat) (hn : n < 400) : (s.wait n).busy = true ∧ 0 < (s.wait n).left := by
  rw [bz_wait h n hn]
  have hp : 0 < 400 - n := by omega
  refine ⟨?_, hp⟩
  show (decide (0 < 400 - n) && !s.sus) = true
  rw [h.sus, decide_eq_true hp]; rfl
theorem bz_say {s : St} (h : s.Bz) (o : Nat) (ho : o < 256) (h7 : o ≠ 117) (R : List Nat) (hR : 8 + R.length < 400) : (s.say (bitsOf o ++ R)).first = 3 ∧ (s.say (bitsOf o ++ R)).second = 0 := by
  have h8 := bz_busy h 8 (by decide)
  have hop := bz_opFor h8.1 h8.2 o h7
  have hmd : ((s.wait 8).opFor o).mode = false := by
    rw [hop]
    split
    · exact opOf_mode o ho (by omega)
    · rfl
  obtain ⟨k', m', e1, e2, e3⟩ := say_known h.idle o ho hmd R
  have hby : k'.op.byte = 5 ∨ k'.op.byte = 53 ∨ k'.op.byte = 0 := by
    rw [e2, hop]
    by_cases h1 : o = 5 ∨ o = 53
    · rw [if_pos h1]
      rcases h1 with rfl | rfl
      · exact Or.inl rfl
      · exact Or.inr (Or.inl rfl)
    · rw [if_neg h1]; exact Or.inr (Or.inr rfl)
  have e4 : s.say (bitsOf o ++ R) = { s.wait (8 + R.length) with made := m' } := by
    rw [e1]
    split
    · exact obey_other _ _ (by omega)
    · rfl
  have hb := bz_busy h (8 + R.length) hR
  rw [e4]
  constructor
  · show bitIf (s.wait (8 + R.length)).busy 1 + bitIf (s.wait (8 + R.length)).en 2 + bitIf (s.wait (8 + R.length)).prot 4 = 3
    rw [hb.1, bz_wait h _ hR, h.en, h.prot]
    rfl
  · show bitIf (s.wait (8 + R.length)).quad 2 + bitIf (s.wait (8 + R.length)).sus 128 = 0
    rw [bz_wait h _ hR, h.quad, h.sus]
    rfl
theorem bz_none {s : St} (h : s.Bz) (o : Nat) (ho : o < 256) (h7 : o ≠ 117) (h5 : ¬ (o = 5 ∨ o = 53)) (R : List Nat) : s.hears (bitsOf o ++ R) = List.replicate (8 + R.length) 15 := by
  have h8 := bz_busy h 8 (by decide)
  have hop := bz_opFor h8.1 h8.2 o h7
  rw [if_neg h5] at hop
  unfold St.hears
  rw [select_idle h.idle, run_append, byteW (s := s.picked) rfl (picked_k h.idle) o ho]
  have hw : s.picked.wait 8 = (s.wait 8).picked := wait_picked s 8
  rw [hw]
  generalize s.wait 8 = t at hop ⊢
  dsimp only
  rw [picked_opFor, hop]
  have e1 : t.picked.setK (startK noOp) = t.picked.setK ((startK noOp).mid 0 0) := rfl
  rw [e1, feedW (s := t.picked) (k := startK noOp) rfl rfl R 0 0 (Or.inl rfl)]
  dsimp only
  rw [List.replicate_append_replicate]
theorem tell_begins {u : St} {k : Cmd} (hs : u.sel = true) (hp : k.speaks = true) (hc : k.clocks = 0) (hl : k.split = (1, 8)) (x : Nat) :
    ((u.setK k).clock x).2 = tellOut (tellBits (u.countDown.setK k).dataByte 1 1) 1 := by
  show ((u.setK k).countDown.heard x).2 = _
  rw [countDown_setK]
  unfold St.heard
  rw [if_neg (by show ¬ u.countDown.sel = false; rw [countDown_sel, hs]; decide), if_pos (by show k.speaks = true; exact hp)]
  have hb : (u.countDown.setK k).begun.k.said = (u.countDown.setK k).dataByte := by unfold St.begun; rw [if_pos (show (u.countDown.setK k).k.clocks = 0 from hc)]; rfl
  show tellOut (tellBits (u.countDown.setK k).begun.k.said (k.clocks + 1) k.split.1) k.split.1 = _
  rw [hb, hc, hl]
theorem bz_tells {s : St} (h : s.Bz) (o : Nat) (h5 : o = 5 ∨ o = 53) (x : Nat) (R : List Nat) : ∃ L, s.hears (bitsOf o ++ x :: R) = List.replicate 8 15 ++ 13 :: L := by
  have h8 := bz_busy h 8 (by decide)
  have h9 := bz_busy h 9 (by decide)
  have hop := bz_opFor h8.1 h8.2 o (by omega)
  rw [if_pos h5] at hop
  unfold St.hears
  rw [select_idle h.idle, run_append, byteW (s := s.picked) rfl (picked_k h.idle) o (by omega)]
  have hw : s.picked.wait 8 = (s.wait 8).picked := wait_picked s 8
  have h9e : (s.wait 8).picked.countDown = (s.wait 9).picked := by rw [countDown_picked]; rfl
  have hen : (s.wait 9).en = true := by rw [bz_wait h 9 (by decide)]; exact h.en
  have hpr : (s.wait 9).prot = false := by rw [bz_wait h 9 (by decide)]; exact h.prot
  have hqd : (s.wait 9).quad = false := by rw [bz_wait h 9 (by decide)]; exact h.quad
  have hsu : (s.wait 9).sus = false := by rw [bz_wait h 9 (by decide)]; exact h.sus
  rw [hw]
  generalize s.wait 9 = t9 at h9e h9 hen hpr hqd hsu
  generalize s.wait 8 = t at hop h9e ⊢
  dsimp only
  rw [picked_opFor, hop]
  refine ⟨(((t.picked.setK (startK (opOf o))).clock x).1.run R).2, ?_⟩
  show _ ++ (((t.picked.setK (startK (opOf o))).clock x).2 :: _) = _
  have ht : ((t.picked.setK (startK (opOf o))).clock x).2 = 13 := by
    have hb1 : t9.picked.busy = true := h9.1
    rcases h5 with rfl | rfl
    · rw [tell_begins (u := t.picked) (k := startK (opOf 5)) rfl rfl rfl (split_one rfl rfl), h9e]
      have hd : (t9.picked.setK (startK (opOf 5))).dataByte = 3 := by
        show bitIf t9.picked.busy 1 + bitIf t9.en 2 + bitIf t9.prot 4 = 3
        rw [hb1, hen, hpr]; rfl
      rw [hd]; rfl
    · rw [tell_begins (u := t.picked) (k := startK (opOf 53)) rfl rfl rfl (split_one rfl rfl), h9e]
      have hd : (t9.picked.setK (startK (opOf 53))).dataByte = 0 := by
        show bitIf t9.quad 2 + bitIf t9.sus 128 = 0
        rw [hqd, hsu]; rfl
      rw [hd]; rfl
  rw [ht]
end Go.Proofs.YtjhjghakfedeeaaGreat
