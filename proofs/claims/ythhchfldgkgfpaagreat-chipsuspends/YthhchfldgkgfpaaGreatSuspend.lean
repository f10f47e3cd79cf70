/-
  An erase that is suspended and resumed: plain facts on the machine. Conditions: those of each statement.
-/
import Derived.Test.YthhchfldgkgfpaaGreatLost
namespace Go.Proofs.YthhchfldgkgfpaaGreat
open Go.RowKit Plain
set_option linter.unusedVariables false

theorem hid_name {α : Type} (a : α) : ∃ t, Hid (a = t) := ⟨a, rfl⟩
/-- A byte alone, at an idle chip, whatever is under way. -/
theorem say_byteW {s : St} (h : s.Idle) (b : Nat) (hb : b < 256) :
    s.say (wordL [b]) = if (startK ((s.wait 8).opFor b)).whole then (s.wait 8).obey (startK ((s.wait 8).opFor b)) else s.wait 8 := by
  unfold St.say
  rw [select_idle h, wordL_one, byteW (s := s.picked) rfl (picked_k h) b hb]
  have hw : s.picked.wait 8 = (s.wait 8).picked := wait_picked s 8
  have h8 := wait_idle h 8
  rw [hw]
  generalize s.wait 8 = t at h8
  dsimp only
  rw [picked_opFor]
  exact deselect_idle h8 _ (by show (0 : Nat) ≠ 160; decide)
/-- An erase under way. -/
structure St.Er (s : St) (A : ByteArray) (a left : Nat) (sus : Bool) : Prop where
  idle : s.Idle
  left : s.left = left
  sus : s.sus = sus
  en : s.en = true
  prot : s.prot = false
  quad : s.quad = false
  A : s.A = A
  er : s.erases = true
  wat : s.wat = a
theorem er_script (A : ByteArray) (a : Nat) (ha : a < 4096) : ((((newSt A).next [60]).say (wordL [6])).say (wordL [32, 0, a / 256, a % 256])).Er A a 60 false ∧ (((newSt A).next [60]).say (wordL [6])).sel = false := by
  have h1 : ((newSt A).next [60]).Rest := ⟨⟨rfl, rfl, rfl⟩, rfl, rfl⟩
  have h2 := rest_en h1 true
  rw [say_enable h1]
  refine ⟨?_, rfl⟩
  rw [say_erase h2 a ha, begin_under true a ⟨#[]⟩ rfl rfl]
  exact ⟨⟨rfl, rfl, rfl⟩, rfl, rfl, rfl, rfl, rfl, rfl, rfl, rfl⟩
theorem er_busy {s : St} {A : ByteArray} {a l : Nat} (h : s.Er A a l false) (hl : 0 < l) : s.busy = true := by
  unfold St.busy; rw [h.left, h.sus, decide_eq_true hl]; rfl
theorem er_still {s : St} {A : ByteArray} {a l : Nat} (h : s.Er A a l true) : s.busy = false := by
  unfold St.busy; rw [h.sus]; simp
theorem er_on {s : St} {A : ByteArray} {a l : Nat} (h : s.Er A a l false) (hl : 1 < l) : s.countDown.Er A a (l - 1) false := by
  unfold St.countDown
  rw [if_pos (er_busy h (by omega)), if_pos (by rw [h.left]; omega)]
  exact ⟨⟨h.idle.sel, h.idle.goes, h.idle.k⟩, by show s.left - 1 = _; rw [h.left], h.sus, h.en, h.prot, h.quad, h.A, h.er, h.wat⟩
theorem er_wait {s : St} {A : ByteArray} {a l : Nat} (h : s.Er A a l false) (j : Nat) (hj : j < l) : (s.wait j).Er A a (l - j) false := by
  induction j with
  | zero => exact h
  | succ j ih =>
    have h1 := er_on (ih (by omega)) (by omega)
    rw [show l - j - 1 = l - (j + 1) by omega] at h1
    exact h1
theorem er_suspend {s : St} {A : ByteArray} {a l : Nat} (h : s.Er A a l false) (hl : 8 < l) : (s.say (wordL [117])).Er A a (l - 8) true := by
  have h8 := er_wait h 8 hl
  rw [say_byteW h.idle 117 (by decide)]
  generalize s.wait 8 = t at h8
  have ho : t.opFor 117 = opOf 117 := by
    unfold St.opFor
    rw [show t.takes 117 = true by unfold St.takes; rw [if_pos (by decide)]]
    rfl
  rw [ho, if_pos (by decide)]
  unfold St.obey
  rw [if_neg (by decide), if_neg (by decide), if_pos (by decide)]
  refine ⟨⟨h8.idle.sel, h8.idle.goes, h8.idle.k⟩, h8.left, ?_, h8.en, h8.prot, h8.quad, h8.A, h8.er, h8.wat⟩
  show (decide (0 < t.left) && t.erases) = true
  rw [h8.left, h8.er, decide_eq_true (by omega)]
  rfl
theorem er_resume {s : St} {A : ByteArray} {a l : Nat} (h : s.Er A a l true) : (s.say (wordL [122])).Er A a l false := by
  have hb := er_still h
  rw [say_byteW h.idle 122 (by decide), wait_zero hb]
  have ho : s.opFor 122 = opOf 122 := by
    unfold St.opFor
    rw [show s.takes 122 = true by unfold St.takes; rw [hb, if_neg (by decide), if_neg (by decide), if_neg (by decide)]; rfl]
    rfl
  rw [ho, if_pos (by decide)]
  unfold St.obey
  rw [if_neg (by decide), if_neg (by decide), if_neg (by decide), if_pos (by decide)]
  exact ⟨⟨h.idle.sel, h.idle.goes, h.idle.k⟩, h.left, rfl, h.en, h.prot, h.quad, h.A, h.er, h.wat⟩
theorem er_first {s : St} {A : ByteArray} {a l : Nat} (h : s.Er A a l false) (hl : 0 < l) : s.first = 3 ∧ s.second = 0 := by
  constructor
  · unfold St.first; rw [er_busy h hl, h.en, h.prot]; rfl
  · unfold St.second; rw [h.quad, h.sus]; rfl
theorem er_asleep {s : St} {A : ByteArray} {a l : Nat} (h : s.Er A a l true) : s.first = 2 ∧ s.second = 128 := by
  constructor
  · unfold St.first; rw [er_still h, h.en, h.prot]; rfl
  · unfold St.second; rw [h.quad, h.sus]; rfl
theorem er_done {s : St} {A : ByteArray} {a : Nat} (h : s.Er A a 1 false) : s.countDown.A = erase A (a / 512) ⟨#[255]⟩ := by
  unfold St.countDown
  rw [if_pos (er_busy h (by decide)), if_neg (by rw [h.left]; decide)]
  show s.on ⟨#[255]⟩ = _
  unfold St.on
  rw [h.er, h.wat, h.A]
  rfl
theorem er_opFor {s : St} {A : ByteArray} {a l : Nat} (h : s.Er A a l true) : s.opFor 3 = opOf 3 := by
  unfold St.opFor
  rw [show s.takes 3 = true by unfold St.takes; rw [er_still h, if_neg (by decide), if_neg (by decide), if_neg (by decide)]; rfl]
  rfl
theorem er_read {s : St} {A : ByteArray} {a l : Nat} (h : s.Er A a l true) (R : List Nat) : (s.say (bitsOf 3 ++ R)).Er A a l true := by
  have hb := er_still h
  have ho : (s.wait 8).opFor 3 = opOf 3 := by rw [wait_zero hb]; exact er_opFor h
  obtain ⟨k', m', e1, e2, e3⟩ := say_known h.idle 3 (by decide) (by rw [ho]; rfl) R
  have e4 : s.say (bitsOf 3 ++ R) = { s.wait (8 + R.length) with made := m' } := by
    rw [e1]
    split
    · exact obey_other _ _ (by rw [e2, ho]; decide)
    · rfl
  rw [e4, wait_zero hb]
  exact ⟨⟨h.idle.sel, h.idle.goes, h.idle.k⟩, h.left, h.sus, h.en, h.prot, h.quad, h.A, h.er, h.wat⟩
/-- A head with an address, of an idle chip that is not busy. -/
theorem run_head_idle {s : St} (h : s.Idle) (hq : s.busy = false) (b : Nat) (hb : b < 256) (hop : s.opFor b = opOf b) (ha : (opOf b).addr = 1) (x y z : Nat) (hx : x < 256) (hy : y < 256) (hz : z < 256) (R : List Nat) :
    s.picked.run (wordL [b, x, y, z] ++ R) = ((s.picked.setK (addrK (opOf b) ((x * 65536 + y * 256 + z) % 4096))).run R |>.1, List.replicate 32 15 ++ ((s.picked.setK (addrK (opOf b) ((x * 65536 + y * 256 + z) % 4096))).run R).2) := by
  have hp : nextPart (opOf b) 0 = 1 := by
    unfold nextPart
    rw [if_pos ⟨by decide, by show 0 < (over (opOf b).addr 24).2; rw [ha]; decide⟩]
  have hqp : s.picked.busy = false := by rw [picked_busy]; exact hq
  have e1 : wordL [b, x, y, z] = bitsOf b ++ wordL [x, y, z] := rfl
  rw [e1, List.append_assoc, run_append, run_byte (s := s.picked) hqp rfl (picked_k h) b hb, picked_opFor, hop]
  show (((s.picked.setK (startK (opOf b))).run (wordL [x, y, z] ++ R)).1, List.replicate 8 15 ++ ((s.picked.setK (startK (opOf b))).run (wordL [x, y, z] ++ R)).2) = _
  rw [run_append, run_addr (s := s.picked) hqp rfl (show (startK (opOf b)).part = 1 from hp) ha rfl rfl x y z hx hy hz]
  have e2 : Cmd.turn { startK (opOf b) with adr := (x * 65536 + y * 256 + z) % 4096 } = addrK (opOf b) ((x * 65536 + y * 256 + z) % 4096) := by
    unfold Cmd.turn addrK startK
    show ({ noCmd with op := opOf b, adr := _, part := nextPart (opOf b) (nextPart (opOf b) 0) } : Cmd) = _
    rw [hp]
  rw [e2]
  show (_, List.replicate 8 15 ++ (List.replicate 24 15 ++ _)) = _
  rw [← List.append_assoc, List.replicate_append_replicate]
theorem er_hears {s : St} {A : ByteArray} {a0 l : Nat} (h : s.Er A a0 l true) (a : Nat) (ha : a < 4096) (m : Nat) :
    s.hears (wordL [3, 0, a / 256, a % 256] ++ List.replicate (8 * m) 15) = List.replicate 32 15 ++ outBs ((List.range m).map fun i => (ub A ((a + i) % A.size)).toNat) := by
  have hq := er_still h
  have hqp : s.picked.busy = false := by rw [picked_busy]; exact hq
  unfold St.hears
  rw [select_idle h.idle, run_head_idle h.idle hq 3 (by decide) (er_opFor h) rfl 0 (a / 256) (a % 256) (by decide) (by omega) (by omega), adr_word a ha]
  obtain ⟨s', k', h1, _⟩ := run_outs (s := s.picked) (k := addrK (opOf 3) a) hqp rfl rfl (split_one rfl rfl) rfl m (List.replicate (8 * m) 15) (by simp)
  rw [h1]
  dsimp only
  congr 2
  refine List.map_congr_left fun i _ => ?_
  show (ub s.A ((a + (0 + i)) % s.A.size)).toNat = _
  rw [Nat.zero_add, h.A]
end Go.Proofs.YthhchfldgkgfpaaGreat
