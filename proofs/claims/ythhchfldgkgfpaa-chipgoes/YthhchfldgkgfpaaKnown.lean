/-
  What clocks leave of a chip whose command is known, whatever they are: all but the command itself. Plain facts on the machine. Conditions: those of each statement.
-/
import Derived.Test.YthhchfldgkgfpaaActs
namespace Go.Proofs.Ythhchfldgkgfpaa
open Go.RowKit Plain
set_option linter.unusedVariables false

/-- With another command, looked up or not. -/
def St.setM (s : St) (k : Cmd) (m : Bool) : St := { s with k := k, made := m }
theorem countDown_setM (s : St) (k : Cmd) (m : Bool) : (s.setM k m).countDown = s.countDown.setM k m := by
  unfold St.countDown
  by_cases hb : s.busy = true
  · rw [if_pos (show (s.setM k m).busy = true from hb), if_pos hb]
    by_cases h0 : 0 < s.left - 1
    · rw [if_pos (show 0 < (s.setM k m).left - 1 from h0), if_pos h0]; rfl
    · rw [if_neg (show ¬ 0 < (s.setM k m).left - 1 from h0), if_neg h0]; rfl
  · rw [if_neg (show ¬ (s.setM k m).busy = true from hb), if_neg hb]
theorem wait_setM (s : St) (k : Cmd) (m : Bool) (j : Nat) : (s.setM k m).wait j = (s.wait j).setM k m := by
  induction j with
  | zero => rfl
  | succ j ih => show ((s.setM k m).wait j).countDown = _; rw [ih, countDown_setM]; rfl
theorem nextPart_ne0 (o : Op) (p : Nat) : nextPart o p ≠ 0 := by
  unfold nextPart
  repeat' split
  all_goals omega
theorem nextPart_ne2 {o : Op} (hm : o.mode = false) (p : Nat) : nextPart o p ≠ 2 := by
  have h : (splitO o 2).2 = 0 := by simp [splitO, hm]
  unfold nextPart
  repeat' split
  all_goals omega
theorem setK_setM (s : St) (k : Cmd) : s.setK k = s.setM k s.made := rfl
theorem heard_known (t : St) (x : Nat) (h0 : t.k.part ≠ 0) (h2 : t.k.part ≠ 2) (hm : t.k.op.mode = false) :
    ∃ k' m', (t.heard x).1 = t.setM k' m' ∧ k'.op = t.k.op ∧ k'.mode = t.k.mode ∧ k'.part ≠ 0 ∧ k'.part ≠ 2 ∧ (4 ≤ t.k.part → k'.part = t.k.part) := by
  unfold St.heard
  by_cases hs : t.sel = false
  · rw [if_pos hs]; exact ⟨t.k, t.made, rfl, rfl, rfl, h0, h2, fun _ => rfl⟩
  · rw [if_neg hs]
    by_cases hq : t.k.speaks = true
    · rw [if_pos hq]
      show ∃ k' m', t.begun.setK t.begun.k.told = t.setM k' m' ∧ _
      have hb : ∃ k1 m1, t.begun = t.setM k1 m1 ∧ k1.op = t.k.op ∧ k1.mode = t.k.mode ∧ k1.part = t.k.part := by
        unfold St.begun
        split
        · unfold St.looked
          split
          · exact ⟨_, _, rfl, rfl, rfl, rfl⟩
          · exact ⟨_, _, rfl, rfl, rfl, rfl⟩
        · exact ⟨t.k, t.made, rfl, rfl, rfl, rfl⟩
      obtain ⟨k1, m1, e1, e2, e3, e4⟩ := hb
      rw [e1]
      have ht : ∀ k : Cmd, k.told.op = k.op ∧ k.told.mode = k.mode ∧ k.told.part = k.part := fun k => by
        unfold Cmd.told; split <;> exact ⟨rfl, rfl, rfl⟩
      obtain ⟨i1, i2, i3⟩ := ht k1
      exact ⟨k1.told, m1, rfl, i1.trans e2, i2.trans e3, by rw [i3, e4]; exact h0, by rw [i3, e4]; exact h2, fun _ => by rw [i3, e4]⟩
    · rw [if_neg hq]
      show ∃ k' m', t.hear x = t.setM k' m' ∧ _
      unfold St.hear
      split
      · rename_i hc
        unfold St.complete
        have p0 : ¬ (t.setK (t.k.came x)).k.part = 0 := h0
        have p2 : ¬ (t.setK (t.k.came x)).k.part = 2 := h2
        rw [if_neg p0]
        by_cases p1 : (t.setK (t.k.came x)).k.part = 1
        · rw [if_pos p1]
          refine ⟨_, _, rfl, rfl, rfl, nextPart_ne0 _ _, nextPart_ne2 hm _, fun h4 => ?_⟩
          have : t.k.part = 1 := p1
          omega
        · rw [if_neg p1, if_neg p2]
          by_cases p4 : (t.setK (t.k.came x)).k.part = 4
          · rw [if_pos p4]
            exact ⟨_, _, rfl, rfl, rfl, h0, h2, fun _ => rfl⟩
          · rw [if_neg p4]
            refine ⟨_, _, rfl, rfl, rfl, nextPart_ne0 _ _, nextPart_ne2 hm _, fun h4 => ?_⟩
            have p4' : t.k.part ≠ 4 := p4
            have hsp : t.k.split.2 = 0 := by
              unfold Cmd.split splitO
              rw [if_neg (by omega), if_neg (by omega), if_neg (by omega), if_neg (by omega), if_neg (by omega)]
            omega
      · exact ⟨_, _, rfl, rfl, rfl, h0, h2, fun _ => rfl⟩
theorem run_known (s : St) (X : List Nat) (h0 : s.k.part ≠ 0) (h2 : s.k.part ≠ 2) (hm : s.k.op.mode = false) :
    ∃ k' m', (s.run X).1 = (s.wait X.length).setM k' m' ∧ k'.op = s.k.op ∧ k'.mode = s.k.mode ∧ k'.part ≠ 0 ∧ k'.part ≠ 2 ∧ (4 ≤ s.k.part → k'.part = s.k.part) := by
  induction X generalizing s with
  | nil => exact ⟨s.k, s.made, rfl, rfl, rfl, h0, h2, fun _ => rfl⟩
  | cons x r ih =>
    have hk := countDown_k s
    obtain ⟨k1, m1, e1, e2, e3, e4, e5, e6⟩ := heard_known s.countDown x (by rw [hk]; exact h0) (by rw [hk]; exact h2) (by rw [hk]; exact hm)
    rw [hk] at e2 e3 e6
    obtain ⟨k2, m2, i1, i2, i3, i4, i5, i6⟩ := ih (s.countDown.setM k1 m1) e4 e5 (by show k1.op.mode = false; rw [e2]; exact hm)
    refine ⟨k2, m2, ?_, i2.trans e2, i3.trans e3, i4, i5, fun h4 => ?_⟩
    · show ((s.countDown.heard x).1.run r).1 = _
      rw [e1, i1, wait_setM, wait_succ]
      rfl
    · have := e6 h4
      rw [i6 (by show 4 ≤ k1.part; omega)]
      exact this
/-- A chip that a command left as it was, but for what it is like. -/
theorem setM_k (s : St) (h : s.Idle) (m : Bool) : ({ s with made := m } : St).Idle := ⟨h.sel, h.goes, h.k⟩
theorem deselect_setM {s : St} (h : s.Idle) (k : Cmd) (m : Bool) (hm : k.mode ≠ 160) : (s.picked.setM k m).deselect = if k.whole then ({ s with made := m } : St).obey k else { s with made := m } :=
  deselect_idle (setM_k s h m) k hm
/-- Bytes of commands that do nothing at a busy chip. -/
theorem startK_part (o : Op) : (startK o).part ≠ 0 := nextPart_ne0 o 0
theorem opOf_mode_all : ∀ b : Fin 256, b.val ≠ 235 → (opOf b.val).mode = false := by decide +kernel
theorem opOf_mode (b : Nat) (h : b < 256) (hb : b ≠ 235) : (opOf b).mode = false := opOf_mode_all ⟨b, h⟩ hb
/-- A byte, and any clocks behind it, at an idle chip. -/
theorem say_known {s : St} (h : s.Idle) (b : Nat) (hb : b < 256) (hmd : ((s.wait 8).opFor b).mode = false) (R : List Nat) :
    ∃ k' m', s.say (bitsOf b ++ R) = (if k'.whole then ({ s.wait (8 + R.length) with made := m' } : St).obey k' else { s.wait (8 + R.length) with made := m' }) ∧ k'.op = (s.wait 8).opFor b ∧ k'.mode = 0 := by
  unfold St.say
  rw [select_idle h, run_append, byteW (s := s.picked) rfl (picked_k h) b hb]
  have hw : s.picked.wait 8 = (s.wait 8).picked := wait_picked s 8
  have h8 := wait_idle h 8
  have ha : (s.wait 8).wait R.length = s.wait (8 + R.length) := wait_add s 8 R.length
  rw [hw]
  have hmode := hmd
  generalize s.wait 8 = t at h8 ha hmode ⊢
  dsimp only
  rw [picked_opFor]
  obtain ⟨k', m', e1, e2, e3, e4, e5, e6⟩ := run_known (t.picked.setK (startK (t.opFor b))) R (startK_part _) (nextPart_ne2 hmode 0) hmode
  refine ⟨k', m', ?_, e2, e3⟩
  rw [e1]
  have hi := wait_idle h8 R.length
  rw [ha] at hi
  have e7 : (t.picked.setK (startK (t.opFor b))).wait R.length = (s.wait (8 + R.length)).picked.setM (startK (t.opFor b)) t.made := by
    rw [setK_setM, wait_setM, wait_picked, ha]; rfl
  rw [e7]
  show ((s.wait (8 + R.length)).picked.setM k' m').deselect = _
  exact deselect_setM hi k' m' (by rw [e3]; show (0 : Nat) ≠ 160; decide)
end Go.Proofs.Ythhchfldgkgfpaa
