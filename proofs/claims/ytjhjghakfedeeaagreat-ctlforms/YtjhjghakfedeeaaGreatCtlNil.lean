/-
  What the law on forms wants: a nil controller's Run, a refused Write, and plain facts. Conditions: those of each statement.
-/
import Derived.Test.YtjhjghakfedeeaaGreatCtlLaws
namespace Go.Proofs.YtjhjghakfedeeaaGreat
open Go.RowKit Plain
set_option linter.unusedVariables false

theorem crun_nilptr (b at' r : Int) (w : World) : Calls Tryz.prog 34 #[.pointer none, .int .i64 b, .int .i64 at', .slice none 0 0, .int .i64 r] w fun e w' => e = .returned (.tuple #[.slice none 0 0, .int .i64 1]) ∧ w = w' := by
  go_enter Tryz.func34, Tryz.ntmps34
  go_wp2
  go_ret2
  exact ⟨rfl, rfl⟩
theorem cwrite_form (n kb bp : Nat) (k : K) (reg x : Int) (w : World) (h : KAt n kb bp w k) (hl : k.lost = false) (hx : x < 0 ∨ endI reg ≤ x) :
    Calls Tryz.prog 37 #[.pointer (some ⟨kb, 0, none⟩), .int .i64 reg, .int .i64 x] w fun e w' => e = .returned (.int .i64 1100) ∧ w' = w := by
  obtain ⟨R1, f1, R2, f2, lv, ds, B⟩ := h
  have c48 : w.cell? ⟨kb, 48, none⟩ = some (.bool k.lost) := B.lay.tail 8 rfl
  rw [hl] at c48
  have HEnd : Hid (∀ w, Calls Tryz.prog 79 #[.int .i64 reg] w fun e w' => e = .returned (.int .i64 (endI reg)) ∧ w' = w) := fun w => (end_any reg w).mono fun _ _ ⟨h1, h2⟩ => ⟨h1, h2.symm⟩
  clear B hl
  obtain h0 | h0 : x < 0 ∨ 0 ≤ x := by omega
  · go_enter Tryz.func37, Tryz.ntmps37
    go_wp2
    go_ret
    exact ⟨rfl, rfl⟩
  · have h1 : endI reg ≤ x := by omega
    obtain ⟨E, hE⟩ : ∃ E, endI reg = E := ⟨_, rfl⟩
    rw [hE] at h1 HEnd
    clear hE hx
    go_enter Tryz.func37, Tryz.ntmps37
    go_wp2_with (go_at_call 79; refine (HEnd.out _).mono ?_; rintro e w1 ⟨rfl, rfl⟩)
    go_ret
    exact ⟨rfl, rfl⟩
theorem cell_lit {w : World} {g : Nat} {cs : Array Value} {L : List Int} (h : w.heap[g]? = some (.cells cs 3 (0, 0))) (hc : cs.toList = L.map (Value.int .i64)) (j : Nat) (hj : j < L.length) : w.cell? ⟨g, j, none⟩ = some (.int .i64 (L.getD j 0)) := by
  rw [cell_of_row w g j cs 3 (0, 0) h, ← Array.getElem?_toList, hc, List.getElem?_map, List.getD_eq_getElem?_getD, List.getElem?_eq_getElem hj]
  rfl
theorem forms_facts (I : Nat) (hI : I < 8) (D : Nat) (h1 : 1 ≤ D) (h2 : D ≤ 1024) (J : Nat) (hJ : J < 2) : ∃ reg x z : Int,
    Hid ([-(D : Int), 4 + (D : Int), 3, 0, 1, 2, 4, 4].getD I 0 = reg) ∧ Hid ([0, 0, 0, -(D : Int), 4095 + (D : Int), 16 + (D : Int), 255 + (D : Int), -(D : Int)].getD I 0 = x) ∧ Hid ([-(D : Int), 4 + (D : Int)].getD J 0 = z) ∧ Hid (x < 0 ∨ endI reg ≤ x) ∧ Hid (z < 0 ∨ 4 < z) := by
  refine ⟨_, _, _, rfl, rfl, rfl, ?_, ?_⟩
  · rcases (show I = 0 ∨ I = 1 ∨ I = 2 ∨ I = 3 ∨ I = 4 ∨ I = 5 ∨ I = 6 ∨ I = 7 by omega) with rfl | rfl | rfl | rfl | rfl | rfl | rfl | rfl
    · exact .inr (by show endI (-(D : Int)) ≤ 0; rw [end_zero (by omega)]; exact Int.le_refl _)
    · exact .inr (by show endI (4 + (D : Int)) ≤ 0; rw [end_zero (by omega)]; exact Int.le_refl _)
    · exact .inr (by show endI 3 ≤ 0; decide)
    · exact .inl (by show -(D : Int) < 0; omega)
    · exact .inr (by show (4096 : Int) ≤ 4095 + (D : Int); omega)
    · exact .inr (by show (17 : Int) ≤ 16 + (D : Int); omega)
    · exact .inr (by show (256 : Int) ≤ 255 + (D : Int); omega)
    · exact .inl (by show -(D : Int) < 0; omega)
  · rcases (show J = 0 ∨ J = 1 by omega) with rfl | rfl
    · exact .inl (by show -(D : Int) < 0; omega)
    · exact .inr (by show (4 : Int) < 4 + (D : Int); omega)
/-- A controller with so many bytes that wait to go. -/
def kfull (s : St) (j : Nat) : K := { newK s with tx := numI (List.range j) }
theorem kfull_more (s : St) (j : Nat) (h : j < 16) : (kfull s j).wr 4 (j : Int) = (kfull s (j + 1), 0) := by
  rw [K.wr_data rfl (by omega) (by omega)]
  have hl : (numI (List.range j)).length = j := by rw [numI_length, List.length_range]
  have e1 : pushE (kfull s j).tx = 0 := by unfold pushE; rw [if_pos (by show (numI (List.range j)).length < 16; rw [hl]; exact h)]
  have e2 : pushL (kfull s j).tx (j : Int) = numI (List.range (j + 1)) := by
    unfold pushL
    rw [if_pos (by show (numI (List.range j)).length < 16; rw [hl]; exact h), List.range_succ]
    show numI (List.range j) ++ [(j : Int)] = _
    unfold numI
    rw [List.map_append]; rfl
  rw [e1, e2]
  rfl
theorem kfull_full (s : St) : (kfull s 16).wr 4 1 = (kfull s 16, 801) := by
  rw [K.wr_data rfl (by decide) (by decide)]
  rfl
theorem forms_runs (s : St) (D : Nat) (h1 : 1 ≤ D) (h2 : D ≤ 1024) : (newK s).runs (255 + (D : Int)) 0 [] 0 = (newK s, [], 1100) ∧ (newK s).runs 3 (4095 + (D : Int)) [] 1 = (newK s, [], 1100) ∧ (newK s).go = (newK s, 1100) ∧ (newK s).bind (-(D : Int)) = (newK s, 1100) ∧ (newK s).rd 4 = (newK s, 0, 800) ∧ (kfull s 16).rd 2 = (kfull s 16, 0, 0) ∧ newK s = kfull s 0 := by
  refine ⟨runs_form rfl ?_, runs_form rfl ?_, ?_, ?_, rfl, rfl, rfl⟩
  · refine fit_no (.inl ?_)
    unfold knB
    have : isOp (255 + (D : Int)) = false := by
      cases h : isOp (255 + (D : Int))
      · rfl
      · have := isOp_lt h; omega
    rw [this]; rfl
  · refine fit_no (.inr (.inl ?_))
    show plB 1 (4095 + (D : Int)) = false
    unfold plB
    rw [if_neg (by decide)]
    exact decide_eq_false (by omega)
  · have e : (newK s).runs (newK s).r0 (newK s).r1 (newK s).tx (newK s).r2 = (newK s, [], 1100) := runs_form rfl (by show fitC 0 0 [] 0 = false; decide)
    exact go_yes rfl (by show ((0 : Nat) : Int) + 0 ≤ 16; decide) (by decide) e
  · unfold K.bind
    rw [if_pos (by omega)]
theorem rd_none (s : St) (z : Int) (h : z < 0 ∨ 4 < z) : (newK s).rd z = (newK s, 0, 1100) := by
  unfold K.rd
  have hl0 : (newK s).lost = false := rfl
  rw [if_neg (by rw [hl0]; decide), if_neg (by omega), if_neg (by omega), if_neg (by omega), if_neg (by omega), if_neg (by omega)]
end Go.Proofs.YtjhjghakfedeeaaGreat
