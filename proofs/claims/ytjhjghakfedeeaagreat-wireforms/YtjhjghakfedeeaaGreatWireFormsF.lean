/-
  What the law on phases that may not be wants: plain facts. Nothing of the program is named.
-/
import Derived.Test.YtjhjghakfedeeaaGreatSolo
namespace Go.Proofs.YtjhjghakfedeeaaGreat
open Go.RowKit Plain
set_option linter.unusedVariables false

/-- Fifteen phases that may not be. -/
def badsL (D : Nat) : List Ph := [(0, [], 0, 0), (1, [], 0, 0), (2, [1], 0, 0), (1, [256], 0, 0), (1, [-(D : Int)], 0, 0), (4, List.replicate (512 + D) 0, 0, 0), (1, [], 4, 0), (0, [], -(D : Int), 0), (0, [], 400 + (D : Int), 0), (1, [], 0, -(D : Int)), (4, [], 0, 512 + (D : Int)), (0, [], 0, 1), (1, [1], 0, 1), (1, [1], 1, 0), (0, [], 1, 1)]
theorem okP_none {l c r : Int} (h : (if c = 0 then decide (0 < bcI l) && (decide (0 < r) && decide (r ≤ 512)) else decide (r = 0) && (decide (l = 0) && (decide (0 < c) && decide (c ≤ 400)))) = false) : okP (l, [], c, r) = false := by
  unfold okP
  rw [if_neg (by simp)]
  exact h
theorem okP_some {l c r : Int} {L : List Int} (h0 : 0 < L.length) (h : (decide (c = 0) && (decide (r = 0) && (decide (0 < bcI l) && fewB L))) = false) : okP (l, L, c, r) = false := by
  unfold okP
  rw [if_pos h0]
  exact h
theorem bads_no (D : Nat) (h1 : 1 ≤ D) (h2 : D ≤ 1024) (I : Nat) (hI : I < 15) : ∃ p, (badsL D)[I]? = some p ∧ okP p = false ∧ p.2.1.length ≤ 1536 := by
  rcases (show I = 0 ∨ I = 1 ∨ I = 2 ∨ I = 3 ∨ I = 4 ∨ I = 5 ∨ I = 6 ∨ I = 7 ∨ I = 8 ∨ I = 9 ∨ I = 10 ∨ I = 11 ∨ I = 12 ∨ I = 13 ∨ I = 14 by omega) with rfl | rfl | rfl | rfl | rfl | rfl | rfl | rfl | rfl | rfl | rfl | rfl | rfl | rfl | rfl
  · exact ⟨_, rfl, by decide, by simp⟩
  · exact ⟨_, rfl, by decide, by simp⟩
  · exact ⟨_, rfl, by decide, by simp⟩
  · exact ⟨_, rfl, by decide, by simp⟩
  · refine ⟨_, rfl, okP_some (by simp) ?_, by simp⟩
    have : fewB [-(D : Int)] = false := by
      unfold fewB byB
      simp only [List.length_cons, List.length_nil, List.all_cons, List.all_nil, Bool.and_true, Bool.and_eq_false_iff, decide_eq_false_iff_not]
      omega
    rw [this]; rfl
  · refine ⟨_, rfl, okP_some (by simp; omega) ?_, by simp; omega⟩
    have : fewB (List.replicate (512 + D) 0) = false := by
      unfold fewB
      rw [List.length_replicate, decide_eq_false (by omega)]; rfl
    rw [this]; rfl
  · exact ⟨_, rfl, by decide, by simp⟩
  · refine ⟨_, rfl, okP_none ?_, by simp⟩
    rw [if_neg (by omega), decide_eq_false (show ¬ (0 < -(D : Int)) by omega)]; rfl
  · refine ⟨_, rfl, okP_none ?_, by simp⟩
    rw [if_neg (by omega), decide_eq_false (show ¬ (400 + (D : Int) ≤ 400) by omega), Bool.and_false]; rfl
  · refine ⟨_, rfl, okP_none ?_, by simp⟩
    rw [if_pos rfl, decide_eq_false (show ¬ (0 < -(D : Int)) by omega)]; rfl
  · refine ⟨_, rfl, okP_none ?_, by simp⟩
    rw [if_pos rfl, decide_eq_false (show ¬ (512 + (D : Int) ≤ 512) by omega), Bool.and_false]; rfl
  · exact ⟨_, rfl, by decide, by simp⟩
  · exact ⟨_, rfl, by decide, by simp⟩
  · exact ⟨_, rfl, by decide, by simp⟩
  · exact ⟨_, rfl, by decide, by simp⟩
/-- The law's row: an idle phase, then the bad one. -/
theorem bad_row (p : Ph) (h : okP p = false) (hl : p.2.1.length ≤ 1536) : okR [(0, [], 3, 0), p] = false ∧ PFit [(0, [], 3, 0), p] := by
  constructor
  · rw [okR_cons, okR_cons, h]; simp
  · refine ⟨by show 2 * 48 ≤ 140737488351232; decide, fun q hq => ?_⟩
    simp at hq
    rcases hq with rfl | rfl
    · show 0 * 8 ≤ 140737488351232; decide
    · omega
end Go.Proofs.YtjhjghakfedeeaaGreat
