/-
  The document's own commands and status, each call by a contract: the same words as the program's. No conditions but those of each statement.
-/
import Derived.Test.YtlemmabgbaleiaaGreatTurn
import Derived.Test.YtlemmabgbaleiaaGreatCalls
import Derived.Test.YtlemmabgbaleiaaGreatTell
namespace Go.Proofs.YtlemmabgbaleiaaGreat
open Go.RowKit Plain
set_option linter.unusedVariables false

theorem ref_1 (w : World) : Calls Tryz.prog 46 #[.int .i64 1] w (Tells 1 w) := by
  go_enter Tryz.func46, Tryz.ntmps46
  go_wp2
  refine bodyPost_ret (v := .tuple #[.agg #[.int .i64 1, .int .i64 0, .bool false, .int .i64 0, .int .i64 1, .bool true], .int .i64 0]) (by simp [results, Tryz.results46, go_sem]) rfl ⟨rfl, ?_⟩
  exact below_then (below_new _ _) (below_new _ _)
set_option maxRecDepth 100000 in
set_option maxHeartbeats 1000000 in
theorem ref_2 (w : World) : Calls Tryz.prog 46 #[.int .i64 2] w (Tells 2 w) := by
  go_enter Tryz.func46, Tryz.ntmps46
  go_wp2
  refine bodyPost_ret (v := .tuple #[.agg #[.int .i64 2, .int .i64 1, .bool false, .int .i64 0, .int .i64 1, .bool true], .int .i64 0]) (by simp [results, Tryz.results46, go_sem]) rfl ⟨rfl, ?_⟩
  exact below_then (below_new _ _) (below_new _ _)
set_option maxRecDepth 100000 in
set_option maxHeartbeats 1000000 in
theorem ref_3 (w : World) : Calls Tryz.prog 46 #[.int .i64 3] w (Tells 3 w) := by
  go_enter Tryz.func46, Tryz.ntmps46
  go_wp2
  refine bodyPost_ret (v := .tuple #[.agg #[.int .i64 3, .int .i64 1, .bool false, .int .i64 0, .int .i64 1, .bool false], .int .i64 0]) (by simp [results, Tryz.results46, go_sem]) rfl ⟨rfl, ?_⟩
  exact below_then (below_new _ _) (below_new _ _)
set_option maxRecDepth 100000 in
set_option maxHeartbeats 1000000 in
theorem ref_4 (w : World) : Calls Tryz.prog 46 #[.int .i64 4] w (Tells 4 w) := by
  go_enter Tryz.func46, Tryz.ntmps46
  go_wp2
  refine bodyPost_ret (v := .tuple #[.agg #[.int .i64 4, .int .i64 0, .bool false, .int .i64 0, .int .i64 0, .bool false], .int .i64 0]) (by simp [results, Tryz.results46, go_sem]) rfl ⟨rfl, ?_⟩
  exact below_then (below_new _ _) (below_new _ _)
set_option maxRecDepth 100000 in
set_option maxHeartbeats 1000000 in
theorem ref_5 (w : World) : Calls Tryz.prog 46 #[.int .i64 5] w (Tells 5 w) := by
  go_enter Tryz.func46, Tryz.ntmps46
  go_wp2
  refine bodyPost_ret (v := .tuple #[.agg #[.int .i64 5, .int .i64 0, .bool false, .int .i64 0, .int .i64 1, .bool false], .int .i64 0]) (by simp [results, Tryz.results46, go_sem]) rfl ⟨rfl, ?_⟩
  exact below_then (below_new _ _) (below_new _ _)
set_option maxRecDepth 100000 in
set_option maxHeartbeats 1000000 in
theorem ref_6 (w : World) : Calls Tryz.prog 46 #[.int .i64 6] w (Tells 6 w) := by
  go_enter Tryz.func46, Tryz.ntmps46
  go_wp2
  refine bodyPost_ret (v := .tuple #[.agg #[.int .i64 6, .int .i64 0, .bool false, .int .i64 0, .int .i64 0, .bool false], .int .i64 0]) (by simp [results, Tryz.results46, go_sem]) rfl ⟨rfl, ?_⟩
  exact below_then (below_new _ _) (below_new _ _)
set_option maxRecDepth 100000 in
set_option maxHeartbeats 1000000 in
theorem ref_32 (w : World) : Calls Tryz.prog 46 #[.int .i64 32] w (Tells 32 w) := by
  go_enter Tryz.func46, Tryz.ntmps46
  go_wp2
  refine bodyPost_ret (v := .tuple #[.agg #[.int .i64 32, .int .i64 1, .bool false, .int .i64 0, .int .i64 0, .bool false], .int .i64 0]) (by simp [results, Tryz.results46, go_sem]) rfl ⟨rfl, ?_⟩
  exact below_then (below_new _ _) (below_new _ _)
set_option maxRecDepth 100000 in
set_option maxHeartbeats 1000000 in
theorem ref_53 (w : World) : Calls Tryz.prog 46 #[.int .i64 53] w (Tells 53 w) := by
  go_enter Tryz.func46, Tryz.ntmps46
  go_wp2
  refine bodyPost_ret (v := .tuple #[.agg #[.int .i64 53, .int .i64 0, .bool false, .int .i64 0, .int .i64 1, .bool false], .int .i64 0]) (by simp [results, Tryz.results46, go_sem]) rfl ⟨rfl, ?_⟩
  exact below_then (below_new _ _) (below_new _ _)
set_option maxRecDepth 100000 in
set_option maxHeartbeats 1000000 in
theorem ref_90 (w : World) : Calls Tryz.prog 46 #[.int .i64 90] w (Tells 90 w) := by
  go_enter Tryz.func46, Tryz.ntmps46
  go_wp2
  refine bodyPost_ret (v := .tuple #[.agg #[.int .i64 90, .int .i64 1, .bool false, .int .i64 8, .int .i64 1, .bool false], .int .i64 0]) (by simp [results, Tryz.results46, go_sem]) rfl ⟨rfl, ?_⟩
  exact below_then (below_new _ _) (below_new _ _)
set_option maxRecDepth 100000 in
set_option maxHeartbeats 1000000 in
theorem ref_107 (w : World) : Calls Tryz.prog 46 #[.int .i64 107] w (Tells 107 w) := by
  go_enter Tryz.func46, Tryz.ntmps46
  go_wp2
  refine bodyPost_ret (v := .tuple #[.agg #[.int .i64 107, .int .i64 1, .bool false, .int .i64 8, .int .i64 4, .bool false], .int .i64 0]) (by simp [results, Tryz.results46, go_sem]) rfl ⟨rfl, ?_⟩
  exact below_then (below_new _ _) (below_new _ _)
set_option maxRecDepth 100000 in
set_option maxHeartbeats 1000000 in
theorem ref_117 (w : World) : Calls Tryz.prog 46 #[.int .i64 117] w (Tells 117 w) := by
  go_enter Tryz.func46, Tryz.ntmps46
  go_wp2
  refine bodyPost_ret (v := .tuple #[.agg #[.int .i64 117, .int .i64 0, .bool false, .int .i64 0, .int .i64 0, .bool false], .int .i64 0]) (by simp [results, Tryz.results46, go_sem]) rfl ⟨rfl, ?_⟩
  exact below_then (below_new _ _) (below_new _ _)
set_option maxRecDepth 100000 in
set_option maxHeartbeats 1000000 in
theorem ref_122 (w : World) : Calls Tryz.prog 46 #[.int .i64 122] w (Tells 122 w) := by
  go_enter Tryz.func46, Tryz.ntmps46
  go_wp2
  refine bodyPost_ret (v := .tuple #[.agg #[.int .i64 122, .int .i64 0, .bool false, .int .i64 0, .int .i64 0, .bool false], .int .i64 0]) (by simp [results, Tryz.results46, go_sem]) rfl ⟨rfl, ?_⟩
  exact below_then (below_new _ _) (below_new _ _)
set_option maxRecDepth 100000 in
set_option maxHeartbeats 1000000 in
theorem ref_159 (w : World) : Calls Tryz.prog 46 #[.int .i64 159] w (Tells 159 w) := by
  go_enter Tryz.func46, Tryz.ntmps46
  go_wp2
  refine bodyPost_ret (v := .tuple #[.agg #[.int .i64 159, .int .i64 0, .bool false, .int .i64 0, .int .i64 1, .bool false], .int .i64 0]) (by simp [results, Tryz.results46, go_sem]) rfl ⟨rfl, ?_⟩
  exact below_then (below_new _ _) (below_new _ _)
set_option maxRecDepth 100000 in
set_option maxHeartbeats 1000000 in
theorem ref_235 (w : World) : Calls Tryz.prog 46 #[.int .i64 235] w (Tells 235 w) := by
  go_enter Tryz.func46, Tryz.ntmps46
  go_wp2
  refine bodyPost_ret (v := .tuple #[.agg #[.int .i64 235, .int .i64 4, .bool true, .int .i64 4, .int .i64 4, .bool false], .int .i64 0]) (by simp [results, Tryz.results46, go_sem]) rfl ⟨rfl, ?_⟩
  exact below_then (below_new _ _) (below_new _ _)
set_option maxRecDepth 100000 in
set_option maxHeartbeats 1000000 in
theorem ref_none (b : Int) (w : World) (h : b ≠ 1 ∧ b ≠ 2 ∧ b ≠ 3 ∧ b ≠ 4 ∧ b ≠ 5 ∧ b ≠ 6 ∧ b ≠ 32 ∧ b ≠ 53 ∧ b ≠ 90 ∧ b ≠ 107 ∧ b ≠ 117 ∧ b ≠ 122 ∧ b ≠ 159 ∧ b ≠ 235) : Calls Tryz.prog 46 #[.int .i64 b] w fun e w' => e = .returned (.tuple #[.agg #[.int .i64 0, .int .i64 0, .bool false, .int .i64 0, .int .i64 0, .bool false], .int .i64 400]) ∧ Below w.heap.size w w' := by
  obtain ⟨h1, h2, h3, h4, h5, h6, h7, h8, h9, h10, h11, h12, h13, h14⟩ := h
  go_enter Tryz.func46, Tryz.ntmps46
  go_wp2
  refine bodyPost_ret (v := .tuple #[.agg #[.int .i64 0, .int .i64 0, .bool false, .int .i64 0, .int .i64 0, .bool false], .int .i64 400]) (by simp [results, Tryz.results46, go_sem]) rfl ⟨rfl, ?_⟩
  exact below_then (below_new _ _) (below_new _ _)
theorem ref_any (b : Int) (w : World) : Calls Tryz.prog 46 #[.int .i64 b] w (Tells b w) := by
  by_cases h : isOp b = true
  · rcases (isOp_iff b).1 h with rfl | rfl | rfl | rfl | rfl | rfl | rfl | rfl | rfl | rfl | rfl | rfl | rfl | rfl
    · exact ref_1 w
    · exact ref_2 w
    · exact ref_3 w
    · exact ref_4 w
    · exact ref_5 w
    · exact ref_6 w
    · exact ref_32 w
    · exact ref_53 w
    · exact ref_90 w
    · exact ref_107 w
    · exact ref_117 w
    · exact ref_122 w
    · exact ref_159 w
    · exact ref_235 w
  · have h' := h
    rw [isOp_iff] at h'
    simp only [not_or] at h'
    exact (ref_none b w h').mono fun e w' ⟨he, hb⟩ => tells_none h he hb
/-- A command: its own byte, and no error. -/
theorem ref_first (a b c : Bool) (w : World) :
    Calls Tryz.prog 70 #[.bool a, .bool b, .bool c] w fun e w' => e = .returned (.int .i64 (fst a b c)) ∧ w = w' := by
  cases a <;> cases b <;> cases c <;> (
    go_enter Tryz.func70, Tryz.ntmps70
    go_wp2
    go_ret
    exact ⟨rfl, rfl⟩)
theorem ref_second (a b : Bool) (w : World) :
    Calls Tryz.prog 72 #[.bool a, .bool b] w fun e w' => e = .returned (.int .i64 (snd a b)) ∧ w = w' := by
  cases a <;> cases b <;> (
    go_enter Tryz.func72, Tryz.ntmps72
    go_wp2
    go_ret
    exact ⟨rfl, rfl⟩)
theorem ref_prot (p : Bool) (x : Int) (w : World) :
    Calls Tryz.prog 92 #[.bool p, .int .i64 x] w fun e w' => e = .returned (.tuple #[.bool (pB p x), .int .i64 (pE x)]) ∧ w = w' := by
  rcases Int.lt_or_le x 0 with h | h
  · have e1 : pB p x = false := by unfold pB; rw [decide_eq_false (by omega), Bool.and_false]
    have e2 : pE x = 500 := if_neg (by omega)
    have t1 : decide (x < 0) = true := decide_eq_true h
    rw [e1, e2]
    go_enter Tryz.func92, Tryz.ntmps92
    go_wp2
    go_ret2
    exact ⟨rfl, rfl⟩
  · rcases Int.lt_or_le x 4096 with h2 | h2
    · have e2 : pE x = 0 := if_pos ⟨h, h2⟩
      have e1 : pB p x = (p && decide (x < 2048)) := by unfold pB; congr 1; exact decide_eq_decide.mpr (by omega)
      have t1 : decide (x < 0) = false := decide_eq_false (by omega)
      have t2 : decide (4096 ≤ x) = false := decide_eq_false (by omega)
      rw [e1, e2]
      cases p
      · go_enter Tryz.func92, Tryz.ntmps92
        go_wp2
        go_ret2
        exact ⟨rfl, rfl⟩
      · go_enter Tryz.func92, Tryz.ntmps92
        go_wp2
        go_ret2
        exact ⟨rfl, rfl⟩
    · have e1 : pB p x = false := by unfold pB; rw [decide_eq_false (by omega), Bool.and_false]
      have e2 : pE x = 500 := if_neg (by omega)
      have t1 : decide (x < 0) = false := decide_eq_false (by omega)
      have t2 : decide (4096 ≤ x) = true := decide_eq_true h2
      rw [e1, e2]
      go_enter Tryz.func92, Tryz.ntmps92
      go_wp2
      go_ret2
      exact ⟨rfl, rfl⟩
end Go.Proofs.YtlemmabgbaleiaaGreat
