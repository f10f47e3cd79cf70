/-
  The commands and their parts: what the program and the document answer for any number, each by one contract. No conditions.
-/
import Derived.Test.YtbjaogcejcfpbaaInts
namespace Go.Proofs.Ytbjaogcejcfpbaa
open Go.RowKit
set_option linter.unusedVariables false

/-- The commands' bytes, rising. -/
def opL : List Int := [1, 2, 3, 4, 5, 6, 32, 53, 90, 107, 117, 122, 159, 235]
/-- Is b a command? -/
def isOp (b : Int) : Bool := opL.contains b
/-- The parts of what is told of the number b. -/
def opB (b : Int) : Int := if isOp b = true then b else 0
def opA (b : Int) : Int := if b = 2 ∨ b = 3 ∨ b = 32 ∨ b = 90 ∨ b = 107 then 1 else if b = 235 then 4 else 0
def opM (b : Int) : Bool := b == 235
def opD (b : Int) : Int := if b = 90 ∨ b = 107 then 8 else if b = 235 then 4 else 0
def opN (b : Int) : Int := if b = 1 ∨ b = 2 ∨ b = 3 ∨ b = 5 ∨ b = 53 ∨ b = 90 ∨ b = 159 then 1 else if b = 107 ∨ b = 235 then 4 else 0
def opI (b : Int) : Bool := b == 1 || b == 2
def opE (b : Int) : Int := if isOp b = true then 0 else 400
/-- What is answered for the number b. -/
def Tells (b : Int) (w : World) (e : Ending) (w' : World) : Prop :=
  e = .returned (.tuple #[.agg #[.int .i64 (opB b), .int .i64 (opA b), .bool (opM b), .int .i64 (opD b), .int .i64 (opN b), .bool (opI b)], .int .i64 (opE b)]) ∧ Below w.heap.size w w'

theorem isOp_iff (b : Int) : isOp b = true ↔ b = 1 ∨ b = 2 ∨ b = 3 ∨ b = 4 ∨ b = 5 ∨ b = 6 ∨ b = 32 ∨ b = 53 ∨ b = 90 ∨ b = 107 ∨ b = 117 ∨ b = 122 ∨ b = 159 ∨ b = 235 := by
  simp [isOp, opL]
set_option maxRecDepth 100000 in
set_option maxHeartbeats 1000000 in
theorem of_1 (w : World) : Calls Try.prog 18 #[.int .i64 1] w (Tells 1 w) := by
  go_enter Try.func18, Try.ntmps18
  go_wp2
  refine bodyPost_ret (v := .tuple #[.agg #[.int .i64 1, .int .i64 0, .bool false, .int .i64 0, .int .i64 1, .bool true], .int .i64 0]) (by simp [results, Try.results18, go_sem]) rfl ⟨rfl, ?_⟩
  exact below_then (below_new _ _) (below_new _ _)
set_option maxRecDepth 100000 in
set_option maxHeartbeats 1000000 in
theorem of_2 (w : World) : Calls Try.prog 18 #[.int .i64 2] w (Tells 2 w) := by
  go_enter Try.func18, Try.ntmps18
  go_wp2
  refine bodyPost_ret (v := .tuple #[.agg #[.int .i64 2, .int .i64 1, .bool false, .int .i64 0, .int .i64 1, .bool true], .int .i64 0]) (by simp [results, Try.results18, go_sem]) rfl ⟨rfl, ?_⟩
  exact below_then (below_new _ _) (below_new _ _)
set_option maxRecDepth 100000 in
set_option maxHeartbeats 1000000 in
theorem of_3 (w : World) : Calls Try.prog 18 #[.int .i64 3] w (Tells 3 w) := by
  go_enter Try.func18, Try.ntmps18
  go_wp2
  refine bodyPost_ret (v := .tuple #[.agg #[.int .i64 3, .int .i64 1, .bool false, .int .i64 0, .int .i64 1, .bool false], .int .i64 0]) (by simp [results, Try.results18, go_sem]) rfl ⟨rfl, ?_⟩
  exact below_then (below_new _ _) (below_new _ _)
set_option maxRecDepth 100000 in
set_option maxHeartbeats 1000000 in
theorem of_4 (w : World) : Calls Try.prog 18 #[.int .i64 4] w (Tells 4 w) := by
  go_enter Try.func18, Try.ntmps18
  go_wp2
  refine bodyPost_ret (v := .tuple #[.agg #[.int .i64 4, .int .i64 0, .bool false, .int .i64 0, .int .i64 0, .bool false], .int .i64 0]) (by simp [results, Try.results18, go_sem]) rfl ⟨rfl, ?_⟩
  exact below_then (below_new _ _) (below_new _ _)
set_option maxRecDepth 100000 in
set_option maxHeartbeats 1000000 in
theorem of_5 (w : World) : Calls Try.prog 18 #[.int .i64 5] w (Tells 5 w) := by
  go_enter Try.func18, Try.ntmps18
  go_wp2
  refine bodyPost_ret (v := .tuple #[.agg #[.int .i64 5, .int .i64 0, .bool false, .int .i64 0, .int .i64 1, .bool false], .int .i64 0]) (by simp [results, Try.results18, go_sem]) rfl ⟨rfl, ?_⟩
  exact below_then (below_new _ _) (below_new _ _)
set_option maxRecDepth 100000 in
set_option maxHeartbeats 1000000 in
theorem of_6 (w : World) : Calls Try.prog 18 #[.int .i64 6] w (Tells 6 w) := by
  go_enter Try.func18, Try.ntmps18
  go_wp2
  refine bodyPost_ret (v := .tuple #[.agg #[.int .i64 6, .int .i64 0, .bool false, .int .i64 0, .int .i64 0, .bool false], .int .i64 0]) (by simp [results, Try.results18, go_sem]) rfl ⟨rfl, ?_⟩
  exact below_then (below_new _ _) (below_new _ _)
set_option maxRecDepth 100000 in
set_option maxHeartbeats 1000000 in
theorem of_32 (w : World) : Calls Try.prog 18 #[.int .i64 32] w (Tells 32 w) := by
  go_enter Try.func18, Try.ntmps18
  go_wp2
  refine bodyPost_ret (v := .tuple #[.agg #[.int .i64 32, .int .i64 1, .bool false, .int .i64 0, .int .i64 0, .bool false], .int .i64 0]) (by simp [results, Try.results18, go_sem]) rfl ⟨rfl, ?_⟩
  exact below_then (below_new _ _) (below_new _ _)
set_option maxRecDepth 100000 in
set_option maxHeartbeats 1000000 in
theorem of_53 (w : World) : Calls Try.prog 18 #[.int .i64 53] w (Tells 53 w) := by
  go_enter Try.func18, Try.ntmps18
  go_wp2
  refine bodyPost_ret (v := .tuple #[.agg #[.int .i64 53, .int .i64 0, .bool false, .int .i64 0, .int .i64 1, .bool false], .int .i64 0]) (by simp [results, Try.results18, go_sem]) rfl ⟨rfl, ?_⟩
  exact below_then (below_new _ _) (below_new _ _)
set_option maxRecDepth 100000 in
set_option maxHeartbeats 1000000 in
theorem of_90 (w : World) : Calls Try.prog 18 #[.int .i64 90] w (Tells 90 w) := by
  go_enter Try.func18, Try.ntmps18
  go_wp2
  refine bodyPost_ret (v := .tuple #[.agg #[.int .i64 90, .int .i64 1, .bool false, .int .i64 8, .int .i64 1, .bool false], .int .i64 0]) (by simp [results, Try.results18, go_sem]) rfl ⟨rfl, ?_⟩
  exact below_then (below_new _ _) (below_new _ _)
set_option maxRecDepth 100000 in
set_option maxHeartbeats 1000000 in
theorem of_107 (w : World) : Calls Try.prog 18 #[.int .i64 107] w (Tells 107 w) := by
  go_enter Try.func18, Try.ntmps18
  go_wp2
  refine bodyPost_ret (v := .tuple #[.agg #[.int .i64 107, .int .i64 1, .bool false, .int .i64 8, .int .i64 4, .bool false], .int .i64 0]) (by simp [results, Try.results18, go_sem]) rfl ⟨rfl, ?_⟩
  exact below_then (below_new _ _) (below_new _ _)
set_option maxRecDepth 100000 in
set_option maxHeartbeats 1000000 in
theorem of_117 (w : World) : Calls Try.prog 18 #[.int .i64 117] w (Tells 117 w) := by
  go_enter Try.func18, Try.ntmps18
  go_wp2
  refine bodyPost_ret (v := .tuple #[.agg #[.int .i64 117, .int .i64 0, .bool false, .int .i64 0, .int .i64 0, .bool false], .int .i64 0]) (by simp [results, Try.results18, go_sem]) rfl ⟨rfl, ?_⟩
  exact below_then (below_new _ _) (below_new _ _)
set_option maxRecDepth 100000 in
set_option maxHeartbeats 1000000 in
theorem of_122 (w : World) : Calls Try.prog 18 #[.int .i64 122] w (Tells 122 w) := by
  go_enter Try.func18, Try.ntmps18
  go_wp2
  refine bodyPost_ret (v := .tuple #[.agg #[.int .i64 122, .int .i64 0, .bool false, .int .i64 0, .int .i64 0, .bool false], .int .i64 0]) (by simp [results, Try.results18, go_sem]) rfl ⟨rfl, ?_⟩
  exact below_then (below_new _ _) (below_new _ _)
set_option maxRecDepth 100000 in
set_option maxHeartbeats 1000000 in
theorem of_159 (w : World) : Calls Try.prog 18 #[.int .i64 159] w (Tells 159 w) := by
  go_enter Try.func18, Try.ntmps18
  go_wp2
  refine bodyPost_ret (v := .tuple #[.agg #[.int .i64 159, .int .i64 0, .bool false, .int .i64 0, .int .i64 1, .bool false], .int .i64 0]) (by simp [results, Try.results18, go_sem]) rfl ⟨rfl, ?_⟩
  exact below_then (below_new _ _) (below_new _ _)
set_option maxRecDepth 100000 in
set_option maxHeartbeats 1000000 in
theorem of_235 (w : World) : Calls Try.prog 18 #[.int .i64 235] w (Tells 235 w) := by
  go_enter Try.func18, Try.ntmps18
  go_wp2
  refine bodyPost_ret (v := .tuple #[.agg #[.int .i64 235, .int .i64 4, .bool true, .int .i64 4, .int .i64 4, .bool false], .int .i64 0]) (by simp [results, Try.results18, go_sem]) rfl ⟨rfl, ?_⟩
  exact below_then (below_new _ _) (below_new _ _)
set_option maxRecDepth 100000 in
set_option maxHeartbeats 1000000 in
theorem of_none (b : Int) (w : World) (h : b ≠ 1 ∧ b ≠ 2 ∧ b ≠ 3 ∧ b ≠ 4 ∧ b ≠ 5 ∧ b ≠ 6 ∧ b ≠ 32 ∧ b ≠ 53 ∧ b ≠ 90 ∧ b ≠ 107 ∧ b ≠ 117 ∧ b ≠ 122 ∧ b ≠ 159 ∧ b ≠ 235) : Calls Try.prog 18 #[.int .i64 b] w fun e w' => e = .returned (.tuple #[.agg #[.int .i64 0, .int .i64 0, .bool false, .int .i64 0, .int .i64 0, .bool false], .int .i64 400]) ∧ Below w.heap.size w w' := by
  obtain ⟨h1, h2, h3, h4, h5, h6, h7, h8, h9, h10, h11, h12, h13, h14⟩ := h
  go_enter Try.func18, Try.ntmps18
  go_wp2
  refine bodyPost_ret (v := .tuple #[.agg #[.int .i64 0, .int .i64 0, .bool false, .int .i64 0, .int .i64 0, .bool false], .int .i64 400]) (by simp [results, Try.results18, go_sem]) rfl ⟨rfl, ?_⟩
  exact below_then (below_new _ _) (below_new _ _)
set_option maxRecDepth 100000 in
set_option maxHeartbeats 1000000 in
theorem ref_1 (w : World) : Calls Try.prog 20 #[.int .i64 1] w (Tells 1 w) := by
  go_enter Try.func20, Try.ntmps20
  go_wp2
  refine bodyPost_ret (v := .tuple #[.agg #[.int .i64 1, .int .i64 0, .bool false, .int .i64 0, .int .i64 1, .bool true], .int .i64 0]) (by simp [results, Try.results20, go_sem]) rfl ⟨rfl, ?_⟩
  exact below_then (below_new _ _) (below_new _ _)
set_option maxRecDepth 100000 in
set_option maxHeartbeats 1000000 in
theorem ref_2 (w : World) : Calls Try.prog 20 #[.int .i64 2] w (Tells 2 w) := by
  go_enter Try.func20, Try.ntmps20
  go_wp2
  refine bodyPost_ret (v := .tuple #[.agg #[.int .i64 2, .int .i64 1, .bool false, .int .i64 0, .int .i64 1, .bool true], .int .i64 0]) (by simp [results, Try.results20, go_sem]) rfl ⟨rfl, ?_⟩
  exact below_then (below_new _ _) (below_new _ _)
set_option maxRecDepth 100000 in
set_option maxHeartbeats 1000000 in
theorem ref_3 (w : World) : Calls Try.prog 20 #[.int .i64 3] w (Tells 3 w) := by
  go_enter Try.func20, Try.ntmps20
  go_wp2
  refine bodyPost_ret (v := .tuple #[.agg #[.int .i64 3, .int .i64 1, .bool false, .int .i64 0, .int .i64 1, .bool false], .int .i64 0]) (by simp [results, Try.results20, go_sem]) rfl ⟨rfl, ?_⟩
  exact below_then (below_new _ _) (below_new _ _)
set_option maxRecDepth 100000 in
set_option maxHeartbeats 1000000 in
theorem ref_4 (w : World) : Calls Try.prog 20 #[.int .i64 4] w (Tells 4 w) := by
  go_enter Try.func20, Try.ntmps20
  go_wp2
  refine bodyPost_ret (v := .tuple #[.agg #[.int .i64 4, .int .i64 0, .bool false, .int .i64 0, .int .i64 0, .bool false], .int .i64 0]) (by simp [results, Try.results20, go_sem]) rfl ⟨rfl, ?_⟩
  exact below_then (below_new _ _) (below_new _ _)
set_option maxRecDepth 100000 in
set_option maxHeartbeats 1000000 in
theorem ref_5 (w : World) : Calls Try.prog 20 #[.int .i64 5] w (Tells 5 w) := by
  go_enter Try.func20, Try.ntmps20
  go_wp2
  refine bodyPost_ret (v := .tuple #[.agg #[.int .i64 5, .int .i64 0, .bool false, .int .i64 0, .int .i64 1, .bool false], .int .i64 0]) (by simp [results, Try.results20, go_sem]) rfl ⟨rfl, ?_⟩
  exact below_then (below_new _ _) (below_new _ _)
set_option maxRecDepth 100000 in
set_option maxHeartbeats 1000000 in
theorem ref_6 (w : World) : Calls Try.prog 20 #[.int .i64 6] w (Tells 6 w) := by
  go_enter Try.func20, Try.ntmps20
  go_wp2
  refine bodyPost_ret (v := .tuple #[.agg #[.int .i64 6, .int .i64 0, .bool false, .int .i64 0, .int .i64 0, .bool false], .int .i64 0]) (by simp [results, Try.results20, go_sem]) rfl ⟨rfl, ?_⟩
  exact below_then (below_new _ _) (below_new _ _)
set_option maxRecDepth 100000 in
set_option maxHeartbeats 1000000 in
theorem ref_32 (w : World) : Calls Try.prog 20 #[.int .i64 32] w (Tells 32 w) := by
  go_enter Try.func20, Try.ntmps20
  go_wp2
  refine bodyPost_ret (v := .tuple #[.agg #[.int .i64 32, .int .i64 1, .bool false, .int .i64 0, .int .i64 0, .bool false], .int .i64 0]) (by simp [results, Try.results20, go_sem]) rfl ⟨rfl, ?_⟩
  exact below_then (below_new _ _) (below_new _ _)
set_option maxRecDepth 100000 in
set_option maxHeartbeats 1000000 in
theorem ref_53 (w : World) : Calls Try.prog 20 #[.int .i64 53] w (Tells 53 w) := by
  go_enter Try.func20, Try.ntmps20
  go_wp2
  refine bodyPost_ret (v := .tuple #[.agg #[.int .i64 53, .int .i64 0, .bool false, .int .i64 0, .int .i64 1, .bool false], .int .i64 0]) (by simp [results, Try.results20, go_sem]) rfl ⟨rfl, ?_⟩
  exact below_then (below_new _ _) (below_new _ _)
set_option maxRecDepth 100000 in
set_option maxHeartbeats 1000000 in
theorem ref_90 (w : World) : Calls Try.prog 20 #[.int .i64 90] w (Tells 90 w) := by
  go_enter Try.func20, Try.ntmps20
  go_wp2
  refine bodyPost_ret (v := .tuple #[.agg #[.int .i64 90, .int .i64 1, .bool false, .int .i64 8, .int .i64 1, .bool false], .int .i64 0]) (by simp [results, Try.results20, go_sem]) rfl ⟨rfl, ?_⟩
  exact below_then (below_new _ _) (below_new _ _)
set_option maxRecDepth 100000 in
set_option maxHeartbeats 1000000 in
theorem ref_107 (w : World) : Calls Try.prog 20 #[.int .i64 107] w (Tells 107 w) := by
  go_enter Try.func20, Try.ntmps20
  go_wp2
  refine bodyPost_ret (v := .tuple #[.agg #[.int .i64 107, .int .i64 1, .bool false, .int .i64 8, .int .i64 4, .bool false], .int .i64 0]) (by simp [results, Try.results20, go_sem]) rfl ⟨rfl, ?_⟩
  exact below_then (below_new _ _) (below_new _ _)
set_option maxRecDepth 100000 in
set_option maxHeartbeats 1000000 in
theorem ref_117 (w : World) : Calls Try.prog 20 #[.int .i64 117] w (Tells 117 w) := by
  go_enter Try.func20, Try.ntmps20
  go_wp2
  refine bodyPost_ret (v := .tuple #[.agg #[.int .i64 117, .int .i64 0, .bool false, .int .i64 0, .int .i64 0, .bool false], .int .i64 0]) (by simp [results, Try.results20, go_sem]) rfl ⟨rfl, ?_⟩
  exact below_then (below_new _ _) (below_new _ _)
set_option maxRecDepth 100000 in
set_option maxHeartbeats 1000000 in
theorem ref_122 (w : World) : Calls Try.prog 20 #[.int .i64 122] w (Tells 122 w) := by
  go_enter Try.func20, Try.ntmps20
  go_wp2
  refine bodyPost_ret (v := .tuple #[.agg #[.int .i64 122, .int .i64 0, .bool false, .int .i64 0, .int .i64 0, .bool false], .int .i64 0]) (by simp [results, Try.results20, go_sem]) rfl ⟨rfl, ?_⟩
  exact below_then (below_new _ _) (below_new _ _)
set_option maxRecDepth 100000 in
set_option maxHeartbeats 1000000 in
theorem ref_159 (w : World) : Calls Try.prog 20 #[.int .i64 159] w (Tells 159 w) := by
  go_enter Try.func20, Try.ntmps20
  go_wp2
  refine bodyPost_ret (v := .tuple #[.agg #[.int .i64 159, .int .i64 0, .bool false, .int .i64 0, .int .i64 1, .bool false], .int .i64 0]) (by simp [results, Try.results20, go_sem]) rfl ⟨rfl, ?_⟩
  exact below_then (below_new _ _) (below_new _ _)
set_option maxRecDepth 100000 in
set_option maxHeartbeats 1000000 in
theorem ref_235 (w : World) : Calls Try.prog 20 #[.int .i64 235] w (Tells 235 w) := by
  go_enter Try.func20, Try.ntmps20
  go_wp2
  refine bodyPost_ret (v := .tuple #[.agg #[.int .i64 235, .int .i64 4, .bool true, .int .i64 4, .int .i64 4, .bool false], .int .i64 0]) (by simp [results, Try.results20, go_sem]) rfl ⟨rfl, ?_⟩
  exact below_then (below_new _ _) (below_new _ _)
set_option maxRecDepth 100000 in
set_option maxHeartbeats 1000000 in
theorem ref_none (b : Int) (w : World) (h : b ≠ 1 ∧ b ≠ 2 ∧ b ≠ 3 ∧ b ≠ 4 ∧ b ≠ 5 ∧ b ≠ 6 ∧ b ≠ 32 ∧ b ≠ 53 ∧ b ≠ 90 ∧ b ≠ 107 ∧ b ≠ 117 ∧ b ≠ 122 ∧ b ≠ 159 ∧ b ≠ 235) : Calls Try.prog 20 #[.int .i64 b] w fun e w' => e = .returned (.tuple #[.agg #[.int .i64 0, .int .i64 0, .bool false, .int .i64 0, .int .i64 0, .bool false], .int .i64 400]) ∧ Below w.heap.size w w' := by
  obtain ⟨h1, h2, h3, h4, h5, h6, h7, h8, h9, h10, h11, h12, h13, h14⟩ := h
  go_enter Try.func20, Try.ntmps20
  go_wp2
  refine bodyPost_ret (v := .tuple #[.agg #[.int .i64 0, .int .i64 0, .bool false, .int .i64 0, .int .i64 0, .bool false], .int .i64 400]) (by simp [results, Try.results20, go_sem]) rfl ⟨rfl, ?_⟩
  exact below_then (below_new _ _) (below_new _ _)
theorem tells_none {b : Int} {w w' : World} {e : Ending} (h : ¬ isOp b = true) (he : e = .returned (.tuple #[.agg #[.int .i64 0, .int .i64 0, .bool false, .int .i64 0, .int .i64 0, .bool false], .int .i64 400])) (hb : Below w.heap.size w w') : Tells b w e w' := by
  refine ⟨?_, hb⟩
  have h' := h
  rw [isOp_iff] at h'
  simp only [not_or] at h'
  obtain ⟨h1, h2, h3, h4, h5, h6, h7, h8, h9, h10, h11, h12, h13, h14⟩ := h'
  rw [he, opB, opE, if_neg h, if_neg h]
  simp [opA, opM, opD, opN, opI, *]
theorem of_any (b : Int) (w : World) : Calls Try.prog 18 #[.int .i64 b] w (Tells b w) := by
  by_cases h : isOp b = true
  · rcases (isOp_iff b).1 h with rfl | rfl | rfl | rfl | rfl | rfl | rfl | rfl | rfl | rfl | rfl | rfl | rfl | rfl
    · exact of_1 w
    · exact of_2 w
    · exact of_3 w
    · exact of_4 w
    · exact of_5 w
    · exact of_6 w
    · exact of_32 w
    · exact of_53 w
    · exact of_90 w
    · exact of_107 w
    · exact of_117 w
    · exact of_122 w
    · exact of_159 w
    · exact of_235 w
  · have h' := h
    rw [isOp_iff] at h'
    simp only [not_or] at h'
    exact (of_none b w h').mono fun e w' ⟨he, hb⟩ => tells_none h he hb
theorem ref_any (b : Int) (w : World) : Calls Try.prog 20 #[.int .i64 b] w (Tells b w) := by
  by_cases h : isOp b = true
  · rcases (isOp_iff b).1 h with rfl | rfl | rfl | rfl | rfl | rfl | rfl | rfl | rfl | rfl | rfl | rfl | rfl | rfl
    · exact ref_1 w
    · exact ref_2 w
    · exact ref_3 w
    · exact ref_4 w
    · exact ref_5 w
    · exact ref_6 w
    · exact ref_32 w
    · exact ref_53 w
    · exact ref_90 w
    · exact ref_107 w
    · exact ref_117 w
    · exact ref_122 w
    · exact ref_159 w
    · exact ref_235 w
  · have h' := h
    rw [isOp_iff] at h'
    simp only [not_or] at h'
    exact (ref_none b w h').mono fun e w' ⟨he, hb⟩ => tells_none h he hb
/-- A command: its own byte, and no error. -/
theorem of_yes (b : Int) (w : World) (h : isOp b = true) : Calls Try.prog 18 #[.int .i64 b] w fun e w' => e = .returned (.tuple #[.agg #[.int .i64 b, .int .i64 (opA b), .bool (opM b), .int .i64 (opD b), .int .i64 (opN b), .bool (opI b)], .int .i64 0]) ∧ Below w.heap.size w w' :=
  (of_any b w).mono fun e w' ⟨he, hb⟩ => ⟨by rw [he, opB, opE, if_pos h, if_pos h], hb⟩
/-- No command: nothing, and an error. -/
theorem of_no (b : Int) (w : World) (h : isOp b = false) : Calls Try.prog 18 #[.int .i64 b] w fun e w' => e = .returned (.tuple #[.agg #[.int .i64 0, .int .i64 0, .bool false, .int .i64 0, .int .i64 0, .bool false], .int .i64 400]) ∧ Below w.heap.size w w' := by
  have h' : ¬ isOp b = true := by rw [h]; decide
  rw [isOp_iff] at h'
  simp only [not_or] at h'
  exact of_none b w h'
end Go.Proofs.Ytbjaogcejcfpbaa
