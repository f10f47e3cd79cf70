/-
  What the statement over commands that may not be so lays: its commands, places, data, reads, and that none of them fits. No conditions but those of each statement.
-/
import Derived.Test.YtbjaogcejcfpbaaAwake
import Derived.Deep.OwnRows
namespace Go.Proofs.Ytbjaogcejcfpbaa
open Go.RowKit
set_option linter.unusedVariables false

abbrev C3 : Obj := .cells #[.int .i64 3, .int .i64 1, .bool false, .int .i64 0, .int .i64 1, .bool false] 23
abbrev C2 : Obj := .cells #[.int .i64 2, .int .i64 1, .bool false, .int .i64 0, .int .i64 1, .bool true] 23
abbrev C235 : Obj := .cells #[.int .i64 235, .int .i64 4, .bool true, .int .i64 4, .int .i64 4, .bool false] 23
abbrev C6 : Obj := .cells #[.int .i64 6, .int .i64 0, .bool false, .int .i64 0, .int .i64 0, .bool false] 23
abbrev C5 : Obj := .cells #[.int .i64 5, .int .i64 0, .bool false, .int .i64 0, .int .i64 1, .bool false] 23
theorem find_3 (w : World) : Calls Try.prog 7 #[.int .i64 3] w fun e w' => e = .returned (.tuple #[.agg #[.int .i64 3, .int .i64 1, .bool false, .int .i64 0, .int .i64 1, .bool false], .int .i64 0]) ∧ Below w.heap.size w w' := find_yes 3 w (by decide)
theorem find_2 (w : World) : Calls Try.prog 7 #[.int .i64 2] w fun e w' => e = .returned (.tuple #[.agg #[.int .i64 2, .int .i64 1, .bool false, .int .i64 0, .int .i64 1, .bool true], .int .i64 0]) ∧ Below w.heap.size w w' := find_yes 2 w (by decide)
theorem find_235 (w : World) : Calls Try.prog 7 #[.int .i64 235] w fun e w' => e = .returned (.tuple #[.agg #[.int .i64 235, .int .i64 4, .bool true, .int .i64 4, .int .i64 4, .bool false], .int .i64 0]) ∧ Below w.heap.size w w' := find_yes 235 w (by decide)
theorem find_6 (w : World) : Calls Try.prog 7 #[.int .i64 6] w fun e w' => e = .returned (.tuple #[.agg #[.int .i64 6, .int .i64 0, .bool false, .int .i64 0, .int .i64 0, .bool false], .int .i64 0]) ∧ Below w.heap.size w w' := find_yes 6 w (by decide)
theorem find_5 (w : World) : Calls Try.prog 7 #[.int .i64 5] w fun e w' => e = .returned (.tuple #[.agg #[.int .i64 5, .int .i64 0, .bool false, .int .i64 0, .int .i64 1, .bool false], .int .i64 0]) ∧ Below w.heap.size w w' := find_yes 5 w (by decide)

theorem allocs_heap : ∀ (os : List Obj) (w : World) (i : Nat), i < os.length → (os.foldl World.alloc w).heap[w.heap.size + i]? = os[i]?
  | [], w, i, h => by simp at h
  | o :: os, w, 0, h => by
    have : ∀ (os : List Obj) (w : World) (j : Nat), j < w.heap.size → (os.foldl World.alloc w).heap[j]? = w.heap[j]? := by
      intro os
      induction os with
      | nil => intro w j hj; rfl
      | cons o os ih =>
        intro w j hj
        rw [List.foldl_cons, ih (w.alloc o) j (by simp; omega)]
        exact (below_new w o).block j hj
    rw [List.foldl_cons, Nat.add_zero, this os (w.alloc o) w.heap.size (by simp), heap_alloc_new]
    rfl
  | o :: os, w, i + 1, h => by
    have := allocs_heap os (w.alloc o) i (by simpa using h)
    rw [List.foldl_cons, show w.heap.size + (i + 1) = (w.alloc o).heap.size + i by simp; omega, this]
    rfl
abbrev osC : Array Value := #[.int .i64 0, .int .i64 0, .bool false, .int .i64 0, .int .i64 0, .bool false, .int .i64 3, .int .i64 1, .bool false, .int .i64 0, .int .i64 1, .bool false, .int .i64 3, .int .i64 1, .bool false, .int .i64 0, .int .i64 1, .bool false, .int .i64 3, .int .i64 1, .bool false, .int .i64 0, .int .i64 1, .bool false, .int .i64 3, .int .i64 1, .bool false, .int .i64 0, .int .i64 1, .bool false, .int .i64 3, .int .i64 1, .bool false, .int .i64 0, .int .i64 1, .bool false, .int .i64 2, .int .i64 1, .bool false, .int .i64 0, .int .i64 1, .bool true, .int .i64 2, .int .i64 1, .bool false, .int .i64 0, .int .i64 1, .bool true, .int .i64 2, .int .i64 1, .bool false, .int .i64 0, .int .i64 1, .bool true, .int .i64 2, .int .i64 1, .bool false, .int .i64 0, .int .i64 1, .bool true, .int .i64 235, .int .i64 4, .bool true, .int .i64 4, .int .i64 4, .bool false, .int .i64 235, .int .i64 4, .bool true, .int .i64 4, .int .i64 4, .bool false, .int .i64 235, .int .i64 4, .bool true, .int .i64 4, .int .i64 4, .bool false, .int .i64 6, .int .i64 0, .bool false, .int .i64 0, .int .i64 0, .bool false, .int .i64 6, .int .i64 0, .bool false, .int .i64 0, .int .i64 0, .bool false, .int .i64 6, .int .i64 0, .bool false, .int .i64 0, .int .i64 0, .bool false, .int .i64 5, .int .i64 0, .bool false, .int .i64 0, .int .i64 1, .bool false, .int .i64 5, .int .i64 0, .bool false, .int .i64 0, .int .i64 1, .bool false, .int .i64 3, .int .i64 0, .bool false, .int .i64 0, .int .i64 0, .bool false]
abbrev atsC (d : Nat) : Array Value := #[.int .i64 0, .int .i64 (-(d : Int)), .int .i64 (4095 + (d : Int)), .int .i64 1, .int .i64 1, .int .i64 1, .int .i64 1, .int .i64 1, .int .i64 1, .int .i64 1, .int .i64 0, .int .i64 0, .int .i64 0, .int .i64 (d : Int), .int .i64 0, .int .i64 0, .int .i64 (d : Int), .int .i64 0, .int .i64 0]
abbrev daC (d g : Nat) : Array Value := #[.slice none 0 0, .slice none 0 0, .slice none 0 0, .slice none 0 0, .slice none 0 0, .slice (some ⟨g + 1 + 1, 0, none⟩) 1 1, .slice (some ⟨g + 1 + 1 + 1, 0, none⟩) 1 1, .slice (some ⟨g + 1 + 1 + 1 + 1, 0, none⟩) 1 1, .slice (some ⟨g + 1 + 1 + 1 + 1 + 1, 0, none⟩) (512 + d) (512 + d), .slice (some ⟨g + 1 + 1 + 1 + 1 + 1 + 1, 0, none⟩) 1 1, .slice none 0 0, .slice (some ⟨g + 1 + 1 + 1 + 1 + 1 + 1 + 1, 0, none⟩) 2 2, .slice (some ⟨g + 1 + 1 + 1 + 1 + 1 + 1 + 1 + 1, 0, none⟩) 1 1, .slice none 0 0, .slice (some ⟨g + 1 + 1 + 1 + 1 + 1 + 1 + 1 + 1 + 1, 0, none⟩) 1 1, .slice none 0 0, .slice none 0 0, .slice (some ⟨g + 1 + 1 + 1 + 1 + 1 + 1 + 1 + 1 + 1 + 1, 0, none⟩) 1 1, .slice none 0 0]
abbrev reC (d : Nat) : Array Value := #[.int .i64 0, .int .i64 1, .int .i64 1, .int .i64 (-(d : Int)), .int .i64 (512 + (d : Int)), .int .i64 1, .int .i64 0, .int .i64 0, .int .i64 0, .int .i64 1, .int .i64 4, .int .i64 4, .int .i64 4, .int .i64 0, .int .i64 0, .int .i64 1, .int .i64 1, .int .i64 1, .int .i64 0]
/-- What the statement has laid since W: the world behind it. -/
abbrev formsW (W : World) (d g : Nat) : World := [(.cells osC 23 : Obj), (.cells (atsC d) 3 : Obj), (.cells #[.int .i64 1] 3 : Obj), (.cells #[.int .i64 256] 3 : Obj), (.cells #[.int .i64 (-(d : Int))] 3 : Obj), (.cells (madeCells #[.int .i64 0] (512 + d)) 3 : Obj), (.cells #[.int .i64 1] 3 : Obj), (.cells #[.int .i64 1, .int .i64 2] 3 : Obj), (.cells #[.int .i64 256] 3 : Obj), (.cells #[.int .i64 1] 3 : Obj), (.cells #[.int .i64 1] 3 : Obj), (.cells (daC d g) 24 : Obj), (.cells (reC d) 3 : Obj)].foldl World.alloc W
theorem make_512 (d : Nat) (h : d ≤ 1024) (w : World) : (Instr.makeSlice 24 (.int .i64 (512 + (d : Int))) (.int .i64 (512 + (d : Int)))).run Try.prog w = .ok (.slice (some ⟨w.heap.size, 0, none⟩) (512 + d) (512 + d)) (w.alloc (.cells (madeCells #[.int .i64 0] (512 + d)) 3)) := by
  have := run_make_row' (P := Try.prog) 24 3 (.int .i64 0) 8 Try.underlying24 info3 rfl .i64 .i64 (512 + d) (by omega) (by omega) w
  rw [show ((512 + d : Nat) : Int) = 512 + (d : Int) by omega] at this
  exact this
set_option maxRecDepth 100000 in
/-- Each of them is refused. -/
theorem forms_at (W : World) (d g K : Nat) (hg : W.heap.size = g) (h1 : 1 ≤ d) (h2 : d ≤ 1024) (hK : K < 19) : ∃ (o : Op6) (k r : Int) (a : Option Addr) (n c : Nat) (L : List Int),
    SixAt (formsW W d g) g (K * 6) (.int .i64 o.1) (.int .i64 o.2.1) (.bool o.2.2.1) (.int .i64 o.2.2.2.1) (.int .i64 o.2.2.2.2.1) (.bool o.2.2.2.2.2) ∧ (formsW W d g).cell? ⟨g + 1, K, none⟩ = some (.int .i64 k) ∧ (formsW W d g).cell? ⟨g + 1 + 1 + 1 + 1 + 1 + 1 + 1 + 1 + 1 + 1 + 1, K, none⟩ = some (.slice a n c) ∧ (formsW W d g).cell? ⟨g + 1 + 1 + 1 + 1 + 1 + 1 + 1 + 1 + 1 + 1 + 1 + 1, K, none⟩ = some (.int .i64 r) ∧
    Came (formsW W d g) a n c L ∧ n * 8 ≤ 140737488351232 ∧ fitB o.1 o.2.1 o.2.2.1 o.2.2.2.1 o.2.2.2.2.1 o.2.2.2.2.2 k L r = false := by
  have hh := allocs_heap [(.cells osC 23 : Obj), (.cells (atsC d) 3 : Obj), (.cells #[.int .i64 1] 3 : Obj), (.cells #[.int .i64 256] 3 : Obj), (.cells #[.int .i64 (-(d : Int))] 3 : Obj), (.cells (madeCells #[.int .i64 0] (512 + d)) 3 : Obj), (.cells #[.int .i64 1] 3 : Obj), (.cells #[.int .i64 1, .int .i64 2] 3 : Obj), (.cells #[.int .i64 256] 3 : Obj), (.cells #[.int .i64 1] 3 : Obj), (.cells #[.int .i64 1] 3 : Obj), (.cells (daC d g) 24 : Obj), (.cells (reC d) 3 : Obj)] W
  rw [hg] at hh
  have fO := fun j => cell_of_row (formsW W d g) g j osC 23 (0, 0) (hh 0 (by simp))
  have fA := fun j => cell_of_row (formsW W d g) (g + 1) j (atsC d) 3 (0, 0) (hh 1 (by simp))
  have fD := fun j => cell_of_row (formsW W d g) (g + 1 + 1 + 1 + 1 + 1 + 1 + 1 + 1 + 1 + 1 + 1) j (daC d g) 24 (0, 0) (hh 11 (by simp))
  have fR := fun j => cell_of_row (formsW W d g) (g + 1 + 1 + 1 + 1 + 1 + 1 + 1 + 1 + 1 + 1 + 1 + 1) j (reC d) 3 (0, 0) (hh 12 (by simp))
  have k2 : Came (formsW W d g) (some ⟨g + 1 + 1, 0, none⟩) 1 1 [1] := came_reads (reads_lit [1] (hh 2 (by simp)) rfl rfl 1) (Nat.le_refl _)
  have k3 : Came (formsW W d g) (some ⟨g + 1 + 1 + 1, 0, none⟩) 1 1 [256] := came_reads (reads_lit [256] (hh 3 (by simp)) rfl rfl 1) (Nat.le_refl _)
  have k4 : Came (formsW W d g) (some ⟨g + 1 + 1 + 1 + 1, 0, none⟩) 1 1 [-(d : Int)] := came_reads (reads_lit [-(d : Int)] (hh 4 (by simp)) rfl rfl 1) (Nat.le_refl _)
  have k5 : Came (formsW W d g) (some ⟨g + 1 + 1 + 1 + 1 + 1, 0, none⟩) (512 + d) (512 + d) (List.replicate (512 + d) 0) := came_reads (reads_lit (List.replicate (512 + d) 0) (hh 5 (by simp)) (by rw [toList_madeCells_one]; simp) (by simp) (512 + d)) (Nat.le_refl _)
  have k6 : Came (formsW W d g) (some ⟨g + 1 + 1 + 1 + 1 + 1 + 1, 0, none⟩) 1 1 [1] := came_reads (reads_lit [1] (hh 6 (by simp)) rfl rfl 1) (Nat.le_refl _)
  have k7 : Came (formsW W d g) (some ⟨g + 1 + 1 + 1 + 1 + 1 + 1 + 1, 0, none⟩) 2 2 [1, 2] := came_reads (reads_lit [1, 2] (hh 7 (by simp)) rfl rfl 2) (Nat.le_refl _)
  have k8 : Came (formsW W d g) (some ⟨g + 1 + 1 + 1 + 1 + 1 + 1 + 1 + 1, 0, none⟩) 1 1 [256] := came_reads (reads_lit [256] (hh 8 (by simp)) rfl rfl 1) (Nat.le_refl _)
  have k9 : Came (formsW W d g) (some ⟨g + 1 + 1 + 1 + 1 + 1 + 1 + 1 + 1 + 1, 0, none⟩) 1 1 [1] := came_reads (reads_lit [1] (hh 9 (by simp)) rfl rfl 1) (Nat.le_refl _)
  have k10 : Came (formsW W d g) (some ⟨g + 1 + 1 + 1 + 1 + 1 + 1 + 1 + 1 + 1 + 1, 0, none⟩) 1 1 [1] := came_reads (reads_lit [1] (hh 10 (by simp)) rfl rfl 1) (Nat.le_refl _)
  generalize formsW W d g = Z at *
  clear hh
  rcases (show K = 0 ∨ K = 1 ∨ K = 2 ∨ K = 3 ∨ K = 4 ∨ K = 5 ∨ K = 6 ∨ K = 7 ∨ K = 8 ∨ K = 9 ∨ K = 10 ∨ K = 11 ∨ K = 12 ∨ K = 13 ∨ K = 14 ∨ K = 15 ∨ K = 16 ∨ K = 17 ∨ K = 18 by omega) with rfl | rfl | rfl | rfl | rfl | rfl | rfl | rfl | rfl | rfl | rfl | rfl | rfl | rfl | rfl | rfl | rfl | rfl | rfl
  · exact ⟨(0, 0, false, 0, 0, false), 0, 0, none, 0, 0, [], ⟨fO 0, fO 1, fO 2, fO 3, fO 4, fO 5⟩, fA 0, fD 0, fR 0, Came.none _, by decide, fit_no (.inl (by decide))⟩
  · exact ⟨(3, 1, false, 0, 1, false), (-(d : Int)), 1, none, 0, 0, [], ⟨fO 6, fO 7, fO 8, fO 9, fO 10, fO 11⟩, fA 1, fD 1, fR 1, Came.none _, by decide, fit_no (.inr (.inl (by rw [plB, if_neg (by decide)]; exact decide_eq_false (by omega))))⟩
  · exact ⟨(3, 1, false, 0, 1, false), (4095 + (d : Int)), 1, none, 0, 0, [], ⟨fO 12, fO 13, fO 14, fO 15, fO 16, fO 17⟩, fA 2, fD 2, fR 2, Came.none _, by decide, fit_no (.inr (.inl (by rw [plB, if_neg (by decide)]; exact decide_eq_false (by omega))))⟩
  · exact ⟨(3, 1, false, 0, 1, false), 1, (-(d : Int)), none, 0, 0, [], ⟨fO 18, fO 19, fO 20, fO 21, fO 22, fO 23⟩, fA 3, fD 3, fR 3, Came.none _, by decide, fit_no (.inr (.inr (.inr (.inl (decide_eq_false (by omega))))))⟩
  · exact ⟨(3, 1, false, 0, 1, false), 1, (512 + (d : Int)), none, 0, 0, [], ⟨fO 24, fO 25, fO 26, fO 27, fO 28, fO 29⟩, fA 4, fD 4, fR 4, Came.none _, by decide, fit_no (.inr (.inr (.inr (.inl (decide_eq_false (by omega))))))⟩
  · exact ⟨(3, 1, false, 0, 1, false), 1, 1, _, 1, 1, [1], ⟨fO 30, fO 31, fO 32, fO 33, fO 34, fO 35⟩, fA 5, fD 5, fR 5, k2, by omega, by decide⟩
  · exact ⟨(2, 1, false, 0, 1, true), 1, 0, _, 1, 1, [256], ⟨fO 36, fO 37, fO 38, fO 39, fO 40, fO 41⟩, fA 6, fD 6, fR 6, k3, by omega, by decide⟩
  · exact ⟨(2, 1, false, 0, 1, true), 1, 0, _, 1, 1, [-(d : Int)], ⟨fO 42, fO 43, fO 44, fO 45, fO 46, fO 47⟩, fA 7, fD 7, fR 7, k4, by omega, fit_no (.inr (.inr (.inl (by rw [fewB, byB_no (k := 0) (by simp) (.inl (by show -(d : Int) < 0; omega)), Bool.and_false]))))⟩
  · exact ⟨(2, 1, false, 0, 1, true), 1, 0, _, (512 + d), (512 + d), (List.replicate (512 + d) 0), ⟨fO 48, fO 49, fO 50, fO 51, fO 52, fO 53⟩, fA 8, fD 8, fR 8, k5, by omega, fit_no (.inr (.inr (.inl (by rw [fewB, List.length_replicate, decide_eq_false (by omega), Bool.false_and]))))⟩
  · exact ⟨(2, 1, false, 0, 1, true), 1, 1, _, 1, 1, [1], ⟨fO 54, fO 55, fO 56, fO 57, fO 58, fO 59⟩, fA 9, fD 9, fR 9, k6, by omega, by decide⟩
  · exact ⟨(235, 4, true, 4, 4, false), 0, 4, none, 0, 0, [], ⟨fO 60, fO 61, fO 62, fO 63, fO 64, fO 65⟩, fA 10, fD 10, fR 10, Came.none _, by decide, by decide⟩
  · exact ⟨(235, 4, true, 4, 4, false), 0, 4, _, 2, 2, [1, 2], ⟨fO 66, fO 67, fO 68, fO 69, fO 70, fO 71⟩, fA 11, fD 11, fR 11, k7, by omega, by decide⟩
  · exact ⟨(235, 4, true, 4, 4, false), 0, 4, _, 1, 1, [256], ⟨fO 72, fO 73, fO 74, fO 75, fO 76, fO 77⟩, fA 12, fD 12, fR 12, k8, by omega, by decide⟩
  · exact ⟨(6, 0, false, 0, 0, false), (d : Int), 0, none, 0, 0, [], ⟨fO 78, fO 79, fO 80, fO 81, fO 82, fO 83⟩, fA 13, fD 13, fR 13, Came.none _, by decide, fit_no (.inr (.inl (by rw [plB, if_pos rfl]; exact decide_eq_false (by omega))))⟩
  · exact ⟨(6, 0, false, 0, 0, false), 0, 0, _, 1, 1, [1], ⟨fO 84, fO 85, fO 86, fO 87, fO 88, fO 89⟩, fA 14, fD 14, fR 14, k9, by omega, by decide⟩
  · exact ⟨(6, 0, false, 0, 0, false), 0, 1, none, 0, 0, [], ⟨fO 90, fO 91, fO 92, fO 93, fO 94, fO 95⟩, fA 15, fD 15, fR 15, Came.none _, by decide, by decide⟩
  · exact ⟨(5, 0, false, 0, 1, false), (d : Int), 1, none, 0, 0, [], ⟨fO 96, fO 97, fO 98, fO 99, fO 100, fO 101⟩, fA 16, fD 16, fR 16, Came.none _, by decide, fit_no (.inr (.inl (by rw [plB, if_pos rfl]; exact decide_eq_false (by omega))))⟩
  · exact ⟨(5, 0, false, 0, 1, false), 0, 1, _, 1, 1, [1], ⟨fO 102, fO 103, fO 104, fO 105, fO 106, fO 107⟩, fA 17, fD 17, fR 17, k10, by omega, by decide⟩
  · exact ⟨(3, 0, false, 0, 0, false), 0, 0, none, 0, 0, [], ⟨fO 108, fO 109, fO 110, fO 111, fO 112, fO 113⟩, fA 18, fD 18, fR 18, Came.none _, by decide, by decide⟩
theorem allocs_below : ∀ (os : List Obj) (w : World), Below w.heap.size w (os.foldl World.alloc w)
  | [], w => Below.refl _ _
  | o :: os, w => below_then (below_new w o) (allocs_below os (w.alloc o))
/-- The phases of the one that may. -/
def okL : List Ph := [(1, [3], 0, 0), (1, [0, 15, 255], 0, 0), (1, [], 0, 512)]
theorem ok_is : phL (3, 1, false, 0, 1, false) 4095 [] 512 = okL := by decide
theorem far_no (d : Nat) (h : 1 ≤ d) : isOp (255 + (d : Int)) = false := by
  cases hb : isOp (255 + (d : Int))
  · rfl
  · have := (isOp_iff _).1 hb
    omega
theorem powns_three {B : Nat} {w : World} {v : Value} {qs : List (Value × Ph)} {P : List Ph} (h : POwns B w v qs) (hX : qs.map Prod.snd = P) (n : Nat) (hn : P.length = n) : ∃ a c, v = .slice a n c := by
  have hl : qs.length = n := by rw [← hn, ← hX, List.length_map]
  rcases h.1.2 with ⟨rfl, h0⟩ | ⟨g, cap, cur, rfl, -⟩
  · exact ⟨none, 0, by rw [← hl, h0]⟩
  · exact ⟨_, cap, by rw [hl]⟩
end Go.Proofs.Ytbjaogcejcfpbaa
