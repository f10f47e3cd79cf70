/-
  Facts on the commands: where each byte stands among them, and which parts a command may have. No conditions but those of each statement.
-/
import Derived.Test.YtbjaogcejcfpbaaAll
namespace Go.Proofs.Ytbjaogcejcfpbaa
open Go.RowKit
set_option linter.unusedVariables false

/-- In block g lie six values. -/
def Six (w : World) (g : Nat) (x0 x1 x2 x3 x4 x5 : Value) : Prop :=
  w.cell? ⟨g, 0, none⟩ = some x0 ∧ w.cell? ⟨g, 1, none⟩ = some x1 ∧ w.cell? ⟨g, 2, none⟩ = some x2 ∧ w.cell? ⟨g, 3, none⟩ = some x3 ∧ w.cell? ⟨g, 4, none⟩ = some x4 ∧ w.cell? ⟨g, 5, none⟩ = some x5
theorem Six.new (w : World) (x0 x1 x2 x3 x4 x5 : Value) : Six (w.alloc (.cells #[x0, x1, x2, x3, x4, x5] 23)) w.heap.size x0 x1 x2 x3 x4 x5 := by
  have h := fun j => cell_of_row (w.alloc (.cells #[x0, x1, x2, x3, x4, x5] 23)) w.heap.size j #[x0, x1, x2, x3, x4, x5] 23 (0, 0) (heap_alloc_new _ _)
  exact ⟨h 0, h 1, h 2, h 3, h 4, h 5⟩
theorem Six.below {w w' : World} {g : Nat} {x0 x1 x2 x3 x4 x5 : Value} (h : Six w g x0 x1 x2 x3 x4 x5) (b : Below w.heap.size w w') : Six w' g x0 x1 x2 x3 x4 x5 := by
  obtain ⟨h0, h1, h2, h3, h4, h5⟩ := h
  exact ⟨(b.cell (by exact cell_lt h0)).trans h0, (b.cell (by exact cell_lt h1)).trans h1, (b.cell (by exact cell_lt h2)).trans h2, (b.cell (by exact cell_lt h3)).trans h3, (b.cell (by exact cell_lt h4)).trans h4, (b.cell (by exact cell_lt h5)).trans h5⟩

theorem reads_cell {w : World} {g n c : Nat} {L : List Int} (h : Reads w (.slice (some ⟨g, 0, none⟩) n c) L) (j : Nat) (hj : j < L.length) : w.cell? ⟨g, j, none⟩ = some (.int .i64 (L.getD j 0)) := by
  obtain ⟨a, cap, he, hc⟩ := h
  obtain ⟨g', o, ha, hc'⟩ := hc (by omega)
  rw [ha] at he
  injection he with h1 h2 h3
  injection h1 with h1
  injection h1 with h4 h5 h6
  subst h4 h5
  have := hc' j hj
  rwa [Nat.zero_add] at this

/-- A command below 256 stands where so many commands are smaller. -/
theorem at_yes : ∀ k : Nat, k < 256 → isOp (k : Int) = true → (opsTo k).length < 14 ∧ opL.getD (opsTo k).length 0 = (k : Int) := by decide +kernel
/-- What is no command does not stand there. -/
theorem at_no : ∀ k : Nat, k < 256 → isOp (k : Int) = false → (opsTo k).length = 14 ∨ ((opsTo k).length < 14 ∧ opL.getD (opsTo k).length 0 ≠ (k : Int)) := by decide +kernel
/-- Which parts a command has. -/
theorem parts (b : Int) (h : isOp b = true) :
    (opA b = 0 ∧ opM b = false ∧ opN b = 1 ∧ opI b = true) ∨ (opA b = 1 ∧ opM b = false ∧ opN b = 1 ∧ opI b = true) ∨ (opA b = 1 ∧ opM b = false ∧ opN b = 1 ∧ opI b = false) ∨
    (opA b = 0 ∧ opM b = false ∧ opN b = 0 ∧ opI b = false) ∨ (opA b = 0 ∧ opM b = false ∧ opN b = 1 ∧ opI b = false) ∨ (opA b = 1 ∧ opM b = false ∧ opN b = 0 ∧ opI b = false) ∨
    (opA b = 1 ∧ opM b = false ∧ opN b = 4 ∧ opI b = false) ∨ (opA b = 4 ∧ opM b = true ∧ opN b = 4 ∧ opI b = false) := by
  rcases (isOp_iff b).1 h with rfl | rfl | rfl | rfl | rfl | rfl | rfl | rfl | rfl | rfl | rfl | rfl | rfl | rfl <;> decide
/-- The commands with their parts, written out by hand. -/
abbrev byHand : Array Value := #[.int .i64 1, .int .i64 0, .bool false, .int .i64 0, .int .i64 1, .bool true, .int .i64 2, .int .i64 1, .bool false, .int .i64 0, .int .i64 1, .bool true, .int .i64 3, .int .i64 1, .bool false, .int .i64 0, .int .i64 1, .bool false, .int .i64 4, .int .i64 0, .bool false, .int .i64 0, .int .i64 0, .bool false, .int .i64 5, .int .i64 0, .bool false, .int .i64 0, .int .i64 1, .bool false, .int .i64 6, .int .i64 0, .bool false, .int .i64 0, .int .i64 0, .bool false, .int .i64 32, .int .i64 1, .bool false, .int .i64 0, .int .i64 0, .bool false, .int .i64 53, .int .i64 0, .bool false, .int .i64 0, .int .i64 1, .bool false, .int .i64 90, .int .i64 1, .bool false, .int .i64 8, .int .i64 1, .bool false, .int .i64 107, .int .i64 1, .bool false, .int .i64 8, .int .i64 4, .bool false, .int .i64 117, .int .i64 0, .bool false, .int .i64 0, .int .i64 0, .bool false, .int .i64 122, .int .i64 0, .bool false, .int .i64 0, .int .i64 0, .bool false, .int .i64 159, .int .i64 0, .bool false, .int .i64 0, .int .i64 1, .bool false, .int .i64 235, .int .i64 4, .bool true, .int .i64 4, .int .i64 4, .bool false]
theorem byHand_at : ∀ K : Nat, K < 14 → byHand[K * 6]? = some (.int .i64 (opL.getD K 0)) ∧ byHand[K * 6 + 1]? = some (.int .i64 (opA (opL.getD K 0))) ∧ byHand[K * 6 + 2]? = some (.bool (opM (opL.getD K 0))) ∧
    byHand[K * 6 + 3]? = some (.int .i64 (opD (opL.getD K 0))) ∧ byHand[K * 6 + 4]? = some (.int .i64 (opN (opL.getD K 0))) ∧ byHand[K * 6 + 5]? = some (.bool (opI (opL.getD K 0))) := by
  intro K hK
  rcases (show K = 0 ∨ K = 1 ∨ K = 2 ∨ K = 3 ∨ K = 4 ∨ K = 5 ∨ K = 6 ∨ K = 7 ∨ K = 8 ∨ K = 9 ∨ K = 10 ∨ K = 11 ∨ K = 12 ∨ K = 13 by omega) with rfl | rfl | rfl | rfl | rfl | rfl | rfl | rfl | rfl | rfl | rfl | rfl | rfl | rfl <;> exact ⟨rfl, rfl, rfl, rfl, rfl, rfl⟩
theorem is_at : ∀ K : Nat, K < 14 → isOp (opL.getD K 0) = true := by decide +kernel
/-- In block g, from the cell o on, lie six values. -/
def SixAt (w : World) (g o : Nat) (x0 x1 x2 x3 x4 x5 : Value) : Prop :=
  w.cell? ⟨g, o, none⟩ = some x0 ∧ w.cell? ⟨g, o + 1, none⟩ = some x1 ∧ w.cell? ⟨g, o + 2, none⟩ = some x2 ∧ w.cell? ⟨g, o + 3, none⟩ = some x3 ∧ w.cell? ⟨g, o + 4, none⟩ = some x4 ∧ w.cell? ⟨g, o + 5, none⟩ = some x5
theorem SixAt.new (w : World) (K : Nat) (hK : K < 14) : SixAt (w.alloc (.cells byHand 23)) w.heap.size (K * 6) (.int .i64 (opL.getD K 0)) (.int .i64 (opA (opL.getD K 0))) (.bool (opM (opL.getD K 0))) (.int .i64 (opD (opL.getD K 0))) (.int .i64 (opN (opL.getD K 0))) (.bool (opI (opL.getD K 0))) := by
  obtain ⟨h0, h1, h2, h3, h4, h5⟩ := byHand_at K hK
  have h := fun j => cell_of_row (w.alloc (.cells byHand 23)) w.heap.size j byHand 23 (0, 0) (heap_alloc_new _ _)
  exact ⟨(h _).trans h0, (h _).trans h1, (h _).trans h2, (h _).trans h3, (h _).trans h4, (h _).trans h5⟩
theorem SixAt.below {w w' : World} {g o : Nat} {x0 x1 x2 x3 x4 x5 : Value} (h : SixAt w g o x0 x1 x2 x3 x4 x5) (b : Below w.heap.size w w') : SixAt w' g o x0 x1 x2 x3 x4 x5 := by
  obtain ⟨h0, h1, h2, h3, h4, h5⟩ := h
  exact ⟨(b.cell (by exact cell_lt h0)).trans h0, (b.cell (by exact cell_lt h1)).trans h1, (b.cell (by exact cell_lt h2)).trans h2, (b.cell (by exact cell_lt h3)).trans h3, (b.cell (by exact cell_lt h4)).trans h4, (b.cell (by exact cell_lt h5)).trans h5⟩
end Go.Proofs.Ytbjaogcejcfpbaa
