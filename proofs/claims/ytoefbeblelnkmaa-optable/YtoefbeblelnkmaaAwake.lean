/-
  The seat's first check (awake) answers true, in every world. No conditions.
-/
import Derived.Test.YtoefbeblelnkmaaAll
import Derived.Test.YtoefbeblelnkmaaSame
namespace Go.Proofs.Ytoefbeblelnkmaa
open Go.RowKit
set_option linter.unusedVariables false

theorem of_quad (w : World) : Calls Try.prog 6 #[.int .i64 235] w fun e w' => e = .returned (.tuple #[.agg #[.int .i64 235, .int .i64 4, .bool true, .int .i64 4, .int .i64 4, .bool false], .int .i64 0]) ∧ Below w.heap.size w w' :=
  (of_235 w).mono fun e w' ⟨he, hb⟩ => ⟨he, hb⟩

/-- In block g lie six values. -/
def Six (w : World) (g : Nat) (x0 x1 x2 x3 x4 x5 : Value) : Prop :=
  w.cell? ⟨g, 0, none⟩ = some x0 ∧ w.cell? ⟨g, 1, none⟩ = some x1 ∧ w.cell? ⟨g, 2, none⟩ = some x2 ∧ w.cell? ⟨g, 3, none⟩ = some x3 ∧ w.cell? ⟨g, 4, none⟩ = some x4 ∧ w.cell? ⟨g, 5, none⟩ = some x5
theorem Six.new (w : World) (x0 x1 x2 x3 x4 x5 : Value) : Six (w.alloc (.cells #[x0, x1, x2, x3, x4, x5] 23)) w.heap.size x0 x1 x2 x3 x4 x5 := by
  have h := fun j => cell_of_row (w.alloc (.cells #[x0, x1, x2, x3, x4, x5] 23)) w.heap.size j #[x0, x1, x2, x3, x4, x5] 23 (0, 0) (heap_alloc_new _ _)
  exact ⟨h 0, h 1, h 2, h 3, h 4, h 5⟩
theorem Six.below {w w' : World} {g : Nat} {x0 x1 x2 x3 x4 x5 : Value} (h : Six w g x0 x1 x2 x3 x4 x5) (b : Below w.heap.size w w') : Six w' g x0 x1 x2 x3 x4 x5 := by
  obtain ⟨h0, h1, h2, h3, h4, h5⟩ := h
  exact ⟨(b.cell (by exact cell_lt h0)).trans h0, (b.cell (by exact cell_lt h1)).trans h1, (b.cell (by exact cell_lt h2)).trans h2, (b.cell (by exact cell_lt h3)).trans h3, (b.cell (by exact cell_lt h4)).trans h4, (b.cell (by exact cell_lt h5)).trans h5⟩

set_option maxRecDepth 100000 in
set_option maxHeartbeats 2000000 in
theorem awake_any (w : World) :
    Calls Try.prog 13 #[] w fun e w' => e = .returned (.bool true) ∧ Below w.heap.size w w' := by
  go_enter Try.func13, Try.ntmps13
  go_wp2_with fail
  refine (of_quad _).mono ?_
  rintro e w1 ⟨rfl, b1⟩
  have s1 := Six.new w1 (.int .i64 235) (.int .i64 4) (.bool true) (.int .i64 4) (.int .i64 4) (.bool false)
  have S1 : Hid (Six _ _ _ _ _ _ _ _) := s1
  have bel : Hid (Below w.heap.size w (w1.alloc (.cells #[.int .i64 235, .int .i64 4, .bool true, .int .i64 4, .int .i64 4, .bool false] 23))) := below_then b1 (below_new _ _)
  clear b1 s1
  go_wp2_with fail
  refine (of_no 0 _ (by decide)).mono ?_
  rintro e w2 ⟨rfl, b2⟩
  have s1 := S1.out.below (below_then b2 (below_new w2 (.cells #[.int .i64 0, .int .i64 0, .bool false, .int .i64 0, .int .i64 0, .bool false] 23)))
  obtain ⟨c0, c1, c2, c3, c4, c5⟩ := s1
  have bel : Hid (Below w.heap.size w (w2.alloc (.cells #[.int .i64 0, .int .i64 0, .bool false, .int .i64 0, .int .i64 0, .bool false] 23))) := below_then (below_then bel.out b2) (below_new _ _)
  clear S1 b2
  go_wp2_with (go_at_call 9; refine (num_any _ _).mono ?_; rintro e w' ⟨rfl, rfl⟩)
  refine (all_any _).mono ?_
  rintro e w3 ⟨g, cap, rfl, o3, b3⟩
  have bel : Hid (Below w.heap.size w w3) := below_then bel.out b3
  clear o3 b3
  go_wp2
  go_ret
  exact ⟨rfl, bel.out⟩
end Go.Proofs.Ytoefbeblelnkmaa
