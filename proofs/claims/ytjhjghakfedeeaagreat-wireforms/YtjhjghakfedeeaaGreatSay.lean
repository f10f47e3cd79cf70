/-
  The words that the statements say to a chip: bits of bytes, clocks of nothing, clocks in a row; and a new chip over a text: each by a contract. Conditions: the chip lies in memory as told; the rows are short.
-/
import Derived.Test.YtjhjghakfedeeaaGreatKeep
import Derived.Deep.AppendLies
namespace Go.Proofs.YtjhjghakfedeeaaGreat
open Go.RowKit Plain
set_option linter.unusedVariables false

def nums (L : List Nat) : List Int := L.map fun n : Nat => (n : Int)
theorem nums_length (L : List Nat) : (nums L).length = L.length := List.length_map _
theorem nums_append (L M : List Nat) : nums (L ++ M) = nums L ++ nums M := List.map_append
theorem nums_getD (L : List Nat) (j : Nat) : (nums L).getD j 0 = ((L.getD j 0 : Nat) : Int) := by
  unfold nums
  simp only [List.getD_eq_getElem?_getD, List.getElem?_map]
  cases L[j]? <;> rfl
def NOwns (B : Nat) (w : World) (v : Value) (L : List Nat) : Prop := Owns B w v (nums L)

/-- The clocks of a byte on the lowest lane. -/
def bitsOf (b : Nat) : List Nat := [14 + b / 128 % 2, 14 + b / 64 % 2, 14 + b / 32 % 2, 14 + b / 16 % 2, 14 + b / 8 % 2, 14 + b / 4 % 2, 14 + b / 2 % 2, 14 + b % 2]
def wordL (L : List Nat) : List Nat := L.flatMap bitsOf
theorem bitsOf_get (b t : Nat) (ht : t < 8) : (bitsOf b)[t]? = some (14 + b / 2 ^ (7 - t) % 2) := by
  rcases (by omega : t = 0 ∨ t = 1 ∨ t = 2 ∨ t = 3 ∨ t = 4 ∨ t = 5 ∨ t = 6 ∨ t = 7) with rfl | rfl | rfl | rfl | rfl | rfl | rfl | rfl <;> simp [bitsOf]
theorem wordL_length (L : List Nat) : (wordL L).length = 8 * L.length := by
  induction L with
  | nil => rfl
  | cons x r ih =>
    show (bitsOf x ++ wordL r).length = _
    rw [List.length_append, ih, List.length_cons]
    show 8 + _ = _
    omega
theorem or_14 (x : Nat) : bits .or .i64 14 ((x % 2 : Nat) : Int) = ((14 + x % 2 : Nat) : Int) := by
  rcases (by omega : x % 2 = 0 ∨ x % 2 = 1) with e | e <;> rw [e] <;> rfl
theorem take_one {α : Type} (L : List α) (t : Nat) (x : α) (h : L[t]? = some x) : L.take (t + 1) = L.take t ++ [x] := by
  have ht : t < L.length := (List.getElem?_eq_some_iff.1 h).1
  rw [List.take_add_one, h]; rfl

theorem replicate_one (k : Nat) : List.replicate (k + 1) 15 = List.replicate k 15 ++ [15] := List.replicate_succ' ..

theorem owns_empty (w : World) : (w.alloc (.cells #[] 3)).ownsRow w.heap.size 3 1 (.slice (some ⟨w.heap.size, 0, none⟩) 0 0) 0 [] :=
  ⟨rfl, Or.inr ⟨w.heap.size, 0, #[], rfl, Nat.le_refl _, heap_alloc_new _ _, Nat.le_refl _, by unfold maxLen; omega, rfl, rfl⟩⟩

end Go.Proofs.YtjhjghakfedeeaaGreat
