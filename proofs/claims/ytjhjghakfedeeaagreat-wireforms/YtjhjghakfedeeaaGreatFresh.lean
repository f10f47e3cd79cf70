/-
  What came on one lane as bytes, and a new chip over a text: each by a contract. Conditions: the rows are short.
-/
import Derived.Test.YtjhjghakfedeeaaGreatSays
import Derived.Test.YtjhjghakfedeeaaGreatWhole
namespace Go.Proofs.YtjhjghakfedeeaaGreat
open Go.RowKit Plain
set_option linter.unusedVariables false

/-- The first j bits from clock i on. -/
def laneTo (L : List Nat) (i : Nat) : Nat → Nat
  | 0 => 0
  | j + 1 => laneTo L i j * 2 + L.getD (i + j) 0 / 2 % 2
def bytesTo (L : List Nat) (f m : Nat) : List Nat := (List.range m).map fun t => laneTo L (f + 8 * t) 8
theorem bytesTo_succ (L : List Nat) (f m : Nat) : bytesTo L f (m + 1) = bytesTo L f m ++ [laneTo L (f + 8 * m) 8] := by
  unfold bytesTo; rw [List.range_succ, List.map_append]; rfl
theorem bytesTo_length (L : List Nat) (f m : Nat) : (bytesTo L f m).length = m := by simp [bytesTo]
theorem laneTo_lt (L : List Nat) (i j : Nat) (hj : j ≤ 8) : laneTo L i j < 2 ^ j := by
  induction j with
  | zero => show 0 < 1; decide
  | succ j ih =>
    have := ih (by omega)
    show laneTo L i j * 2 + _ < 2 ^ (j + 1)
    rw [Nat.pow_succ]
    omega
theorem lane_val (x y : Nat) (hx : x < 256) : bits .or .i64 ((x : Int) * 2) (bits .and .i64 ((y : Int) / 2) 1) = ((x * 2 + y / 2 % 2 : Nat) : Int) := by
  rw [and_1, show ((y : Int) / 2) % 2 = ((y / 2 % 2 : Nat) : Int) by simp, or_two _ _ (by omega) (by omega) (by omega) (by omega)]
  simp

end Go.Proofs.YtjhjghakfedeeaaGreat
