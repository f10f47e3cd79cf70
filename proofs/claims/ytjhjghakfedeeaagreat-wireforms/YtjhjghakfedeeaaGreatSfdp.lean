/-
  What a chip is like, as bytes: package sfdp's Put at the chip's own sizes, by a contract. No conditions.
-/
import Derived.Test.YtjhjghakfedeeaaGreatTell
import Derived.Test.YtjhjghakfedeeaaGreatPut
namespace Go.Proofs.YtjhjghakfedeeaaGreat
open Go.RowKit Plain
set_option linter.unusedVariables false

theorem sfdp_is : putL 4096 512 32 = sfdpL := by decide +kernel
theorem put_any (w : World) :
    Calls Tryz.prog 163 #[.int .i64 4096, .int .i64 512, .int .i64 32] w fun e w' => e = .returned (.tuple #[.string sfdpT, .int .i64 0]) ∧ Below w.heap.size w w' := by
  refine (put_yes 4096 512 32 w (by decide +kernel) (by decide +kernel) (by decide +kernel) (by decide) (by decide) (by decide)).mono ?_
  rintro e w' ⟨T, rfl, HT, hb⟩
  refine ⟨?_, hb⟩
  rw [HT.out, putT, sfdp_is]
  rfl
end Go.Proofs.YtjhjghakfedeeaaGreat
