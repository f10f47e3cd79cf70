/-
  How many durations are left: plain facts. Nothing of the program is named.
-/
import Derived.Test.YtjhjghakfedeeaaGreatKeep
namespace Go.Proofs.YtjhjghakfedeeaaGreat
open Go.RowKit Plain
set_option linter.unusedVariables false

theorem begin_len (s : St) (er : Bool) (a : Nat) (d : ByteArray) : (s.begin er a d).durs.length ≤ s.durs.length := by
  unfold St.begin
  split
  · exact Nat.le_refl _
  · split
    · exact Nat.le_refl _
    · show s.durs.tail.length ≤ _
      rw [List.length_tail]; omega
theorem obey_len (s : St) (k : Cmd) : (s.obey k).durs.length ≤ s.durs.length := by
  unfold St.obey
  repeat' split
  all_goals first | exact Nat.le_refl _ | exact begin_len _ _ _ _ | (unfold St.putStatus; split <;> exact Nat.le_refl _)
theorem deselect_len (s : St) : s.deselect.durs.length ≤ s.durs.length := by
  unfold St.deselect
  split
  · exact obey_len s.ended s.k
  · exact Nat.le_refl _
end Go.Proofs.YtjhjghakfedeeaaGreat
