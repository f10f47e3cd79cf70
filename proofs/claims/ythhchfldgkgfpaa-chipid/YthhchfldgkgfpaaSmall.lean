/-
  The small functions of this seat, each by a contract: the mask's byte, whether cells may be, whether data fit, the number of an error. No conditions but those of each statement.
-/
import Derived.Test.YthhchfldgkgfpaaInts
import Derived.Test.YthhchfldgkgfpaaPlain
import Derived.WalkKit
import Derived.WalkSpells
import Derived.WalkLawsBesides
namespace Go.Proofs.Ythhchfldgkgfpaa
open Go.RowKit Plain

set_option maxHeartbeats 400000 in
theorem maskByte_any (m : ByteArray) (i : Nat) (w : World) (hm : m.size ≤ maxLen) (hi : i ≤ 4096) :
    Calls Try.prog 61 #[.string m, .int .i64 (i : Int)] w fun e w' => e = .returned (.int .u8 ((mb m i).toNat : Int)) ∧ w = w' := by
  unfold maxLen at hm
  by_cases h : m.size = 0
  · have hl : m.toList.isEmpty = true := by rw [isEmpty_iff]; simpa using h
    go_enter Try.func61, Try.ntmps61
    go_wp2
    go_ret
    exact ⟨ret_int (by rw [mb_zero m i h]; rfl), rfl⟩
  · have hl : m.toList.isEmpty = false := by rw [isEmpty_iff]; simpa using h
    have hp : 0 < m.size := by omega
    have hb := get_ub m
    have hlt : i % m.size < m.size := Nat.mod_lt _ hp
    have H : Hid (mb m i = ub m (i % m.size)) := mb_pos m i hp
    go_enter Try.func61, Try.ntmps61
    go_wp2
    go_ret
    exact ⟨ret_int (by rw [H.out]), rfl⟩
def mayB (a : ByteArray) : Bool := decide (a.size = 4096)
theorem may_any (a : ByteArray) (w : World) :
    Calls Try.prog 43 #[.string a] w fun e w' => e = .returned (.bool (mayB a)) ∧ w = w' := by
  go_enter Try.func43, Try.ntmps43
  go_wp2
  go_ret
  exact ⟨ret_bool (by unfold mayB; rw [Bool.eq_iff_iff]; simp; omega), rfl⟩
def fitsB (k : Int) (n : Nat) : Bool := decide (0 ≤ k ∧ k + n ≤ 4096)
theorem fits_any (k : Int) (n : Nat) (w : World) (hn : n ≤ maxLen) :
    Calls Try.prog 62 #[.int .i64 k, .int .i64 (n : Int)] w fun e w' => e = .returned (.bool (fitsB k n)) ∧ w = w' := by
  unfold maxLen at hn
  by_cases h : 0 ≤ k
  · by_cases h2 : k + n ≤ 4096
    all_goals
      go_enter Try.func62, Try.ntmps62
      go_wp2
      go_ret
      exact ⟨ret_bool (by unfold fitsB; rw [Bool.eq_iff_iff]; simp; omega), rfl⟩
  · go_enter Try.func62, Try.ntmps62
    go_wp2
    go_ret
    exact ⟨ret_bool (by unfold fitsB; rw [Bool.eq_iff_iff]; simp; omega), rfl⟩
end Go.Proofs.Ythhchfldgkgfpaa
