/-
  Bits of numbers, as sums and remainders: what a mask leaves, and two numbers that share no bit. No conditions but those of each statement.
-/
import Derived.WalkKit
namespace Go.Proofs.Ytbcdfobclliboaa
open Go.RowKit

theorem ofInt_64 (n : Int) : ((BitVec.ofInt 64 n).toNat : Int) = n % 18446744073709551616 := by
  rw [BitVec.toNat_ofInt]
  have : (0 : Int) ≤ n % 18446744073709551616 := Int.emod_nonneg _ (by omega)
  show ((n % 18446744073709551616).toNat : Int) = _
  omega
/-- A mask of the lowest k bits. -/
theorem and_mask (n : Int) (k : Nat) (hk : k ≤ 62) : bits .and .i64 n (2 ^ k - 1) = n % 2 ^ k := by
  have hp : 2 ^ k ≤ 2 ^ 62 := Nat.pow_le_pow_right (by omega) hk
  have hp0 : 0 < 2 ^ k := Nat.pow_pos (by omega)
  have hpI : ((2 ^ k : Nat) : Int) = 2 ^ k := by norm_cast
  have e1 : (BitVec.ofInt 64 (2 ^ k - 1 : Int)).toNat = 2 ^ k - 1 := by
    have h := ofInt_64 (2 ^ k - 1 : Int)
    rw [← hpI] at h ⊢
    omega
  have e2 : (BitVec.ofInt 64 n).toNat % 2 ^ k = (n % 2 ^ k).toNat := by
    have h := ofInt_64 n
    have hd : ((2 ^ k : Nat) : Int) ∣ 18446744073709551616 := by
      have : 2 ^ k ∣ 2 ^ 64 := Nat.pow_dvd_pow 2 (by omega)
      rw [show (2 : Nat) ^ 64 = 18446744073709551616 from by decide] at this
      exact Int.ofNat_dvd.2 this
    have h2 : (((BitVec.ofInt 64 n).toNat % 2 ^ k : Nat) : Int) = n % ((2 ^ k : Nat) : Int) := by
      rw [Int.natCast_emod, h, Int.emod_emod_of_dvd _ hd]
    rw [← hpI, ← h2]
    rfl
  show IntKind.i64.wrap ((BitVec.ofInt 64 n &&& BitVec.ofInt 64 (2 ^ k - 1)).toNat : Int) = _
  rw [BitVec.toNat_and, e1, Nat.and_two_pow_sub_one_eq_mod, e2]
  have h3 : 0 ≤ n % (2 ^ k : Int) := by rw [← hpI]; exact Int.emod_nonneg _ (by omega)
  have h4 : n % (2 ^ k : Int) < ((2 ^ k : Nat) : Int) := by rw [← hpI]; exact Int.emod_lt_of_pos _ (by omega)
  rw [IntWalk.i64_in _ (by omega)]
  omega
theorem and_1 (n : Int) : bits .and .i64 n 1 = n % 2 := and_mask n 1 (by omega)
theorem and_15 (n : Int) : bits .and .i64 n 15 = n % 16 := and_mask n 4 (by omega)
theorem and_63 (n : Int) : bits .and .i64 n 63 = n % 64 := and_mask n 6 (by omega)
theorem and_255 (n : Int) : bits .and .i64 n 255 = n % 256 := and_mask n 8 (by omega)
theorem and_1023 (n : Int) : bits .and .i64 n 1023 = n % 1024 := and_mask n 10 (by omega)
/-- Two numbers, the second below the first's lowest bit. -/
theorem or_add (x y : Int) (k : Nat) (hx : 0 ≤ x) (hk : x * 2 ^ k + 2 ^ k ≤ 4611686018427387904) (hy : 0 ≤ y) (hy2 : y < 2 ^ k) : bits .or .i64 (x * 2 ^ k) y = x * 2 ^ k + y := by
  obtain ⟨a, rfl⟩ := Int.eq_ofNat_of_zero_le hx
  obtain ⟨b, rfl⟩ := Int.eq_ofNat_of_zero_le hy
  have hpI : ((2 ^ k : Nat) : Int) = 2 ^ k := by norm_cast
  have hmul : ((a * 2 ^ k : Nat) : Int) = (a : Int) * 2 ^ k := by rw [Int.natCast_mul, hpI]
  rw [← hpI] at hy2
  rw [← hmul, ← hpI] at hk
  rw [← hmul]
  have e1 : (BitVec.ofInt 64 ((a * 2 ^ k : Nat) : Int)).toNat = a * 2 ^ k := by
    have h := ofInt_64 ((a * 2 ^ k : Nat) : Int)
    omega
  have e2 : (BitVec.ofInt 64 (b : Int)).toNat = b := by
    have h := ofInt_64 (b : Int)
    omega
  show IntKind.i64.wrap ((BitVec.ofInt 64 ((a * 2 ^ k : Nat) : Int) ||| BitVec.ofInt 64 (b : Int)).toNat : Int) = _
  rw [BitVec.toNat_or, e1, e2, show a * 2 ^ k ||| b = a * 2 ^ k + b from by rw [Nat.mul_comm]; exact (Nat.two_pow_add_eq_or_of_lt (by omega) a).symm]
  rw [IntWalk.i64_in _ (by omega)]
  omega
theorem or_two (x y : Int) (hx : 0 ≤ x) (hx2 : x < 1024) (hy : 0 ≤ y) (hy2 : y < 2) : bits .or .i64 (x * 2) y = x * 2 + y := or_add x y 1 hx (by omega) hy (by omega)
theorem or_sixteen (x y : Int) (hx : 0 ≤ x) (hx2 : x < 1024) (hy : 0 ≤ y) (hy2 : y < 16) : bits .or .i64 (x * 16) y = x * 16 + y := or_add x y 4 hx (by omega) hy (by omega)
end Go.Proofs.Ytbcdfobclliboaa
