/-
  '1 << (uint(x) % 17)': a power of 2 that may be, whatever x is. No conditions.
-/
import Derived.Test.YtgibpmjgcjcghaaAwake
namespace Go.Proofs.Ytgibpmjgcjcghaa
open Go.RowKit Plain
set_option linter.unusedVariables false

theorem cast_beq (a b : Nat) : ((a : Int) == (b : Int)) = decide (a = b) := by rw [Bool.eq_iff_iff]; simp; omega
theorem bne_cast {a b : Nat} (h : a ≠ b) : ((a : Int) != (b : Int)) = true := by simp [bne, cast_beq, h]
theorem may_pow : ∀ k, k < 17 → mayB ((2 ^ k : Nat) : Int) = true := by decide +kernel
theorem shift_any (x : Int) : ∃ X : Nat, mayB (X : Int) = true ∧ ∀ w, (Op.shift .shl .i64 1 .u64 ((IntKind.u64.wrap x).tmod 17)).run Try.prog w = .ok (.int .i64 (X : Int)) w := by
  have h0 : 0 ≤ IntKind.u64.wrap x := by rw [IntKind.wrap_u64]; omega
  obtain ⟨u, hu⟩ := Int.eq_ofNat_of_zero_le h0
  have hk : u % 17 < 17 := Nat.mod_lt _ (by decide)
  rw [hu, show ((u : Int).tmod 17) = ((u % 17 : Nat) : Int) from rfl]
  generalize u % 17 = k at hk
  refine ⟨2 ^ k, may_pow k hk, fun w => ?_⟩
  rcases (by omega : k = 0 ∨ k = 1 ∨ k = 2 ∨ k = 3 ∨ k = 4 ∨ k = 5 ∨ k = 6 ∨ k = 7 ∨ k = 8 ∨ k = 9 ∨ k = 10 ∨ k = 11 ∨ k = 12 ∨ k = 13 ∨ k = 14 ∨ k = 15 ∨ k = 16) with rfl | rfl | rfl | rfl | rfl | rfl | rfl | rfl | rfl | rfl | rfl | rfl | rfl | rfl | rfl | rfl | rfl
  all_goals rfl
theorem xor_u8 (x : UInt8) (D : Nat) (h : D < 256) : bits .xor .u8 (x.toNat : Int) (D : Int) = ((x ^^^ UInt8.ofNat D).toNat : Int) := by
  rw [u8_xor_nat x.toNat D x.toNat_lt h, UInt8.toNat_xor, UInt8.toNat_ofNat', Nat.mod_eq_of_lt (by omega)]
theorem xor_other (x : UInt8) (D : Nat) (h : D < 256) (h0 : 0 < D) : x ^^^ UInt8.ofNat D ≠ x := fun e => by
  have e2 : x ^^^ (x ^^^ UInt8.ofNat D) = x ^^^ x := by rw [e]
  rw [← UInt8.xor_assoc, UInt8.xor_self, UInt8.zero_xor] at e2
  have e3 := congrArg UInt8.toNat e2
  rw [UInt8.toNat_ofNat', Nat.mod_eq_of_lt (by omega)] at e3
  exact absurd e3 (by show ¬ D = 0; omega)
theorem by_any (x : Int) : ∃ D : Nat, 0 < D ∧ D < 256 ∧ wrap64 (1 + bits .and .i64 x 127) = (D : Int) := by
  have h := and_mask x 7 (by omega)
  rw [show (2 : Int) ^ 7 - 1 = 127 from rfl, show (2 : Int) ^ 7 = 128 from rfl] at h
  rw [h]
  exact ⟨(1 + x % 128).toNat, by omega, by omega, by rw [IntWalk.wrap64_in _ (by omega)]; omega⟩
theorem ub_low (a b c i : Nat) (h : i < 8) : ub (putT a b c) i = ub headT i := by rw [putT_parts, ub_append, if_pos (by exact h)]
theorem ub_high (a b c i : Nat) (h : 20 ≤ i) : ub (putT a b c) i = ub endT (i - 20) := by
  rw [putT_parts, ub_append, if_neg (by show ¬ i < 8; omega), ub_append, if_neg (by rw [four_size]; show ¬ i - 8 < 4; omega), ub_append, if_neg (by rw [four_size, four_size]; show ¬ i - 8 - 4 < 4; omega), ub_append, if_neg (by rw [four_size, four_size, four_size]; show ¬ i - 8 - 4 - 4 < 4; omega), four_size, four_size, four_size]
  rw [show i - headT.size - 4 - 4 - 4 = i - 20 by show i - 8 - 4 - 4 - 4 = i - 20; omega]
theorem turned {S T : ByteArray} {x y z p q r i : Nat} (hS : S = putT x y z) (hT : T = putT p q r) (hi : ub T i ≠ ub S i) : 8 ≤ i ∧ i < 20 ∧ ¬ (p = x ∧ q = y ∧ r = z) := by
  refine ⟨?_, ?_, ?_⟩
  · rcases Nat.lt_or_ge i 8 with h | h
    · exact absurd (by rw [hS, hT, ub_low _ _ _ _ h, ub_low _ _ _ _ h]) hi
    · exact h
  · rcases Nat.lt_or_ge i 20 with h | h
    · exact h
    · exact absurd (by rw [hS, hT, ub_high _ _ _ _ h, ub_high _ _ _ _ h]) hi
  · rintro ⟨rfl, rfl, rfl⟩
    exact hi (by rw [hS, hT])
theorem forms6 {S : ByteArray} (h : S = putT 65536 1 32768) : GetIs (S.extract 0 7 ++ ⟨#[0]⟩ ++ S.extract 8 32) 0 0 0 700 := get_no (by rw [h]; decide +kernel)
theorem forms5 {S : ByteArray} (h : S = putT 65536 1 32768) : GetIs (S.extract 0 31 ++ ⟨#[0]⟩) 0 0 0 700 := get_no (by rw [h]; decide +kernel)
theorem forms4 {S : ByteArray} (h : S = putT 65536 1 32768) : GetIs (S.extract 0 8 ++ ⟨#[3, 0, 0, 0]⟩ ++ S.extract 12 32) 0 0 0 700 := get_no (by rw [h]; decide +kernel)
theorem forms3 {S : ByteArray} (h : S = putT 65536 1 32768) : GetIs (⟨#[115, 102, 100, 112]⟩ ++ S.extract 4 32) 0 0 0 700 := get_no (by rw [h]; decide +kernel)
end Go.Proofs.Ytgibpmjgcjcghaa
