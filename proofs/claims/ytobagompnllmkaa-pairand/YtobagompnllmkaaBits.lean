/-
  What programs and erases do to bytes and texts, bit by bit: plain facts for the laws of this seat. No conditions but those of each statement.
-/
import Derived.Test.YtobagompnllmkaaCellFacts
namespace Go.Proofs.Ytobagompnllmkaa
open Go.RowKit Plain
set_option linter.unusedVariables false

theorem by_bits {a b : UInt8} (h : ∀ i, i < 8 → a.toBitVec.getLsbD i = b.toBitVec.getLsbD i) : a = b :=
  UInt8.eq_of_toBitVec_eq (BitVec.eq_of_getLsbD_eq h)
theorem ff_bits : ∀ i, i < 8 → (255 : UInt8).toBitVec.getLsbD i = true := by decide
theorem pb_ff (x d : UInt8) : pb x d 255 = x &&& d := by
  unfold pb
  refine by_bits fun i hi => ?_
  simp only [UInt8.toBitVec_and, UInt8.toBitVec_not, BitVec.getLsbD_and, BitVec.getLsbD_not, ff_bits i hi, decide_eq_true hi]
  cases x.toBitVec.getLsbD i <;> cases d.toBitVec.getLsbD i <;> rfl
theorem pb_twice (x d : UInt8) : pb (pb x d 255) d 255 = pb x d 255 := by
  rw [pb_ff, pb_ff, UInt8.and_assoc, UInt8.and_self]
theorem pb_swap (x d e : UInt8) : pb (pb x d 255) e 255 = pb (pb x e 255) d 255 := by
  rw [pb_ff, pb_ff, pb_ff, pb_ff, UInt8.and_assoc, UInt8.and_assoc, UInt8.and_comm d e]
theorem pb_over (x d m : UInt8) : pb (pb x d m) d 255 = pb x d 255 := by
  rw [pb_ff, pb_ff]
  unfold pb
  refine by_bits fun i hi => ?_
  simp only [UInt8.toBitVec_and, UInt8.toBitVec_not, BitVec.getLsbD_and, BitVec.getLsbD_not, decide_eq_true hi]
  cases x.toBitVec.getLsbD i <;> cases d.toBitVec.getLsbD i <;> cases m.toBitVec.getLsbD i <;> rfl
/-- What is cut lies between what was and what is whole. -/
theorem pb_low (x d m : UInt8) : pb x d m &&& pb x d 255 = pb x d 255 := by
  rw [pb_ff]
  unfold pb
  refine by_bits fun i hi => ?_
  simp only [UInt8.toBitVec_and, UInt8.toBitVec_not, BitVec.getLsbD_and, BitVec.getLsbD_not, decide_eq_true hi]
  cases x.toBitVec.getLsbD i <;> cases d.toBitVec.getLsbD i <;> cases m.toBitVec.getLsbD i <;> rfl
theorem pb_high (x d m : UInt8) : pb x d m ||| x = x := by
  unfold pb
  refine by_bits fun i hi => ?_
  simp only [UInt8.toBitVec_and, UInt8.toBitVec_or, UInt8.toBitVec_not, BitVec.getLsbD_and, BitVec.getLsbD_or, BitVec.getLsbD_not, decide_eq_true hi]
  cases x.toBitVec.getLsbD i <;> cases d.toBitVec.getLsbD i <;> cases m.toBitVec.getLsbD i <;> rfl
theorem eb_low (x m : UInt8) : eb x m &&& x = x := by
  unfold eb
  refine by_bits fun i hi => ?_
  simp only [UInt8.toBitVec_and, UInt8.toBitVec_or, BitVec.getLsbD_and, BitVec.getLsbD_or]
  cases x.toBitVec.getLsbD i <;> cases m.toBitVec.getLsbD i <;> rfl
theorem eb_zero (x : UInt8) : eb x 0 = x := by simp [eb]
theorem eb_ff' (x : UInt8) : x ||| 255 = 255 := eb_ff x

theorem wide_size (s : ByteArray) : (wide s).size = 4096 := tab_size _ _

theorem prog_twice (a : ByteArray) (A : Nat) (d : ByteArray) : prog (prog a A d ⟨#[255]⟩) A d ⟨#[255]⟩ = prog a A d ⟨#[255]⟩ := by
  refine ext_ub (by simp only [prog_size]) fun j hj => ?_
  simp only [prog_size] at hj
  rw [prog_ub (by simpa only [prog_size] using hj), prog_ub hj]
  by_cases h : A ≤ j ∧ j < A + d.size
  · simp only [if_pos h, mb_one, pb_twice]
  · simp only [if_neg h]
theorem prog_swap (a : ByteArray) (A : Nat) (d e : ByteArray) : prog (prog a A d ⟨#[255]⟩) A e ⟨#[255]⟩ = prog (prog a A e ⟨#[255]⟩) A d ⟨#[255]⟩ := by
  refine ext_ub (by simp only [prog_size]) fun j hj => ?_
  simp only [prog_size] at hj
  rw [prog_ub (by simpa only [prog_size] using hj), prog_ub hj, prog_ub (by simpa only [prog_size] using hj), prog_ub hj]
  by_cases h : A ≤ j ∧ j < A + d.size
  · by_cases h2 : A ≤ j ∧ j < A + e.size
    · simp only [if_pos h, if_pos h2, mb_one]; exact pb_swap _ _ _
    · simp only [if_pos h, if_neg h2, mb_one]
  · by_cases h2 : A ≤ j ∧ j < A + e.size
    · simp only [if_neg h, if_pos h2, mb_one]
    · simp only [if_neg h, if_neg h2]
theorem prog_over (a : ByteArray) (A : Nat) (d m : ByteArray) : prog (prog a A d m) A d ⟨#[255]⟩ = prog a A d ⟨#[255]⟩ := by
  refine ext_ub (by simp only [prog_size]) fun j hj => ?_
  simp only [prog_size] at hj
  rw [prog_ub (by simpa only [prog_size] using hj), prog_ub hj, prog_ub hj]
  by_cases h : A ≤ j ∧ j < A + d.size
  · simp only [if_pos h, mb_one, pb_over]
  · simp only [if_neg h]
theorem erase_over (a : ByteArray) (S : Nat) (m : ByteArray) : erase (erase a S m) S ⟨#[255]⟩ = erase a S ⟨#[255]⟩ := by
  refine ext_ub (by simp only [erase_size]) fun j hj => ?_
  simp only [erase_size] at hj
  rw [erase_ub (by simpa only [erase_size] using hj), erase_ub hj, erase_ub hj]
  by_cases h : S * 512 ≤ j ∧ j < S * 512 + 512
  · simp only [if_pos h, mb_one, eb_ff]
  · simp only [if_neg h]
theorem erase_swap (a : ByteArray) (S T : Nat) : erase (erase a S ⟨#[255]⟩) T ⟨#[255]⟩ = erase (erase a T ⟨#[255]⟩) S ⟨#[255]⟩ := by
  refine ext_ub (by simp only [erase_size]) fun j hj => ?_
  simp only [erase_size] at hj
  rw [erase_ub (by simpa only [erase_size] using hj), erase_ub hj, erase_ub (by simpa only [erase_size] using hj), erase_ub hj]
  by_cases h : S * 512 ≤ j ∧ j < S * 512 + 512
  · by_cases h2 : T * 512 ≤ j ∧ j < T * 512 + 512
    · simp only [if_pos h, if_pos h2, mb_one, eb_ff]
    · simp only [if_pos h, if_neg h2, mb_one, eb_ff]
  · by_cases h2 : T * 512 ≤ j ∧ j < T * 512 + 512
    · simp only [if_neg h, if_pos h2, mb_one, eb_ff]
    · simp only [if_neg h, if_neg h2]
theorem prog_parts (a : ByteArray) (A : Nat) (d x y : ByteArray) (c : Nat) (hc : c ≤ d.size) (hx : x.size = c) (hy : y.size = d.size - c) (ex : ∀ i, i < c → ub x i = ub d i) (ey : ∀ i, i < d.size - c → ub y i = ub d (c + i)) :
    prog (prog a A x ⟨#[255]⟩) (A + c) y ⟨#[255]⟩ = prog a A d ⟨#[255]⟩ := by
  refine ext_ub (by simp only [prog_size]) fun j hj => ?_
  simp only [prog_size] at hj
  rw [prog_ub (by simpa only [prog_size] using hj), prog_ub hj, prog_ub hj, hx, hy]
  by_cases h : A ≤ j ∧ j < A + c
  · rw [if_neg (by omega), if_pos h, if_pos (by omega)]
    simp only [mb_one]
    rw [ex _ (by omega)]
  · by_cases h2 : A + c ≤ j ∧ j < A + c + (d.size - c)
    · rw [if_pos h2, if_neg h, if_pos (by omega)]
      simp only [mb_one]
      rw [ey _ (by omega), show c + (j - (A + c)) = j - A by omega]
    · rw [if_neg h2, if_neg h, if_neg (by omega)]

/-- The bytes at one place of what was, of the program whole and cut, of the erase whole and cut, and how they lie to one another, as the walk spells it. -/
theorem bits_at {A P C X D d m : ByteArray} {K S j : Nat} (sA : A.size = 4096) (hP : P = prog A K d ⟨#[255]⟩) (hC : C = prog A K d m) (hX : X = erase A S ⟨#[255]⟩) (hD : D = erase A S m) (hj : j < 4096) (hS : S < 8) :
    ∃ x p c y X1 D1 : UInt8, ub A j = x ∧ ub P j = p ∧ ub C j = c ∧ ub X j = X1 ∧ ub D j = D1 ∧
      (K ≤ j ∧ j < K + d.size → ub d (j - K) = y ∧ bits .and .u8 (x.toNat : Int) (y.toNat : Int) = (p.toNat : Int)) ∧
      (¬ (K ≤ j ∧ j < K + d.size) → p = x) ∧
      bits .and .u8 (c.toNat : Int) (p.toNat : Int) = (p.toNat : Int) ∧ bits .or .u8 (c.toNat : Int) (x.toNat : Int) = (x.toNat : Int) ∧
      (j / 512 = S → X1 = 255) ∧ (¬ j / 512 = S → X1 = x) ∧
      bits .and .u8 (D1.toNat : Int) (x.toNat : Int) = (x.toNat : Int) ∧ bits .or .u8 (D1.toNat : Int) (X1.toNat : Int) = (X1.toNat : Int) := by
  refine ⟨ub A j, ub P j, ub C j, ub d (j - K), ub X j, ub D j, rfl, rfl, rfl, rfl, rfl, fun h => ⟨rfl, ?_⟩, fun h => ?_, ?_, ?_, fun h => ?_, fun h => ?_, ?_, ?_⟩
  · rw [and_u8, hP, prog_ub (by omega), if_pos h, mb_one, pb_ff]
  · rw [hP, prog_ub (by omega), if_neg h]
  · rw [and_u8, hP, hC, prog_ub (by omega), prog_ub (by omega)]
    by_cases h : K ≤ j ∧ j < K + d.size
    · rw [if_pos h, if_pos h, mb_one, pb_low]
    · rw [if_neg h, if_neg h, UInt8.and_self]
  · rw [or_u8, hC, prog_ub (by omega)]
    by_cases h : K ≤ j ∧ j < K + d.size
    · rw [if_pos h, pb_high]
    · rw [if_neg h, UInt8.or_self]
  · rw [hX, erase_ub (by omega), if_pos (by omega), mb_one, eb_ff]
  · rw [hX, erase_ub (by omega), if_neg (by omega)]
  · rw [and_u8, hD, erase_ub (by omega)]
    split
    · rw [eb_low]
    · rw [UInt8.and_self]
  · rw [or_u8, hD, hX, erase_ub (by omega), erase_ub (by omega)]
    split
    · rw [mb_one, eb_ff, eb_ff']
    · rw [UInt8.or_self]
/-- What a call of the cells answers that takes its arguments: a text of 4096 bytes, and no error. -/
def Gives (w : World) (S : ByteArray) (e : Ending) (w' : World) : Prop :=
  ∃ R, e = .returned (.tuple #[.string R, .int .i64 0]) ∧ Hid (R = S) ∧ Hid (R.size = 4096) ∧ Below w.heap.size w w'
theorem program_gives (a : ByteArray) (A : Nat) (d : ByteArray) (w : World) (ha : a.size = 4096) (hA : A + d.size ≤ 4096) :
    Calls Try.prog 19 #[.string a, .int .i64 (A : Int), .string d] w (Gives w (prog a A d ⟨#[255]⟩)) :=
  (program_any a A d w (by unfold maxLen; omega)).mono fun e w' ⟨R, n, he, hR, hn, hb⟩ => by
    have h0 : n = 0 := hn.out.trans (pcN_yes ha (by omega) (by omega))
    have hS : R = prog a A d ⟨#[255]⟩ := hR.out.trans (pcS_yes ha hA)
    subst h0
    exact ⟨R, he, hS, by rw [Hid, hS, prog_size, ha], hb⟩
theorem programCut_gives (a : ByteArray) (A : Nat) (d m : ByteArray) (w : World) (ha : a.size = 4096) (hA : A + d.size ≤ 4096) (hm : m.size ≤ maxLen) :
    Calls Try.prog 16 #[.string a, .int .i64 (A : Int), .string d, .string m] w (Gives w (prog a A d m)) :=
  (programCut_any a A d m w (by unfold maxLen; omega) hm).mono fun e w' ⟨R, n, he, hR, hn, hb⟩ => by
    have h0 : n = 0 := hn.out.trans (pcN_yes ha (by omega) (by omega))
    have hS : R = prog a A d m := hR.out.trans (pcS_yes ha hA)
    subst h0
    exact ⟨R, he, hS, by rw [Hid, hS, prog_size, ha], hb⟩
theorem eraseCut_gives (a : ByteArray) (S : Nat) (m : ByteArray) (w : World) (ha : a.size = 4096) (hS : S < 8) (hm : m.size ≤ maxLen) :
    Calls Try.prog 18 #[.string a, .int .i64 (S : Int), .string m] w (Gives w (erase a S m)) :=
  (eraseCut_any a S m w hm).mono fun e w' ⟨R, n, he, hR, hn, hb⟩ => by
    have h0 : n = 0 := hn.out.trans (ecN_yes ha (by omega) (by omega))
    have hS : R = erase a S m := hR.out.trans (ecS_yes ha hS)
    subst h0
    exact ⟨R, he, hS, by rw [Hid, hS, erase_size, ha], hb⟩
theorem and_low (x : Int) (n : Nat) (hn : n < 9223372036854775808) : ∃ D : Nat, D ≤ n ∧ bits .and .i64 x (n : Int) = (D : Int) := by
  refine ⟨(BitVec.ofInt 64 x &&& BitVec.ofInt 64 (n : Int)).toNat, ?_, ?_⟩
  · rw [BitVec.toNat_and]
    refine Nat.le_trans Nat.and_le_right ?_
    rw [BitVec.ofInt_natCast, BitVec.toNat_ofNat]
    exact Nat.mod_le _ _
  · have h : (BitVec.ofInt 64 x &&& BitVec.ofInt 64 (n : Int)).toNat ≤ n := by
      rw [BitVec.toNat_and]
      refine Nat.le_trans Nat.and_le_right ?_
      rw [BitVec.ofInt_natCast, BitVec.toNat_ofNat]
      exact Nat.mod_le _ _
    show IntKind.i64.wrap ((BitVec.ofInt 64 x &&& BitVec.ofInt 64 (n : Int)).toNat : Int) = _
    exact IntWalk.i64_in _ (by omega)
theorem prog_none (a : ByteArray) (A : Nat) (m : ByteArray) : prog a A ⟨#[]⟩ m = a := by
  refine ext_ub (prog_size _ _ _ _) fun j hj => ?_
  rw [prog_size] at hj
  rw [prog_ub hj, if_neg (by have : (⟨#[]⟩ : ByteArray).size = 0 := rfl; omega)]
theorem erase_none (a : ByteArray) (S : Nat) : erase a S ⟨#[]⟩ = a := by
  refine ext_ub (erase_size _ _ _) fun j hj => ?_
  rw [erase_size] at hj
  rw [erase_ub hj, mb_zero _ _ rfl, eb_zero]
  split <;> rfl
theorem none_size : (⟨#[]⟩ : ByteArray).size = 0 := rfl
theorem none_ok : (⟨#[]⟩ : ByteArray).size ≤ maxLen := by rw [none_size]; unfold maxLen; omega
theorem three_size : (⟨#[120, 121, 122]⟩ : ByteArray).size = 3 := rfl
theorem three_ok : (⟨#[120, 121, 122]⟩ : ByteArray).size ≤ maxLen := by rw [three_size]; unfold maxLen; omega
theorem mayB_no {a : ByteArray} (h : a.size ≠ 4096) : mayB a = false := by simp [mayB, h]
theorem ub_extract (s : ByteArray) (lo hi i : Nat) (h : lo + i < hi) (hs : hi ≤ s.size) : ub (s.extract lo hi) i = ub s (lo + i) := by
  rw [ub_of _ _ (by rw [ByteArray.size_extract]; omega), ub_of _ _ (by omega)]
  exact ByteArray.getElem_extract ..
/-- 'int(uint(x) % uint(n))' as the walk spells it. -/
theorem umod (x : Int) (n : Nat) (hn : 0 < n) (hb : n ≤ 9223372036854775807) : ∃ K : Nat, K < n ∧ wrap64 ((IntKind.u64.wrap x).tmod (n : Int)) = (K : Int) := by
  have h0 : 0 ≤ IntKind.u64.wrap x := by rw [IntKind.wrap_u64]; omega
  obtain ⟨u, hu⟩ := Int.eq_ofNat_of_zero_le h0
  refine ⟨u % n, Nat.mod_lt _ hn, ?_⟩
  rw [hu, show ((u : Int).tmod (n : Int)) = ((u % n : Nat) : Int) from rfl]
  have := Nat.mod_lt u hn
  exact IntWalk.wrap64_in _ (by omega)
end Go.Proofs.Ytobagompnllmkaa
