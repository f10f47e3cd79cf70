/-
  Plain facts on slots: what a turned bit, two slots over one another and a slot with more bits set are to Get. No conditions but those of each statement.
-/
import Derived.Test.YtobagompnllmkaaAwake
namespace Go.Proofs.Ytobagompnllmkaa
open Go.RowKit Plain
set_option linter.unusedVariables false

theorem not_not (x : UInt8) : ~~~(~~~x) = x := by
  refine by_bits fun i hi => ?_
  simp only [UInt8.toBitVec_not, BitVec.getLsbD_not, decide_eq_true hi]
  cases x.toBitVec.getLsbD i <;> rfl
theorem not_inj {x y : UInt8} (h : ~~~x = ~~~y) : x = y := by rw [← not_not x, h, not_not]
theorem xor_self_zero {x b : UInt8} (h : x = x ^^^ b) : b = 0 := by
  refine by_bits fun i hi => ?_
  have h1 := congrArg (fun z : UInt8 => z.toBitVec.getLsbD i) h
  simp only [UInt8.toBitVec_xor, BitVec.getLsbD_xor] at h1
  have h0 : (0 : UInt8).toBitVec.getLsbD i = false := by simp
  rw [h0]
  cases hx : x.toBitVec.getLsbD i <;> cases hb : b.toBitVec.getLsbD i <;> simp [hx, hb] at h1 ⊢
theorem and_not_and {x y : UInt8} (h : ~~~x &&& ~~~y = ~~~(x &&& y)) : x = y := by
  refine by_bits fun i hi => ?_
  have h1 := congrArg (fun z : UInt8 => z.toBitVec.getLsbD i) h
  simp only [UInt8.toBitVec_and, UInt8.toBitVec_not, BitVec.getLsbD_and, BitVec.getLsbD_not, decide_eq_true hi] at h1
  cases hx : x.toBitVec.getLsbD i <;> cases hy : y.toBitVec.getLsbD i <;> simp [hx, hy] at h1 ⊢
/-- u has x's bits, and turned it has those of x turned: it is x. -/
theorem over_both {u x : UInt8} (h1 : u ||| x = u) (h2 : ~~~u ||| ~~~x = ~~~u) : u = x := by
  refine by_bits fun i hi => ?_
  have e1 := congrArg (fun z : UInt8 => z.toBitVec.getLsbD i) h1
  have e2 := congrArg (fun z : UInt8 => z.toBitVec.getLsbD i) h2
  simp only [UInt8.toBitVec_or, UInt8.toBitVec_not, BitVec.getLsbD_or, BitVec.getLsbD_not, decide_eq_true hi] at e1 e2
  cases hu : u.toBitVec.getLsbD i <;> cases hx : x.toBitVec.getLsbD i <;> simp [hu, hx] at e1 e2 ⊢
theorem pb_over_data (d m : UInt8) : pb 255 d m ||| d = pb 255 d m := by
  unfold pb
  refine by_bits fun i hi => ?_
  simp only [UInt8.toBitVec_and, UInt8.toBitVec_or, UInt8.toBitVec_not, BitVec.getLsbD_and, BitVec.getLsbD_or, BitVec.getLsbD_not, ff_bits i hi, decide_eq_true hi]
  cases d.toBitVec.getLsbD i <;> cases m.toBitVec.getLsbD i <;> rfl
theorem eb_over (x m : UInt8) : eb x m ||| x = eb x m := by
  unfold eb
  refine by_bits fun i hi => ?_
  simp only [UInt8.toBitVec_or, BitVec.getLsbD_or]
  cases x.toBitVec.getLsbD i <;> cases m.toBitVec.getLsbD i <;> rfl
theorem or_trans {a b c : UInt8} (h1 : a ||| b = a) (h2 : b ||| c = b) : a ||| c = a := by
  rw [← h1, UInt8.or_assoc, h2]
theorem or_anti {a b : UInt8} (h1 : a ||| b = a) (h2 : b ||| a = b) : a = b := by
  rw [← h1, UInt8.or_comm, h2]

theorem getB_bytes {t : ByteArray} : getB t = true ↔ t.size = 64 ∧ ∀ j, j < 32 → ub t (32 + j) = ~~~(ub t j) := by
  rw [getB_true]
  refine ⟨fun ⟨hs, h⟩ => ⟨hs, fun j hj => ?_⟩, fun ⟨hs, h⟩ => ⟨hs, ?_⟩⟩
  · conv => lhs; rw [← h]
    rw [put_high _ hj, ub_extract _ _ _ _ (by omega) (by omega), Nat.zero_add]
  · refine ext_ub (by rw [put_size, hs]) fun j hj => ?_
    rw [put_size] at hj
    by_cases e : j < 32
    · rw [put_low _ e, ub_extract _ _ _ _ (by omega) (by omega), Nat.zero_add]
    · obtain ⟨k, rfl⟩ : ∃ k, j = 32 + k := ⟨j - 32, by omega⟩
      rw [put_high _ (by omega), ub_extract _ _ _ _ (by omega) (by omega), Nat.zero_add, h k (by omega)]

theorem one_turned {x R : ByteArray} {i : Nat} {b : UInt8} (hi : i < 64) (hb : b ≠ 0) (hR : R = tab 64 fun j => if j = i then ub (put x) i ^^^ b else ub (put x) j) : getB R = false := by
  rw [Bool.eq_false_iff]
  intro h
  have h2 := (getB_bytes.1 h).2
  have hu : ∀ j, j < 64 → ub R j = if j = i then ub (put x) i ^^^ b else ub (put x) j := fun j hj => by rw [hR, ub_tab _ _ _ hj]
  by_cases e : i < 32
  · have := h2 i e
    rw [hu _ (by omega), hu _ (by omega), if_neg (by omega), if_pos rfl, put_high _ e, put_low _ e] at this
    exact hb (xor_self_zero (not_inj this))
  · obtain ⟨k, rfl⟩ : ∃ k, i = 32 + k := ⟨i - 32, by omega⟩
    have := h2 k (by omega)
    rw [hu _ (by omega), hu _ (by omega), if_pos rfl, if_neg (by omega), put_high _ (by omega), put_low _ (by omega)] at this
    exact hb (xor_self_zero this.symm)

/-- Two slots over one another. -/
theorem two_over {x y U : ByteArray} (sx : x.size = 32) (sy : y.size = 32) (sU : U.size = 64) (h : ∀ j, j < 64 → ub U j = ub (put x) j &&& ub (put y) j) : getB U = true ↔ x = y := by
  refine ⟨fun hg => ?_, fun e => ?_⟩
  · have h2 := (getB_bytes.1 hg).2
    refine ext_ub (by omega) fun j hj => ?_
    have := h2 j (by omega)
    rw [h _ (by omega), h _ (by omega), put_high _ (by omega), put_high _ (by omega), put_low _ (by omega), put_low _ (by omega)] at this
    exact and_not_and this
  · subst e
    have hU : U = put x := ext_ub (by rw [sU, put_size]) fun j hj => by rw [h j (by omega), UInt8.and_self]
    rw [hU]
    exact getB_put sx

/-- U has each bit that T has. -/
def Over (U T : ByteArray) : Prop := ∀ j, j < 64 → ub U j ||| ub T j = ub U j
theorem over_iff {x U : ByteArray} (sx : x.size = 32) (sU : U.size = 64) (h : Over U (put x)) : getB U = true ↔ U = put x := by
  refine ⟨fun hg => ?_, fun e => by rw [e]; exact getB_put sx⟩
  have h2 := (getB_bytes.1 hg).2
  have low : ∀ j, j < 32 → ub U j = ub x j := fun j hj => by
    have e1 := h j (by omega)
    have e2 := h (32 + j) (by omega)
    rw [put_low _ hj] at e1
    rw [put_high _ hj, h2 j hj] at e2
    exact over_both e1 e2
  refine ext_ub (by rw [sU, put_size]) fun j hj => ?_
  by_cases e : j < 32
  · rw [put_low _ e, low j e]
  · obtain ⟨k, rfl⟩ : ∃ k, j = 32 + k := ⟨j - 32, by omega⟩
    rw [put_high _ (by omega), h2 k (by omega), low k (by omega)]
theorem Over.trans {a b c : ByteArray} (h1 : Over a b) (h2 : Over b c) : Over a c := fun j hj => or_trans (h1 j hj) (h2 j hj)
theorem Over.anti {a b : ByteArray} (sa : a.size = 64) (sb : b.size = 64) (h1 : Over a b) (h2 : Over b a) : a = b := ext_ub (by omega) fun j hj => or_anti (h1 j (by omega)) (h2 j (by omega))

/-- Get, of a text that has each bit of a slot. -/
theorem get_over (x U : ByteArray) (w : World) (sx : x.size = 32) (sU : U.size = 64) (h : Over U (put x)) :
    Calls Try.prog 11 #[.string U] w fun e w' => ∃ R n, e = .returned (.tuple #[.string R, .int .i64 n]) ∧ Hid (U = put x → R = x ∧ n = 0) ∧ Hid (U ≠ put x → n = 200) ∧ Below w.heap.size w w' :=
  (get_any U w (by unfold maxLen; omega)).mono fun e w' ⟨R, n, he, hR, hn, hb⟩ => ⟨R, n, he, fun e => by
    rw [hR.out, hn.out, e]; exact ⟨getS_put sx, getN_put sx⟩, fun e => by
    rw [hn.out]; unfold getN; rw [if_neg (fun h' => e ((over_iff sx sU h).1 h'))], hb⟩

/-- A slot's place in what was programmed in two parts upon bytes 255, and in what was then erased in part. -/
theorem slot_over {F A x T y z m1 m2 : ByteArray} {K : Nat} (hF : F = full 4096) (hK : K + 64 ≤ 4096) (hT : T = put x) (hy : y = T.extract 0 32) (hz : z = T.extract 32 64) (hA : A = prog (prog F K y m1) (K + 32) z m2) : Over (A.extract K (K + 64)) (put x) := fun j hj => by
  have sF : F.size = 4096 := full_size hF
  have sT : T.size = 64 := by rw [hT]; exact put_size x
  have sy : y.size = 32 := by rw [hy, ByteArray.size_extract]; omega
  have sz : z.size = 32 := by rw [hz, ByteArray.size_extract]; omega
  have sA : A.size = 4096 := by rw [hA, prog_size, prog_size, sF]
  rw [ub_extract _ _ _ _ (by omega) (by omega), ← hT, hA, prog_ub (by rw [prog_size]; omega), prog_ub (by omega), sy, sz]
  by_cases e : j < 32
  · rw [if_neg (by omega), if_pos (by omega), full_ub hF (by omega), hy, ub_extract _ _ _ _ (by omega) (by omega), show 0 + (K + j - K) = j by omega]
    exact pb_over_data _ _
  · rw [if_pos (by omega), if_neg (by omega), full_ub hF (by omega), hz, ub_extract _ _ _ _ (by omega) (by omega), show 32 + (K + j - (K + 32)) = j by omega]
    exact pb_over_data _ _
theorem erase_slot_over {A B m : ByteArray} {K S : Nat} (sA : A.size = 4096) (hK : K + 64 ≤ 4096) (hB : B = erase A S m) : Over (B.extract K (K + 64)) (A.extract K (K + 64)) := fun j hj => by
  have sB : B.size = 4096 := by rw [hB, erase_size, sA]
  rw [ub_extract _ _ _ _ (by omega) (by omega), ub_extract _ _ _ _ (by omega) (by omega), hB, erase_ub (by omega)]
  by_cases e : S * 512 ≤ K + j ∧ K + j < S * 512 + 512
  · rw [if_pos e]; exact eb_over _ _
  · rw [if_neg e, UInt8.or_self]
theorem ff_and (x : UInt8) : 255 &&& x = x := by
  refine by_bits fun i hi => ?_
  simp only [UInt8.toBitVec_and, BitVec.getLsbD_and, ff_bits i hi, Bool.true_and]
/-- Two slots programmed over one another upon bytes 255, as the law looks at them. -/
theorem and_slot {X Y S T F P Q : ByteArray} (sX : X.size = 32) (sY : Y.size = 32) (hS : S = put X) (hT : T = put Y) (hF : F = full 4096) (hP : P = prog F 0 S ⟨#[255]⟩) (hQ : Q = prog P 0 T ⟨#[255]⟩) :
    (Q.extract 0 64).size = 64 ∧ (getB (Q.extract 0 64) = true ↔ X = Y) ∧ (X = Y → (Q.extract 0 64).extract 0 32 = X) := by
  have sF : F.size = 4096 := full_size hF
  have sP : P.size = 4096 := by rw [hP, prog_size, sF]
  have sQ : Q.size = 4096 := by rw [hQ, prog_size, sP]
  have sS : S.size = 64 := by rw [hS]; exact put_size X
  have sT : T.size = 64 := by rw [hT]; exact put_size Y
  have sU : (Q.extract 0 64).size = 64 := by rw [ByteArray.size_extract]; omega
  have hU : ∀ j, j < 64 → ub (Q.extract 0 64) j = ub (put X) j &&& ub (put Y) j := fun j hj => by
    rw [ub_extract _ _ _ _ (by omega) (by omega), hQ, prog_ub (by omega), hP, prog_ub (by omega), if_pos (by omega), if_pos (by omega), full_ub hF (by omega), mb_one, pb_ff, pb_ff, show 0 + j - 0 = j by omega, hS, hT, ff_and]
  refine ⟨sU, two_over sX sY sU hU, fun e => ?_⟩
  refine ext_ub (by rw [ByteArray.size_extract, sU, sX]; rfl) fun j hj => ?_
  rw [ByteArray.size_extract, sU] at hj
  rw [ub_extract _ _ _ _ (by omega) (by omega), Nat.zero_add, hU j (by omega), ← e, UInt8.and_self, put_low _ (by omega)]
/-- The bit that the law turns, as the walk spells it. -/
theorem turned_is (x : UInt8) (r : Nat) (hr : r < 8) : ∃ b : UInt8, b ≠ 0 ∧ bits .xor .u8 (x.toNat : Int) ((2 : Int) ^ r % 256) = ((x ^^^ b).toNat : Int) := by
  have key : ∀ b : UInt8, bits .xor .u8 (x.toNat : Int) (b.toNat : Int) = ((x ^^^ b).toNat : Int) := fun b => by
    have := x.toNat_lt
    have := b.toNat_lt
    rw [u8_xor_nat _ _ (by omega) (by omega), UInt8.toNat_xor]
  rcases (show r = 0 ∨ r = 1 ∨ r = 2 ∨ r = 3 ∨ r = 4 ∨ r = 5 ∨ r = 6 ∨ r = 7 by omega) with rfl | rfl | rfl | rfl | rfl | rfl | rfl | rfl
  · exact ⟨1, by decide, key 1⟩
  · exact ⟨2, by decide, key 2⟩
  · exact ⟨4, by decide, key 4⟩
  · exact ⟨8, by decide, key 8⟩
  · exact ⟨16, by decide, key 16⟩
  · exact ⟨32, by decide, key 32⟩
  · exact ⟨64, by decide, key 64⟩
  · exact ⟨128, by decide, key 128⟩
/-- How many of the lowest J bits are set. -/
def pc (x : UInt8) : Nat → Nat
  | 0 => 0
  | J + 1 => pc x J + x.toNat / 2 ^ J % 2
def cnt (f : Nat → Nat) : Nat → Nat
  | 0 => 0
  | n + 1 => cnt f n + f n
theorem pc_le (x : UInt8) (J : Nat) : pc x J ≤ J := by
  induction J with
  | zero => exact Nat.le_refl _
  | succ J ih => show pc x J + _ ≤ _; have := Nat.mod_lt (x.toNat / 2 ^ J) (show 0 < 2 by omega); omega
theorem pc_le8 (x : UInt8) : pc x 8 ≤ 8 := pc_le x 8
theorem cnt_le (f : Nat → Nat) (n : Nat) (h : ∀ j, f j ≤ 8) : cnt f n ≤ 8 * n := by
  induction n with
  | zero => exact Nat.le_refl _
  | succ n ih => show cnt f n + f n ≤ _; have := h n; omega
theorem cnt_congr {f g : Nat → Nat} {n : Nat} (h : ∀ j, j < n → f j = g j) : cnt f n = cnt g n := by
  induction n with
  | zero => rfl
  | succ n ih => show cnt f n + f n = cnt g n + g n; rw [ih (fun j hj => h j (by omega)), h n (by omega)]
theorem cnt_add (f : Nat → Nat) (m n : Nat) : cnt f (m + n) = cnt f m + cnt (fun j => f (m + j)) n := by
  induction n with
  | zero => rfl
  | succ n ih => show cnt f (m + n) + f (m + n) = cnt f m + (cnt (fun j => f (m + j)) n + f (m + n)); rw [ih]; omega
theorem cnt_sum (f g : Nat → Nat) (n c : Nat) (h : ∀ j, j < n → f j + g j = c) : cnt f n + cnt g n = n * c := by
  induction n with
  | zero => simp [cnt]
  | succ n ih =>
    show cnt f n + f n + (cnt g n + g n) = _
    have := ih (fun j hj => h j (by omega))
    have := h n (by omega)
    rw [Nat.succ_mul]
    omega
set_option maxRecDepth 100000 in
theorem pc_not (x : UInt8) : pc x 8 + pc (~~~x) 8 = 8 := by
  have : ∀ n : Fin 256, pc (UInt8.ofNat n.val) 8 + pc (~~~(UInt8.ofNat n.val)) 8 = 8 := by decide
  have h := this ⟨x.toNat, x.toNat_lt⟩
  simpa using h
theorem cnt_put (x : ByteArray) : cnt (fun j => pc (ub (put x) j) 8) 64 = 256 := by
  have h := cnt_add (fun j => pc (ub (put x) j) 8) 32 32
  rw [show 32 + 32 = 64 from rfl] at h
  rw [h]
  refine cnt_sum (fun j => pc (ub (put x) j) 8) (fun j => pc (ub (put x) (32 + j)) 8) 32 8 fun j hj => ?_
  show pc (ub (put x) j) 8 + pc (ub (put x) (32 + j)) 8 = 8
  rw [put_low _ hj, put_high _ hj]
  exact pc_not _
/-- A round of the law's count, as the walk spells it. -/
theorem count_step (x : UInt8) (J N : Nat) (hN : N ≤ 1000) (hJ : J < 8) : wrap64 ((N : Int) + (pc x J : Int) + wrap64 (bits .and .u8 ((x.toNat : Int) / 2 ^ J) 1)) = ((N + pc x (J + 1) : Nat) : Int) := by
  have e : ((x.toNat : Int) / 2 ^ J) = ((x.toNat / 2 ^ J : Nat) : Int) := by simp
  have hx := x.toNat_lt
  have hd : x.toNat / 2 ^ J ≤ x.toNat := Nat.div_le_self _ _
  have hp := pc_le x J
  have hm := Nat.mod_lt (x.toNat / 2 ^ J) (show 0 < 2 by omega)
  have hb : bits .and .u8 ((x.toNat : Int) / 2 ^ J) 1 = ((x.toNat / 2 ^ J % 2 : Nat) : Int) := by
    rw [e, show (1 : Int) = ((1 : Nat) : Int) from rfl, u8_and_nat _ _ (by omega) (by omega), Nat.and_one_is_mod]
  rw [hb, IntWalk.wrap64_in ((x.toNat / 2 ^ J % 2 : Nat) : Int) (by omega), IntWalk.wrap64_in _ (by omega)]
  show _ = ((N + (pc x J + x.toNat / 2 ^ J % 2) : Nat) : Int)
  omega
theorem pcS_add {a d m : ByteArray} {K c : Nat} (ha : a.size = 4096) (hA : K + c + d.size ≤ 4096) : pcS a ((K : Int) + (c : Int)) d m = prog a (K + c) d m := by
  rw [show (K : Int) + (c : Int) = ((K + c : Nat) : Int) by omega]
  exact pcS_yes ha hA
theorem ecS_div {a m : ByteArray} {K : Nat} (ha : a.size = 4096) (hK : K < 4096) : ecS a ((K : Int) / 512) m = erase a (K / 512) m := by
  rw [show (K : Int) / 512 = ((K / 512 : Nat) : Int) by omega]
  exact ecS_yes ha (by omega)
theorem getN_no {t : ByteArray} (h : getB t = false) : getN t = 200 := by unfold getN; rw [h]; rfl
theorem getS_no {t : ByteArray} (h : getB t = false) : getS t = ⟨#[]⟩ := by unfold getS; rw [h]; rfl
end Go.Proofs.Ytobagompnllmkaa
