/-
  Plain facts on what a chip's text is: its parts, its numbers, that they come back. No conditions but those of each statement.
-/
import Derived.Test.YtgibpmjgcjcghaaTaker
namespace Go.Proofs.Ytgibpmjgcjcghaa
open Go.RowKit Plain
set_option linter.unusedVariables false

theorem ub_append (p q : ByteArray) (i : Nat) : ub (p ++ q) i = if i < p.size then ub p i else ub q (i - p.size) := by
  by_cases h : i < p.size
  · rw [if_pos h, ub_of _ _ (by rw [ByteArray.size_append]; omega), ub_of _ _ h, ByteArray.getElem_append_left h]
  · rw [if_neg h]
    by_cases h2 : i - p.size < q.size
    · rw [ub_of _ _ (by rw [ByteArray.size_append]; omega), ub_of _ _ h2, ByteArray.getElem_append_right (by omega)]
    · unfold ub
      rw [dif_neg (by rw [ByteArray.size_append]; omega), dif_neg h2]
theorem ub_extract (a : ByteArray) (b e i : Nat) (he : e ≤ a.size) (hi : i < e - b) : ub (a.extract b e) i = ub a (b + i) := by
  rw [ub_of _ _ (by rw [ByteArray.size_extract]; omega), ub_of _ _ (by omega), ByteArray.getElem_extract]
theorem up_append (p q : ByteArray) (n : Nat) (h : p.size = n) : (p ++ q).extract 0 n = p := by
  subst h
  have hs : (p ++ q).size = p.size + q.size := ByteArray.size_append
  refine ext_ub (by rw [ByteArray.size_extract]; omega) fun i hi => ?_
  rw [ByteArray.size_extract] at hi
  rw [ub_extract _ _ _ _ (by omega) (by omega), Nat.zero_add, ub_append, if_pos (by omega)]
theorem from_append (p q : ByteArray) (n : Nat) (h : p.size = n) : (p ++ q).extract n (p ++ q).size = q := by
  subst h
  have hs : (p ++ q).size = p.size + q.size := ByteArray.size_append
  refine ext_ub (by rw [ByteArray.size_extract]; omega) fun i hi => ?_
  rw [ByteArray.size_extract] at hi
  rw [ub_extract _ _ _ _ (by omega) (by omega), ub_append, if_neg (by omega)]
  congr 1; omega
theorem both (r : ByteArray) (n : Nat) (h : n ≤ r.size) : r.extract 0 n ++ r.extract n r.size = r := by
  have h1 : (r.extract 0 n).size = n := by rw [ByteArray.size_extract]; omega
  refine ext_ub (by rw [ByteArray.size_append, ByteArray.size_extract, ByteArray.size_extract]; omega) fun i hi => ?_
  rw [ByteArray.size_append, ByteArray.size_extract, ByteArray.size_extract] at hi
  rw [ub_append, h1]
  split
  · rw [ub_extract _ _ _ _ (by omega) (by omega), Nat.zero_add]
  · rw [ub_extract _ _ _ _ (by omega) (by omega)]
    congr 1; omega
theorem size_zero {r : ByteArray} (h : r.size = 0) : r = ByteArray.empty := ext_ub h fun i hi => by omega
theorem append_none (r : ByteArray) : r ++ ByteArray.empty = r := ByteArray.append_empty

/-- A number's four bytes. -/
def fourT (n : Nat) : ByteArray := ⟨(lowest n 4).toArray⟩
def headT : ByteArray := ⟨headL.toArray⟩
def endT : ByteArray := ⟨(List.replicate 12 (255 : UInt8)).toArray⟩
theorem putT_parts (a b c : Nat) : putT a b c = headT ++ (fourT a ++ (fourT b ++ (fourT c ++ endT))) := by
  refine ByteArray.ext (Array.ext' ?_)
  simp [ByteArray.data_append, putT, putL, headT, fourT, endT]
theorem four_size (n : Nat) : (fourT n).size = 4 := by
  show (lowest n 4).toArray.size = 4
  simp [lowest_length]
theorem four_ub (n j : Nat) (h : j < 4) : (ub (fourT n) j).toNat = n / 256 ^ j % 256 := by
  rw [ub_of _ _ (by rw [four_size]; exact h)]
  rcases (by omega : j = 0 ∨ j = 1 ∨ j = 2 ∨ j = 3) with rfl | rfl | rfl | rfl
  all_goals
    show (UInt8.ofNat _).toNat = _
    rw [UInt8.toNat_ofNat']
theorem numOf_four (n : Nat) (h : n < 4294967296) : numOf (fourT n) = n := by
  unfold numOf
  rw [four_size]
  simp only [numF]
  rw [four_ub n 0 (by decide), four_ub n (0 + 1) (by decide), four_ub n (0 + 1 + 1) (by decide), four_ub n (0 + 1 + 1 + 1) (by decide)]
  simp only [Nat.zero_add, Nat.reduceAdd, Nat.reducePow, Nat.div_one]
  omega
theorem four_numOf (p : ByteArray) (h : p.size = 4) : fourT (numOf p) = p := by
  refine ext_ub (by rw [four_size, h]) fun i hi => ?_
  rw [four_size] at hi
  refine UInt8.toNat_inj.mp ?_
  rw [four_ub _ _ hi]
  have h0 := (ub p 0).toNat_lt
  have h1 := (ub p 1).toNat_lt
  have h2 := (ub p 2).toNat_lt
  have h3 := (ub p 3).toNat_lt
  have e : numOf p = (ub p 0).toNat + 256 * ((ub p 1).toNat + 256 * ((ub p 2).toNat + 256 * ((ub p 3).toNat + 256 * 0))) := by
    unfold numOf; rw [h]; rfl
  rw [e]
  rcases (by omega : i = 0 ∨ i = 1 ∨ i = 2 ∨ i = 3) with rfl | rfl | rfl | rfl
  all_goals
    simp only [Nat.reducePow, Nat.div_one]
    omega
theorem put_size (a b c : Nat) : (putT a b c).size = 32 := by
  rw [putT_parts]
  simp only [ByteArray.size_append, four_size]
  rfl
/-- Unlike numbers have unlike texts. -/
theorem put_inj {a b c x y z : Nat} (ha : a < 4294967296) (hb : b < 4294967296) (hc : c < 4294967296) (hx : x < 4294967296) (hy : y < 4294967296) (hz : z < 4294967296) (h : putT a b c = putT x y z) : a = x ∧ b = y ∧ c = z := by
  rw [putT_parts, putT_parts] at h
  have e0 := congrArg (fun r : ByteArray => r.extract headT.size r.size) h
  simp only [from_append _ _ _ rfl] at e0
  have e1 := congrArg (fun r : ByteArray => r.extract 0 4) e0
  simp only [up_append _ _ 4 (four_size _)] at e1
  have e2 := congrArg (fun r : ByteArray => r.extract 4 r.size) e0
  simp only [from_append _ _ 4 (four_size _)] at e2
  have e3 := congrArg (fun r : ByteArray => r.extract 0 4) e2
  simp only [up_append _ _ 4 (four_size _)] at e3
  have e4 := congrArg (fun r : ByteArray => r.extract 4 r.size) e2
  simp only [from_append _ _ 4 (four_size _)] at e4
  have e5 := congrArg (fun r : ByteArray => r.extract 0 4) e4
  simp only [up_append _ _ 4 (four_size _)] at e5
  refine ⟨?_, ?_, ?_⟩
  · rw [← numOf_four a ha, e1, numOf_four x hx]
  · rw [← numOf_four b hb, e3, numOf_four y hy]
  · rw [← numOf_four c hc, e5, numOf_four z hz]

/-- What Get tells of a text s. -/
def GetIs (s : ByteArray) (a b c : Nat) (e : Int) : Prop :=
  (e = 0 ∧ mayB (a : Int) = true ∧ mayB (b : Int) = true ∧ mayB (c : Int) = true ∧ s = putT a b c) ∨
  (e = 700 ∧ a = 0 ∧ b = 0 ∧ c = 0 ∧ ∀ x y z : Nat, mayB (x : Int) = true → mayB (y : Int) = true → mayB (z : Int) = true → s ≠ putT x y z)
theorem may_lt {a : Nat} (h : mayB (a : Int) = true) : a < 4294967296 := by
  obtain ⟨k, hk, _, h2⟩ := mayB_nat h
  omega
theorem GetIs.one {s : ByteArray} {a b c x y z : Nat} {e f : Int} (h : GetIs s a b c e) (k : GetIs s x y z f) : a = x ∧ b = y ∧ c = z ∧ e = f := by
  rcases h with ⟨rfl, h1, h2, h3, h4⟩ | ⟨rfl, rfl, rfl, rfl, h4⟩ <;> rcases k with ⟨rfl, k1, k2, k3, k4⟩ | ⟨rfl, rfl, rfl, rfl, k4⟩
  · obtain ⟨e1, e2, e3⟩ := put_inj (may_lt h1) (may_lt h2) (may_lt h3) (may_lt k1) (may_lt k2) (may_lt k3) (h4.symm.trans k4)
    exact ⟨e1, e2, e3, rfl⟩
  · exact absurd h4 (k4 _ _ _ h1 h2 h3)
  · exact absurd k4 (h4 _ _ _ k1 k2 k3)
  · exact ⟨rfl, rfl, rfl, rfl⟩

theorem tk_append (p q : ByteArray) (n : Nat) (h : p.size = n) : tkP (p ++ q) n = p ∧ tkR (p ++ q) n = q ∧ tkX (p ++ q) n = false := by
  have hn : ¬ (p ++ q).size < n := by rw [ByteArray.size_append]; omega
  refine ⟨?_, ?_, ?_⟩
  · unfold tkP; rw [if_neg hn]; exact up_append p q n h
  · unfold tkR; rw [if_neg hn]; exact from_append p q n h
  · unfold tkX; exact decide_eq_false hn
theorem tk_split {r : ByteArray} {n : Nat} (h : tkX r n = false) : r = tkP r n ++ tkR r n ∧ (tkP r n).size = n := by
  have hn : ¬ r.size < n := of_decide_eq_false h
  unfold tkP tkR
  rw [if_neg hn, if_neg hn]
  exact ⟨(both r n (by omega)).symm, by rw [ByteArray.size_extract]; omega⟩
/-- The taker's whole way through a text. -/
def tkOk (s : ByteArray) : Bool :=
  !(false || tkD s headT || tkM (tkR s 8) || tkM (tkR (tkR s 8) 4) || tkM (tkR (tkR (tkR s 8) 4) 4) || tkD (tkR (tkR (tkR (tkR s 8) 4) 4) 4) endT) && decide ((tkR (tkR (tkR (tkR (tkR s 8) 4) 4) 4) 12).size = 0)
theorem tkD_split {r h : ByteArray} (hd : tkD r h = false) : r = h ++ tkR r h.size := by
  unfold tkD at hd
  rw [Bool.or_eq_false_iff] at hd
  have h2 : tkP r h.size = h := by simpa using hd.2
  have := (tk_split hd.1).1
  rw [h2] at this
  exact this
theorem tkM_split {r : ByteArray} (hm : tkM r = false) : r = fourT (tkN r) ++ tkR r 4 ∧ mayB (tkN r : Int) = true := by
  unfold tkM at hm
  rw [Bool.or_eq_false_iff] at hm
  have h := tk_split hm.1
  refine ⟨?_, by simpa using hm.2⟩
  unfold tkN
  rw [four_numOf _ h.2]
  exact h.1
theorem tkM_append (n : Nat) (q : ByteArray) (h : mayB (n : Int) = true) : tkM (fourT n ++ q) = false ∧ tkN (fourT n ++ q) = n ∧ tkR (fourT n ++ q) 4 = q := by
  obtain ⟨h1, h2, h3⟩ := tk_append (fourT n) q 4 (four_size n)
  have e : tkN (fourT n ++ q) = n := by unfold tkN; rw [h1, numOf_four _ (may_lt h)]
  refine ⟨?_, e, h2⟩
  unfold tkM
  rw [h3, e, h]
  rfl
theorem tkD_append (p q : ByteArray) (n : Nat) (h : p.size = n) : tkD (p ++ q) p = false ∧ tkR (p ++ q) n = q := by
  subst h
  obtain ⟨h1, h2, h3⟩ := tk_append p q p.size rfl
  refine ⟨?_, h2⟩
  unfold tkD
  rw [h3, h1]
  simp
theorem get_yes {s : ByteArray} (h : tkOk s = true) : GetIs s (tkN (tkR s 8)) (tkN (tkR (tkR s 8) 4)) (tkN (tkR (tkR (tkR s 8) 4) 4)) 0 := by
  unfold tkOk at h
  simp only [Bool.and_eq_true, Bool.not_eq_true', Bool.or_eq_false_iff, decide_eq_true_eq] at h
  obtain ⟨⟨⟨⟨⟨⟨-, h1⟩, h2⟩, h3⟩, h4⟩, h5⟩, h6⟩ := h
  have s1 : s = headT ++ tkR s 8 := tkD_split h1
  obtain ⟨s2, m2⟩ := tkM_split h2
  obtain ⟨s3, m3⟩ := tkM_split h3
  obtain ⟨s4, m4⟩ := tkM_split h4
  have s5 : tkR (tkR (tkR (tkR s 8) 4) 4) 4 = endT ++ tkR (tkR (tkR (tkR (tkR s 8) 4) 4) 4) 12 := tkD_split h5
  rw [size_zero h6, append_none] at s5
  refine Or.inl ⟨rfl, m2, m3, m4, ?_⟩
  rw [putT_parts, ← s5, ← s4, ← s3, ← s2]
  exact s1
theorem get_no {s : ByteArray} (h : tkOk s = false) : GetIs s 0 0 0 700 := by
  refine Or.inr ⟨rfl, rfl, rfl, rfl, fun x y z hx hy hz e => ?_⟩
  rw [putT_parts] at e
  have d1 := tkD_append headT (fourT x ++ (fourT y ++ (fourT z ++ endT))) 8 rfl
  rw [← e] at d1
  have d2 := tkM_append x (fourT y ++ (fourT z ++ endT)) hx
  rw [← d1.2] at d2
  have d3 := tkM_append y (fourT z ++ endT) hy
  rw [← d2.2.2] at d3
  have d4 := tkM_append z endT hz
  rw [← d3.2.2] at d4
  have d5 := tkD_append endT ByteArray.empty 12 rfl
  rw [append_none] at d5
  unfold tkOk at h
  rw [d1.1, d2.1, d3.1, d4.1, d4.2.2, d5.1, d5.2] at h
  cases h
end Go.Proofs.Ytgibpmjgcjcghaa
