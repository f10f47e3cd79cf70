/-
  Find of package line and the document's own FindLine, by contracts for every cache that came in; the document's CacheMay for lists of any length. Condition: the lists are no longer than a list that is read may be.
-/
import Derived.Test.YtbcdfobclliboaaRefMay
namespace Go.Proofs.Ytbcdfobclliboaa
open Go.RowKit Plain
set_option linter.unusedVariables false

theorem may_short {A : List Int} {T : List ByteArray} {x : Int} (h : ¬ (A.length = 2 ∧ T.length = 2 ∧ 0 ≤ x ∧ x < 2)) : mayB A T x = false := by
  rw [Bool.eq_false_iff]
  intro hm
  have := may_lens hm
  exact h ⟨this.1, this.2.1, this.2.2.1, this.2.2.2.1⟩

set_option maxRecDepth 100000 in
set_option maxHeartbeats 1000000 in
theorem refMay_any (c : Value) (A : List Int) (T : List ByteArray) (x : Int) (w : World) (h : CR w c A T x) (hf : Fit A T) :
    Calls Try.prog 16 #[c] w fun e w' => e = .returned (.bool (mayB A T x)) ∧ Below w.heap.size w w' := by
  by_cases hl : A.length = 2 ∧ T.length = 2 ∧ 0 ≤ x ∧ x < 2
  · exact refMay_two c A T x w h hl.1 hl.2.1 hl.2.2.1 hl.2.2.2 hf.each
  · have HNo : Hid (mayB A T x = false) := may_short hl
    obtain ⟨a, t, rfl, ⟨q1, p1, rfl, -⟩, ⟨q2, p2, rfl, -⟩⟩ := h
    have hf1 := hf.at'
    have hf2 := hf.text
    rw [List.length_map, List.length_map]
    generalize hn : A.length = n at hl hf1 ⊢
    generalize hm : T.length = m at hl hf2 ⊢
    clear hn hm hf
    unfold cV
    by_cases h1 : n = 2
    · subst h1
      by_cases h2 : m = 2
      · subst h2
        by_cases h3 : x < 0
        · clear hl
          go_enter Try.func16, Try.ntmps16
          go_wp2_with fail
          go_ret
          exact ⟨ret_bool HNo.out.symm, below_new _ _⟩
        · have h4 : 2 ≤ x := by omega
          have h5 : 0 ≤ x := by omega
          clear hl h3
          go_enter Try.func16, Try.ntmps16
          go_wp2_with fail
          go_ret
          exact ⟨ret_bool HNo.out.symm, below_new _ _⟩
      · have e1 : ((m : Int) != 2) = true := by simpa using (by omega : ¬ (m : Int) = 2)
        clear hl
        go_enter Try.func16, Try.ntmps16
        go_wp2_with fail
        go_ret
        exact ⟨ret_bool HNo.out.symm, below_new _ _⟩
    · have e1 : ((n : Int) != 2) = true := by simpa using (by omega : ¬ (n : Int) = 2)
      clear hl
      go_enter Try.func16, Try.ntmps16
      go_wp2_with fail
      go_ret
      exact ⟨ret_bool HNo.out.symm, below_new _ _⟩

theorem ixI_hit {L : List Int} {x : Int} (h : 0 ≤ ixI L x) : ∃ k : Nat, k < L.length ∧ ixI L x = (k : Int) ∧ L.getD k 0 = x ∧ ∀ j, j < k → L.getD j 0 ≠ x := by
  induction L with
  | nil => exact absurd h (by rw [ixI_nil]; decide)
  | cons a M ih =>
    unfold ixI at h ⊢
    by_cases e : a = x
    · rw [if_pos e]
      exact ⟨0, by simp, rfl, by simpa using e, fun j hj => by omega⟩
    · rw [if_neg e] at h ⊢
      by_cases n : ixI M x < 0
      · rw [if_pos n] at h; omega
      · obtain ⟨k, h1, h2, h3, h4⟩ := ih (by omega)
        rw [if_neg n, h2]
        refine ⟨k + 1, by simp; omega, by omega, by simpa using h3, fun j hj => ?_⟩
        match j with
        | 0 => simpa using e
        | j + 1 => simpa using h4 j (by omega)
/-- Where the line lies that has a place; -1: nowhere. -/
def fkI (A : List Int) (a : Int) : Int := ixI A (a - a % 16)
/-- Has a line that place, and which byte lies there? -/
def fB (A : List Int) (T : List ByteArray) (x a : Int) : Bool := mayB A T x && (decide (0 ≤ a) && decide (0 ≤ fkI A a))
def fV (A : List Int) (T : List ByteArray) (x a : Int) : Int := if fB A T x a = true then ((ub (T.getD (fkI A a).toNat ByteArray.empty) (a % 16).toNat).toNat : Int) else 0
theorem fV_no {A : List Int} {T : List ByteArray} {x a : Int} (h : fB A T x a = false) : fV A T x a = 0 := by
  unfold fV; rw [h]; rfl
theorem li_cases {A : List Int} {T : List ByteArray} {k : Nat} (h : liB A T k = true) : (A.getD k 0 = -1 ∧ T.getD k ByteArray.empty = ByteArray.empty) ∨ (0 ≤ A.getD k 0 ∧ A.getD k 0 < 4096 ∧ A.getD k 0 % 16 = 0 ∧ (T.getD k ByteArray.empty).size = 16 ∧ A.getD k 0 ∉ A.take k) := by
  unfold liB at h
  generalize A.getD k 0 = a at h ⊢
  generalize T.getD k ByteArray.empty = t at h ⊢
  generalize A.take k = P at h ⊢
  unfold emB whB atB at h
  simp at h
  rcases h with h | h
  · exact .inl h
  · exact .inr ⟨h.1.1.1, h.1.1.2.1, by omega, h.1.2, h.2⟩
/-- What is known where a line has the place. -/
theorem fB_hit {A : List Int} {T : List ByteArray} {x a : Int} (h : fB A T x a = true) : mayB A T x = true ∧ 0 ≤ a ∧ ∃ k : Nat, k < 2 ∧ fkI A a = (k : Int) ∧ A.getD k 0 = a - a % 16 ∧ (T.getD k ByteArray.empty).size = 16 ∧ a < 4096 ∧
    fV A T x a = ((ub (T.getD k ByteArray.empty) (a % 16).toNat).toNat : Int) ∧ ∀ j, j < k → A.getD j 0 ≠ a - a % 16 := by
  have h0 := h
  unfold fB at h
  simp at h
  obtain ⟨hm, ha, hk⟩ := h
  obtain ⟨k, h1, h2, h3, h4⟩ := ixI_hit hk
  obtain ⟨hA, hT, -, -, l0, l1⟩ := may_lens hm
  have hl : liB A T k = true := by
    rcases (show k = 0 ∨ k = 1 by omega) with rfl | rfl
    · exact l0
    · exact l1
  refine ⟨hm, ha, k, by omega, h2, h3, ?_⟩
  rcases li_cases hl with ⟨h5, -⟩ | ⟨-, h5, -, h6, -⟩
  · omega
  · refine ⟨h6, by omega, ?_, h4⟩
    unfold fV fkI
    rw [h0, if_pos rfl, h2, Int.toNat_natCast]

/-- What 'own' answers of a cache that may be: the slices written out. -/
theorem own_yes (c : Value) (A : List Int) (T : List ByteArray) (x : Int) (w : World) (h : CR w c A T x) (hf : Fit A T) (hm : mayB A T x = true) :
    Calls Try.prog 22 #[c] w fun e w' => ∃ ga oa c1 gb ob c2, e = .returned (.tuple #[.agg #[.slice (some ⟨ga, oa, none⟩) 2 c1, .slice (some ⟨gb, ob, none⟩) 2 c2, .int .i64 x], .bool true]) ∧ Hid (Below w.heap.size w w') ∧
      Hid (CO w.heap.size w' (.agg #[.slice (some ⟨ga, oa, none⟩) 2 c1, .slice (some ⟨gb, ob, none⟩) 2 c2, .int .i64 x]) A T x) ∧
      Hid (∀ j, j < 2 → w'.cell? ⟨ga, oa + j, none⟩ = some (.int .i64 (A.getD j 0))) ∧ Hid (∀ j, j < 2 → w'.cell? ⟨gb, ob + j, none⟩ = some (.string (T.getD j ByteArray.empty))) := by
  refine (own_any c A T x w h hf).mono ?_
  rintro e w' ⟨hb, ⟨hm, c', rfl, hC⟩ | ⟨hm', rfl⟩⟩
  · obtain ⟨ga, oa, c1, gb, ob, c2, rfl, h1, h2⟩ := hC.reads.two (may_lens hm).1 (may_lens hm).2.1
    exact ⟨ga, oa, c1, gb, ob, c2, rfl, hb, hC, h1, h2⟩
  · rw [hm] at hm'; cases hm'
theorem own_no (c : Value) (A : List Int) (T : List ByteArray) (x : Int) (w : World) (h : CR w c A T x) (hf : Fit A T) (hm : mayB A T x = false) :
    Calls Try.prog 22 #[c] w fun e w' => e = .returned (.tuple #[.agg #[.slice none 0 0, .slice none 0 0, .int .i64 0], .bool false]) ∧ Hid (Below w.heap.size w w') := by
  refine (own_any c A T x w h hf).mono ?_
  rintro e w' ⟨hb, ⟨hm', c', rfl, hC⟩ | ⟨hm', rfl⟩⟩
  · rw [hm] at hm'; cases hm'
  · exact ⟨rfl, hb⟩

/-- The first steps of a call that gets a cache: the cache boxed, read again. -/
theorem CR.boxed {w : World} {A : List Int} {T : List ByteArray} {x : Int} {c : Value} (h : CR w c A T x) : ∃ q1 n1 p1 q2 n2 p2, c = .agg #[.slice q1 n1 p1, .slice q2 n2 p2, .int .i64 x] ∧ n1 = A.length ∧ n2 = T.length ∧
    Hid (CR (w.alloc (.cells #[.slice q1 n1 p1, .slice q2 n2 p2, .int .i64 x] 25)) (.agg #[.slice q1 n1 p1, .slice q2 n2 p2, .int .i64 x]) A T x) := by
  obtain ⟨a, t, rfl, hA, hT⟩ := h
  obtain ⟨q1, p1, rfl, -⟩ := id hA
  obtain ⟨q2, p2, rfl, -⟩ := id hT
  exact ⟨q1, _, p1, q2, _, p2, rfl, List.length_map _, List.length_map _, ⟨_, _, rfl, hA.below (below_new _ _), hT.below (below_new _ _)⟩⟩

set_option maxRecDepth 100000 in
set_option maxHeartbeats 2000000 in
theorem find_any (c : Value) (A : List Int) (T : List ByteArray) (x a : Int) (w : World) (h : CR w c A T x) (hf : Fit A T) (ha : -9223372036854775808 ≤ a ∧ a < 9223372036854775808) :
    Calls Try.prog 11 #[c, .int .i64 a] w fun e w' => e = .returned (.tuple #[.int .i64 (fV A T x a), .bool (fB A T x a)]) ∧ Below w.heap.size w w' := by
  obtain ⟨q1, n1, p1, q2, n2, p2, rfl, h1, h2, HC⟩ := h.boxed
  have HF : Hid (Fit A T) := hf
  have HB : Hid (Below w.heap.size w (w.alloc (.cells #[.slice q1 n1 p1, .slice q2 n2 p2, .int .i64 x] 25))) := below_new _ _
  clear h hf h1 h2
  obtain ⟨V, hV⟩ : ∃ V, V = fV A T x a := ⟨_, rfl⟩
  obtain ⟨B, hB⟩ : ∃ B, B = fB A T x a := ⟨_, rfl⟩
  rw [← hV, ← hB]
  have HV : Hid (V = fV A T x a) := hV
  have HBB : Hid (B = fB A T x a) := hB
  clear hV hB
  cases hm : mayB A T x with
  | false =>
    obtain ⟨rfl, rfl⟩ : B = false ∧ V = 0 := by
      have : fB A T x a = false := by unfold fB; rw [hm]; rfl
      exact ⟨by rw [HBB.out, this], by rw [HV.out, fV_no this]⟩
    go_enter Try.func11, Try.ntmps11
    go_wp2_with fail
    refine (own_no _ A T x _ HC.out HF.out hm).mono ?_
    rintro e w1 ⟨rfl, hb⟩
    have HB2 : Hid (Below w.heap.size w w1) := below_then HB.out hb.out
    clear HC HB hb
    go_wp2_with fail
    go_ret2
    exact ⟨rfl, below_then HB2.out (below_new _ _)⟩
  | true =>
    have HM : Hid (mayB A T x = true) := hm
    by_cases h0 : a < 0
    · obtain ⟨rfl, rfl⟩ : B = false ∧ V = 0 := by
        have : fB A T x a = false := by unfold fB; rw [decide_eq_false (show ¬ 0 ≤ a by omega)]; simp
        exact ⟨by rw [HBB.out, this], by rw [HV.out, fV_no this]⟩
      go_enter Try.func11, Try.ntmps11
      go_wp2_with fail
      refine (own_yes _ A T x _ HC.out HF.out hm).mono ?_
      rintro e w1 ⟨ga, oa, c1, gb, ob, c2, rfl, hb, hC, h1, h2⟩
      have HB2 : Hid (Below w.heap.size w w1) := below_then HB.out hb.out
      clear HC HB hb hC h1 h2 hm
      go_wp2_with fail
      go_ret2
      exact ⟨rfl, below_then HB2.out (below_new _ _)⟩
    · obtain ⟨b, hb⟩ : ∃ b : Nat, a % 16 = (b : Int) := ⟨(a % 16).toNat, by omega⟩
      have hb16 : b < 16 := by omega
      have hnn : 0 ≤ a := by omega
      obtain ⟨i, hi⟩ : ∃ i, i = fkI A a := ⟨_, rfl⟩
      have HI : Hid (ixI A (a - b) = i) := by rw [Hid, hi, ← hb]; rfl
      have hw1 : wrap64 (a - b) = a - b := IntWalk.wrap64_in _ (by omega)
      cases hB : fB A T x a with
      | false =>
        have hneg : i < 0 := by
          rw [hi]
          unfold fB at hB
          rw [hm, decide_eq_true hnn] at hB
          simpa using hB
        obtain ⟨rfl, rfl⟩ : B = false ∧ V = 0 := ⟨by rw [HBB.out, hB], by rw [HV.out, fV_no hB]⟩
        clear hi hB
        go_enter Try.func11, Try.ntmps11
        go_wp2_with fail
        refine (own_yes _ A T x _ HC.out HF.out hm).mono ?_
        rintro e w1 ⟨ga, oa, c1, gb, ob, c2, rfl, hb1, hC, h1, h2⟩
        have HB2 : Hid (Below w.heap.size w w1) := below_then HB.out hb1.out
        have HR : Hid (RV (w1.alloc (.cells #[.slice (some ⟨ga, oa, none⟩) 2 c1, .slice (some ⟨gb, ob, none⟩) 2 c2, .int .i64 x] 25)) (.slice (some ⟨ga, oa, none⟩) 2 c1) (ints A)) := by
          obtain ⟨u, v, e, hu, -⟩ := hC.out
          have e' : Value.slice (some ⟨ga, oa, none⟩) 2 c1 = u := by
            unfold cV at e
            simp at e
            exact e.1
          rw [e']
          exact hu.reads.below (below_new _ _)
        clear HC HB hb1 hC h1 h2 hm
        go_wp2_with fail
        refine (index_any _ A _ _ HR.out HF.out.at').mono ?_
        rintro e w2 ⟨rfl, rfl⟩
        rw [HI.out]
        go_wp2_with fail
        go_ret2
        exact ⟨rfl, below_then HB2.out (below_new _ _)⟩
      | true =>
        obtain ⟨-, -, k, hk, hik, hak, h16, hlt, hfv, -⟩ := fB_hit hB
        obtain ⟨t, ht⟩ : ∃ t, t = T.getD k ByteArray.empty := ⟨_, rfl⟩
        have HT : Hid (t = T.getD k ByteArray.empty) := ht
        rw [← ht] at h16 hfv
        rw [hb, Int.toNat_natCast] at hfv
        rw [hik] at hi
        subst hi
        obtain ⟨rfl, rfl⟩ : B = true ∧ V = ((ub t b).toNat : Int) := ⟨by rw [HBB.out, hB], by rw [HV.out, hfv]⟩
        have hbt : b < t.size := by omega
        have hget := get_ub t
        have hwu : wrap64 ((ub t b).toNat : Int) = ((ub t b).toNat : Int) := IntWalk.wrap64_in _ (by have := (ub t b).toNat_lt; omega)
        have hk0 : (0 : Int) ≤ k := by omega
        have hk2 : (k : Int) < 2 := by omega
        clear hB hak hfv hik ht
        go_enter Try.func11, Try.ntmps11
        go_wp2_with fail
        refine (own_yes _ A T x _ HC.out HF.out hm).mono ?_
        rintro e w1 ⟨ga, oa, c1, gb, ob, c2, rfl, hb1, hC, h1, h2⟩
        have HB2 : Hid (Below w.heap.size w w1) := below_then HB.out hb1.out
        have HR : Hid (RV (w1.alloc (.cells #[.slice (some ⟨ga, oa, none⟩) 2 c1, .slice (some ⟨gb, ob, none⟩) 2 c2, .int .i64 x] 25)) (.slice (some ⟨ga, oa, none⟩) 2 c1) (ints A)) := by
          obtain ⟨u, v, e, hu, -⟩ := hC.out
          have e' : Value.slice (some ⟨ga, oa, none⟩) 2 c1 = u := by
            unfold cV at e
            simp at e
            exact e.1
          rw [e']
          exact hu.reads.below (below_new _ _)
        have ct : (w1.alloc (.cells #[.slice (some ⟨ga, oa, none⟩) 2 c1, .slice (some ⟨gb, ob, none⟩) 2 c2, .int .i64 x] 25)).cell? ⟨gb, ob + k, none⟩ = some (.string t) := by
          rw [HT.out, ← h2.out k hk]
          exact (below_new w1 _).cell (by exact cell_lt (h2.out k hk))
        clear HC HB hb1 hC h1 h2 hm
        go_wp2_with fail
        refine (index_any _ A _ _ HR.out HF.out.at').mono ?_
        rintro e w2 ⟨rfl, rfl⟩
        rw [HI.out]
        go_wp2_with fail
        go_ret2
        refine ⟨?_, below_then HB2.out (below_new _ _)⟩
        show Ending.returned (.tuple #[.int .i64 (wrap64 ((ub t b).toNat : Int)), .bool true]) = _
        rw [hwu]

theorem fB_at {A : List Int} {T : List ByteArray} {x a : Int} {k : Nat} (hm : mayB A T x = true) (h0 : 0 ≤ a) (hk : k < 2) (he : A.getD k 0 = a - a % 16) (hn : ∀ j, j < k → A.getD j 0 ≠ a - a % 16) :
    fB A T x a = true ∧ fV A T x a = ((ub (T.getD k ByteArray.empty) (a % 16).toNat).toNat : Int) := by
  have hl := (may_lens hm).1
  have e : fkI A a = (k : Int) := ixI_at k (by omega) he hn
  have hB : fB A T x a = true := by
    unfold fB
    rw [hm, e, decide_eq_true h0, decide_eq_true (show (0 : Int) ≤ (k : Int) by omega)]
    rfl
  refine ⟨hB, ?_⟩
  unfold fV
  rw [if_pos hB, e, Int.toNat_natCast]
theorem fB_miss {A : List Int} {T : List ByteArray} {x a : Int} (hA : A.length = 2) (h : ∀ j, j < 2 → A.getD j 0 ≠ a - a % 16 ∨ a < 0) : fB A T x a = false := by
  unfold fB
  by_cases h0 : a < 0
  · rw [decide_eq_false (show ¬ 0 ≤ a by omega)]; simp
  · have e : fkI A a = -1 := ixI_no fun j hj => by
      rcases h j (by omega) with h1 | h1
      · exact h1
      · omega
    rw [e, decide_eq_false (show ¬ (0 : Int) ≤ -1 by decide)]; simp
theorem byte_at (t : ByteArray) (b : Nat) (hb : b < t.size) : ∃ x : Int, x = ((ub t b).toNat : Int) ∧ 0 ≤ x ∧ x < 256 ∧ ∀ w : World, (Instr.index 9 (.string t) (.int .i64 (b : Int))).run Try.prog w = .ok (.int .u8 x) w := by
  refine ⟨_, rfl, by omega, by have := (ub t b).toNat_lt; omega, fun w => ?_⟩
  have hg := get_ub t b hb
  simp [Instr.index, run_underlying Try.underlying9, asIntOf, go_sem, hb, hg]

set_option maxRecDepth 100000 in
set_option maxHeartbeats 4000000 in
theorem refFind_any (c : Value) (A : List Int) (T : List ByteArray) (x a : Int) (w : World) (h : CR w c A T x) (hf : Fit A T) (ha : -9223372036854775808 ≤ a ∧ a < 9223372036854775808) :
    Calls Try.prog 12 #[c, .int .i64 a] w fun e w' => e = .returned (.tuple #[.int .i64 (fV A T x a), .bool (fB A T x a)]) ∧ Below w.heap.size w w' := by
  have HF : Hid (Fit A T) := hf
  cases hm : mayB A T x with
  | false =>
    obtain ⟨q1, n1, p1, q2, n2, p2, rfl, h1, h2, HC⟩ := h.boxed
    have HB : Hid (Below w.heap.size w (w.alloc (.cells #[.slice q1 n1 p1, .slice q2 n2 p2, .int .i64 x] 25))) := below_new _ _
    have hB : fB A T x a = false := by unfold fB; rw [hm]; rfl
    rw [hB, fV_no hB]
    clear h hf h1 h2 hB
    go_enter Try.func12, Try.ntmps12
    go_wp2_with fail
    refine (refMay_any _ A T x _ HC.out HF.out).mono ?_
    rintro e w1 ⟨rfl, hb⟩
    rw [hm]
    have HB2 : Hid (Below w.heap.size w w1) := below_then HB.out hb
    clear HC HB hb
    go_wp2_with fail
    go_ret2
    exact ⟨rfl, HB2.out⟩
  | true =>
    obtain ⟨hA2, hT2, h0, h1, l0, l1⟩ := may_lens hm
    obtain ⟨ga, oa, c1, gb, ob, c2, rfl, hca, hcb⟩ := h.two hA2 hT2
    have HX : Hid (Bx (w.alloc (.cells #[.slice (some ⟨ga, oa, none⟩) 2 c1, .slice (some ⟨gb, ob, none⟩) 2 c2, .int .i64 x] 25)) w.heap.size ga oa c1 gb ob c2 A T x) :=
      ⟨Blk.new _ _ _ _ rfl, fun j hj => ((below_new w _).cell (by exact cell_lt (hca j hj))).trans (hca j hj), fun j hj => ((below_new w _).cell (by exact cell_lt (hcb j hj))).trans (hcb j hj)⟩
    have HC : Hid (CR (w.alloc (.cells #[.slice (some ⟨ga, oa, none⟩) 2 c1, .slice (some ⟨gb, ob, none⟩) 2 c2, .int .i64 x] 25)) (.agg #[.slice (some ⟨ga, oa, none⟩) 2 c1, .slice (some ⟨gb, ob, none⟩) 2 c2, .int .i64 x]) A T x) := by
      obtain ⟨u, v, e, hu, hv⟩ := h
      exact ⟨u, v, e, hu.below (below_new _ _), hv.below (below_new _ _)⟩
    have HB : Hid (Below w.heap.size w (w.alloc (.cells #[.slice (some ⟨ga, oa, none⟩) 2 c1, .slice (some ⟨gb, ob, none⟩) 2 c2, .int .i64 x] 25))) := below_new _ _
    have HM : Hid (mayB A T x = true) := hm
    have HA2 : Hid (A.length = 2) := hA2
    have HL : Hid (∀ k, k < 2 → liB A T k = true) := fun k hk => by
      rcases (show k = 0 ∨ k = 1 by omega) with rfl | rfl
      · exact l0
      · exact l1
    obtain ⟨V, hV⟩ : ∃ V, V = fV A T x a := ⟨_, rfl⟩
    obtain ⟨B, hB⟩ : ∃ B, B = fB A T x a := ⟨_, rfl⟩
    rw [← hV, ← hB]
    have HV : Hid (V = fV A T x a) := hV
    have HBB : Hid (B = fB A T x a) := hB
    clear h hf hA2 hT2 h0 h1 l0 l1 hca hcb hV hB
    go_enter Try.func12, Try.ntmps12
    go_wp2_with fail
    refine (refMay_any _ A T x _ HC.out HF.out).mono ?_
    rintro e w1 ⟨rfl, hb⟩
    rw [hm]
    have HB2 : Hid (Below w.heap.size w w1) := below_then HB.out hb
    have HX2 : Hid (Bx w1 w.heap.size ga oa c1 gb ob c2 A T x) := HX.out.below hb
    clear HC HB hb HX hm
    go_wp2_with fail
    go_loopw [6] (fun i wr => ∃ k : Nat, k ≤ 2 ∧ i = .int .i64 k ∧ Hid (Below w1.heap.size w1 wr) ∧ Hid (∀ j, j < k → A.getD j 0 ≠ a - a % 16 ∨ a < 0)) (fun i _ => 2 - (intOf i).toNat)
    case atStart => exact ⟨0, by omega, rfl, Below.refl _ _, fun j hj => by omega⟩
    case round =>
      obtain ⟨k, hk, rfl, HW, HN⟩ := hrel
      by_cases hlt : k < 2
      · obtain ⟨y, hy⟩ : ∃ y, y = A.getD k 0 := ⟨_, rfl⟩
        obtain ⟨t, ht⟩ : ∃ t, t = T.getD k ByteArray.empty := ⟨_, rfl⟩
        have HY : Hid (y = A.getD k 0) := hy
        have HT : Hid (t = T.getD k ByteArray.empty) := ht
        have X1 := HX2.out.below HW.out
        have ca : wr.cell? ⟨ga, oa + k, none⟩ = some (.int .i64 y) := by rw [hy]; exact X1.ats k hlt
        have ct : wr.cell? ⟨gb, ob + k, none⟩ = some (.string t) := by rw [ht]; exact X1.texts k hlt
        have cb0 := X1.box.cell 0 rfl
        have cb1 := X1.box.cell 1 rfl
        have hk0 : (0 : Int) ≤ k := by omega
        have hk2 : (k : Int) < 2 := by omega
        have hli := li_cases (HL.out k hlt)
        rw [← hy, ← ht] at hli
        have hy2 : -1 ≤ y ∧ y < 4096 := by
          rcases hli with h | h
          · omega
          · omega
        have hw16 : wrap64 (y + 16) = y + 16 := IntWalk.wrap64_in _ (by omega)
        clear hy ht X1
        by_cases hit : 0 ≤ y ∧ y ≤ a ∧ a < y + 16
        · obtain ⟨i1, i2, i3⟩ := hit
          obtain ⟨b, hb⟩ : ∃ b : Nat, a - y = (b : Int) := ⟨(a - y).toNat, by omega⟩
          have h16 : t.size = 16 ∧ y % 16 = 0 := by
            rcases hli with h | h
            · omega
            · exact ⟨h.2.2.2.1, h.2.2.1⟩
          have hnn : 0 ≤ a := by omega
          obtain ⟨g1, g2⟩ := fB_at (T := T) HM.out hnn hlt (by rw [← HY.out]; omega) (fun j hj => by
            rcases HN.out j hj with h | h
            · exact h
            · omega)
          have hab : (a % 16).toNat = b := by omega
          rw [← HT.out, hab] at g2
          have hbt : b < t.size := by omega
          obtain ⟨z, hz, z0, z1, hix⟩ := byte_at t b hbt
          obtain ⟨rfl, rfl⟩ : B = true ∧ V = z := ⟨by rw [HBB.out, g1], by rw [HV.out, g2, hz]⟩
          have w1 : wrap64 (a - y) = (b : Int) := by rw [hb]; exact IntWalk.wrap64_in _ (by omega)
          have w2 : IntKind.i64.wrap (a - y) = (b : Int) := by rw [IntKind.wrap_i64]; omega
          have w3 : wrap64 V = V := IntWalk.wrap64_in _ (by omega)
          have w4 : IntKind.i64.wrap V = V := by rw [IntKind.wrap_i64]; omega
          have w5 : IntKind.i64.wrap (y + 16) = y + 16 := by rw [IntKind.wrap_i64]; omega
          clear g1 g2 h16 hli hb hz
          as_aux_lemma =>
            go_wp2_with fail
            go_quiet (fail)
            all_goals go_wp2_with fail
            all_goals go_ret2
            all_goals exact ⟨rfl, below_then HB2.out (below_drewN HW.out _)⟩
        · have HK : Hid (A.getD k 0 ≠ a - a % 16 ∨ a < 0) := by
            rw [Hid, ← HY.out]
            omega
          have HR : Hid (∀ j, j < k + 1 → A.getD j 0 ≠ a - a % 16 ∨ a < 0) := fun j hj => by
            rcases Nat.lt_or_eq_of_le (Nat.le_of_lt_succ hj) with h | rfl
            · exact HN.out j h
            · exact HK.out
          clear HK HN
          by_cases c1 : y < 0
          · clear hit hli
            as_aux_lemma =>
              go_wp2_with fail
              go_roundw
              case rel => exact ⟨k + 1, by omega, by go_num, HW, HR⟩
              case measure => simp [intOf]; omega
          · by_cases c2 : a < y
            · clear hit hli
              as_aux_lemma =>
                go_wp2_with fail
                go_roundw
                case rel => exact ⟨k + 1, by omega, by go_num, HW, HR⟩
                case measure => simp [intOf]; omega
            · have c3 : ¬ a < y + 16 := by omega
              clear hit hli
              as_aux_lemma =>
                go_wp2_with fail
                go_roundw
                case rel => exact ⟨k + 1, by omega, by go_num, HW, HR⟩
                case measure => simp [intOf]; omega
      · obtain ⟨rfl, rfl⟩ : B = false ∧ V = 0 := by
          have : fB A T x a = false := fB_miss HA2.out fun j hj => HN.out j (by omega)
          exact ⟨by rw [HBB.out, this], by rw [HV.out, fV_no this]⟩
        as_aux_lemma =>
          go_wp2_with fail
          go_ret2
          exact ⟨rfl, below_then HB2.out HW.out⟩
end Go.Proofs.Ytbcdfobclliboaa
