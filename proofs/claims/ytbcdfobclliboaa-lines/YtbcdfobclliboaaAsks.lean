/-
  'own', May and Find of package line, by contracts for every cache that came in. Condition: its lists are no longer than a list that is read may be.
-/
import Derived.Test.YtbcdfobclliboaaOwn
namespace Go.Proofs.Ytbcdfobclliboaa
open Go.RowKit Plain
set_option linter.unusedVariables false

/-- No longer than what is read may be. -/
structure Fit (A : List Int) (T : List ByteArray) : Prop where
  at' : A.length * 8 ≤ 140737488351232
  text : T.length * 16 ≤ 140737488351232
  each : ∀ t ∈ T, t.size ≤ maxLen

set_option maxRecDepth 100000 in
set_option maxHeartbeats 1000000 in
theorem own_any (c : Value) (A : List Int) (T : List ByteArray) (x : Int) (w : World) (h : CR w c A T x) (hf : Fit A T) :
    Calls Try.prog 22 #[c] w (OwnE w A T x) := by
  obtain ⟨a, t, rfl, hA, hT⟩ := h
  by_cases hl : A.length = 2 ∧ T.length = 2 ∧ 0 ≤ x ∧ x < 2
  · obtain ⟨hA2, hT2, h0, h2⟩ := hl
    have hA' := hA
    have hT' := hT
    obtain ⟨q1, p1, rfl, -⟩ := hA
    obtain ⟨q2, p2, rfl, -⟩ := hT
    rw [List.length_map, hA2] at hA' ⊢
    rw [List.length_map, hT2] at hT' ⊢
    exact own_two _ _ _ _ A T x w hA' hA2 hT' hT2 h0 h2 hf.each
  · have HNo : Hid (mayB A T x = false) := by
      rw [Hid, Bool.eq_false_iff]
      intro hm
      unfold mayB at hm
      simp at hm
      exact hl ⟨hm.1.1.1.1.1, hm.1.1.1.1.2, hm.1.1.1.2, hm.1.1.2⟩
    obtain ⟨q1, p1, rfl, -⟩ := hA
    obtain ⟨q2, p2, rfl, -⟩ := hT
    have hf1 := hf.at'
    have hf2 := hf.text
    rw [List.length_map, List.length_map]
    generalize hn : A.length = n at hl hf1 ⊢
    generalize hm : T.length = m at hl hf2 ⊢
    clear hn hm hf
    have B1 : Below w.heap.size w ((w.alloc (.cells #[.slice q1 n p1, .slice q2 m p2, .int .i64 x] 25)).alloc (.cells #[.slice none 0 0, .slice none 0 0, .int .i64 0] 25)) := below_then (below_new _ _) (below_new _ _)
    unfold cV
    by_cases h1 : n = 2
    · subst h1
      by_cases h2 : m = 2
      · subst h2
        by_cases h3 : x < 0
        · clear hl
          go_enter Try.func22, Try.ntmps22
          go_wp2_with fail
          refine bodyPost_ret (v := .tuple #[cV (.slice none 0 0) (.slice none 0 0) 0, .bool false]) (by simp [cV, results, Try.results22, go_sem]) rfl ⟨B1, .inr ⟨HNo.out, rfl⟩⟩
        · have h4 : 2 ≤ x := by omega
          have h5 : 0 ≤ x := by omega
          clear hl h3
          go_enter Try.func22, Try.ntmps22
          go_wp2_with fail
          refine bodyPost_ret (v := .tuple #[cV (.slice none 0 0) (.slice none 0 0) 0, .bool false]) (by simp [cV, results, Try.results22, go_sem]) rfl ⟨B1, .inr ⟨HNo.out, rfl⟩⟩
      · have e1 : ((m : Int) != 2) = true := by simpa using (by omega : ¬ (m : Int) = 2)
        clear hl
        go_enter Try.func22, Try.ntmps22
        go_wp2_with fail
        refine bodyPost_ret (v := .tuple #[cV (.slice none 0 0) (.slice none 0 0) 0, .bool false]) (by simp [cV, results, Try.results22, go_sem]) rfl ⟨B1, .inr ⟨HNo.out, rfl⟩⟩
    · have e1 : ((n : Int) != 2) = true := by simpa using (by omega : ¬ (n : Int) = 2)
      clear hl
      go_enter Try.func22, Try.ntmps22
      go_wp2_with fail
      refine bodyPost_ret (v := .tuple #[cV (.slice none 0 0) (.slice none 0 0) 0, .bool false]) (by simp [cV, results, Try.results22, go_sem]) rfl ⟨B1, .inr ⟨HNo.out, rfl⟩⟩

/-- .. in words that a walk can go on with: the slices written out. -/
theorem own_told (c : Value) (A : List Int) (T : List ByteArray) (x : Int) (w : World) (h : CR w c A T x) (hf : Fit A T) :
    Calls Try.prog 22 #[c] w fun e w' => ∃ q1 n1 p1 q2 n2 p2 y, e = .returned (.tuple #[.agg #[.slice q1 n1 p1, .slice q2 n2 p2, .int .i64 y], .bool (mayB A T x)]) ∧ Hid (Below w.heap.size w w') ∧
      Hid (mayB A T x = true → CO w.heap.size w' (.agg #[.slice q1 n1 p1, .slice q2 n2 p2, .int .i64 y]) A T x) := by
  refine (own_any c A T x w h hf).mono ?_
  rintro e w' ⟨hb, ⟨hm, c', rfl, hC⟩ | ⟨hm, rfl⟩⟩
  · have hC' := hC
    obtain ⟨a, t, rfl, hA, hT⟩ := hC
    obtain ⟨q1, p1, rfl⟩ := hA.form
    obtain ⟨q2, p2, rfl⟩ := hT.form
    exact ⟨q1, _, p1, q2, _, p2, x, by rw [hm]; rfl, hb, fun _ => hC'⟩
  · exact ⟨none, 0, 0, none, 0, 0, 0, by rw [hm]; rfl, hb, fun h => by rw [hm] at h; cases h⟩

set_option maxRecDepth 100000 in
set_option maxHeartbeats 1000000 in
theorem may_any (c : Value) (A : List Int) (T : List ByteArray) (x : Int) (w : World) (h : CR w c A T x) (hf : Fit A T) :
    Calls Try.prog 15 #[c] w fun e w' => e = .returned (.bool (mayB A T x)) ∧ Below w.heap.size w w' := by
  obtain ⟨a, t, rfl, hA, hT⟩ := h
  obtain ⟨q1, p1, hq1, -⟩ := id hA
  obtain ⟨q2, p2, hq2, -⟩ := id hT
  subst hq1 hq2
  have H1 : Hid (RV w _ (ints A)) := hA
  have H2 : Hid (RV w _ (txts T)) := hT
  have HF : Hid (Fit A T) := hf
  clear hA hT hf
  unfold cV
  have HC : Hid (CR (w.alloc (.cells #[.slice q1 (ints A).length p1, .slice q2 (txts T).length p2, .int .i64 x] 25)) (.agg #[.slice q1 (ints A).length p1, .slice q2 (txts T).length p2, .int .i64 x]) A T x) := ⟨_, _, rfl, H1.out.below (below_new _ _), H2.out.below (below_new _ _)⟩
  clear H1 H2
  have HB : Hid (Below w.heap.size w (w.alloc (.cells #[.slice q1 (ints A).length p1, .slice q2 (txts T).length p2, .int .i64 x] 25))) := below_new _ _
  generalize (ints A).length = n at HC HB ⊢
  generalize (txts T).length = m at HC HB ⊢
  go_enter Try.func15, Try.ntmps15
  go_wp2_with fail
  refine (own_told _ A T x _ HC.out HF.out).mono ?_
  rintro e w1 ⟨r1, n1, s1, r2, n2, s2, y, rfl, hb, -⟩
  have HB2 : Hid (Below w.heap.size w w1) := below_then HB.out hb.out
  clear HC HB hb
  go_wp2_with fail
  go_ret
  exact ⟨rfl, below_then HB2.out (below_new _ _)⟩
end Go.Proofs.Ytbcdfobclliboaa
