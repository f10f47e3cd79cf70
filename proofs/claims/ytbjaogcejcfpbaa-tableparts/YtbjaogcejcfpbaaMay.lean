/-
  Which commands may be driven: the whole command, its place, its data, its read; what the program and the document answer, each by a contract. Condition: the data are no longer than a row that is read may be.
-/
import Derived.Test.YtbjaogcejcfpbaaFew
import Derived.Test.YtbjaogcejcfpbaaTurns
namespace Go.Proofs.Ytbjaogcejcfpbaa
open Go.RowKit
set_option linter.unusedVariables false

/-- Are these the parts of the command b? -/
def knB (b A : Int) (M : Bool) (D N : Int) (I : Bool) : Bool := isOp b && (decide (opA b = A) && (decide (opM b = M) && (decide (opD b = D) && (decide (opN b = N) && decide (opI b = I)))))
def plB (A k : Int) : Bool := if A = 0 then decide (k = 0) else decide (0 ≤ k ∧ k < 4096)
def caB (N : Int) (I M : Bool) (n : Nat) (r : Int) : Bool := if N = 0 then decide (n = 0 ∧ r = 0) else if I = true then decide (r = 0) else if M = true then decide (n = 1) else decide (n = 0)
def rdB (r : Int) : Bool := decide (0 ≤ r ∧ r ≤ 512)
/-- May it be driven? -/
def fitB (b A : Int) (M : Bool) (D N : Int) (I : Bool) (k : Int) (L : List Int) (r : Int) : Bool := knB b A M D N I && (plB A k && (fewB L && (rdB r && caB N I M L.length r)))

set_option maxRecDepth 100000 in
set_option maxHeartbeats 1000000 in
theorem known_any (b A : Int) (M : Bool) (D N : Int) (I : Bool) (w : World) :
    Calls Try.prog 22 #[.agg #[.int .i64 b, .int .i64 A, .bool M, .int .i64 D, .int .i64 N, .bool I]] w fun e w' => e = .returned (.bool (knB b A M D N I)) ∧ Below w.heap.size w w' := by
  by_cases hop : isOp b = true
  · obtain ⟨xA, hA⟩ : ∃ x, opA b = x := ⟨_, rfl⟩
    obtain ⟨xM, hM⟩ : ∃ x, opM b = x := ⟨_, rfl⟩
    obtain ⟨xD, hD⟩ : ∃ x, opD b = x := ⟨_, rfl⟩
    obtain ⟨xN, hN⟩ : ∃ x, opN b = x := ⟨_, rfl⟩
    obtain ⟨xI, hI⟩ : ∃ x, opI b = x := ⟨_, rfl⟩
    have HO := of_yes b (w.alloc (.cells #[.int .i64 b, .int .i64 A, .bool M, .int .i64 D, .int .i64 N, .bool I] 23)) hop
    rw [knB, hop, Bool.true_and, hA, hM, hD, hN, hI]
    rw [hA, hM, hD, hN, hI] at HO
    have HO : Hid (Calls _ _ _ _ _) := HO
    have HS : Hid (Six (w.alloc (.cells #[.int .i64 b, .int .i64 A, .bool M, .int .i64 D, .int .i64 N, .bool I] 23)) w.heap.size (.int .i64 b) (.int .i64 A) (.bool M) (.int .i64 D) (.int .i64 N) (.bool I)) := Six.new _ _ _ _ _ _ _
    clear hA hM hD hN hI hop
    go_enter Try.func22, Try.ntmps22
    go_wp2_with fail
    refine HO.out.mono ?_
    rintro e w1 ⟨rfl, b1⟩
    obtain ⟨c0, c1, c2, c3, c4, c5⟩ := HS.out.below (below_then b1 (below_new w1 (.cells #[.int .i64 b, .int .i64 xA, .bool xM, .int .i64 xD, .int .i64 xN, .bool xI] 23)))
    have B1 : Hid (Below w.heap.size w w1) := below_then (below_new _ _) b1
    clear b1 HS HO
    go_wp2
    all_goals go_ret
    all_goals exact ⟨ret_bool (by simp [*]), below_then B1.out (below_new _ _)⟩
  · have hno : isOp b = false := by simpa using hop
    have HK : Hid (knB b A M D N I = false) := by rw [Hid, knB, hno, Bool.false_and]
    go_enter Try.func22, Try.ntmps22
    go_wp2_with fail
    refine (of_no b _ hno).mono ?_
    rintro e w1 ⟨rfl, b1⟩
    have B1 : Hid (Below w.heap.size w w1) := below_then (below_new _ _) b1
    clear b1
    go_wp2
    go_ret
    exact ⟨ret_bool HK.out.symm, below_then B1.out (below_new _ _)⟩

set_option maxRecDepth 100000 in
set_option maxHeartbeats 1000000 in
theorem placed_any (b A : Int) (M : Bool) (D N : Int) (I : Bool) (k : Int) (w : World) :
    Calls Try.prog 23 #[.agg #[.int .i64 b, .int .i64 A, .bool M, .int .i64 D, .int .i64 N, .bool I], .int .i64 k] w fun e w' => e = .returned (.bool (plB A k)) ∧ Below w.heap.size w w' := by
  by_cases hA : A = 0
  · rw [show plB A k = decide (k = 0) by rw [plB, if_pos hA]]
    subst hA
    by_cases hk : k = 0
    · subst hk
      go_enter Try.func23, Try.ntmps23
      go_wp2
      go_ret
      exact ⟨rfl, below_new _ _⟩
    · rw [decide_eq_false hk]
      go_enter Try.func23, Try.ntmps23
      go_wp2
      go_ret
      exact ⟨ret_bool (by simp [hk]), below_new _ _⟩
  · rw [show plB A k = decide (0 ≤ k ∧ k < 4096) by rw [plB, if_neg hA]]
    by_cases h0 : k < 0
    · rw [decide_eq_false (by omega)]
      go_enter Try.func23, Try.ntmps23
      go_wp2
      go_ret
      exact ⟨ret_bool (by first | rfl | (simp; omega)), below_new _ _⟩
    · by_cases h1 : k < 4096
      · rw [decide_eq_true (by omega)]
        go_enter Try.func23, Try.ntmps23
        go_wp2
        go_ret
        exact ⟨ret_bool (by first | rfl | (simp; omega)), below_new _ _⟩
      · rw [decide_eq_false (by omega)]
        go_enter Try.func23, Try.ntmps23
        go_wp2
        go_ret
        exact ⟨ret_bool (by first | rfl | (simp; omega)), below_new _ _⟩

set_option maxRecDepth 100000 in
set_option maxHeartbeats 1000000 in
theorem carries_any (b A : Int) (M : Bool) (D N : Int) (I : Bool) (a : Option Addr) (n c : Nat) (r : Int) (w : World) (hn : n * 8 ≤ 140737488351232) :
    Calls Try.prog 25 #[.agg #[.int .i64 b, .int .i64 A, .bool M, .int .i64 D, .int .i64 N, .bool I], .slice a n c, .int .i64 r] w fun e w' => e = .returned (.bool (caB N I M n r)) ∧ Below w.heap.size w w' := by
  by_cases hN : N = 0
  · rw [show caB N I M n r = decide (n = 0 ∧ r = 0) by rw [caB, if_pos hN]]
    subst hN
    by_cases h0 : n = 0
    · subst h0
      go_enter Try.func25, Try.ntmps25
      go_wp2
      go_ret
      exact ⟨ret_bool (by simp only [true_and]; rfl), below_new _ _⟩
    · rw [decide_eq_false (by omega)]
      go_enter Try.func25, Try.ntmps25
      go_wp2
      go_ret
      exact ⟨ret_bool (by first | rfl | (simp; omega)), below_new _ _⟩
  · cases I
    · cases M
      · rw [show caB N false false n r = decide (n = 0) by rw [caB, if_neg hN]; rfl]
        go_enter Try.func25, Try.ntmps25
        go_wp2
        go_ret
        exact ⟨ret_bool (by first | rfl | (by_cases h : n = 0 <;> simp [h])), below_new _ _⟩
      · rw [show caB N false true n r = decide (n = 1) by rw [caB, if_neg hN]; rfl]
        go_enter Try.func25, Try.ntmps25
        go_wp2
        go_ret
        exact ⟨ret_bool (by first | (simp; done) | (simp; omega) | (by_cases h : n = 1 <;> simp [h] <;> omega)), below_new _ _⟩
    · rw [show caB N true M n r = decide (r = 0) by rw [caB, if_neg hN]; rfl]
      go_enter Try.func25, Try.ntmps25
      go_wp2
      go_ret
      exact ⟨ret_bool (by first | rfl | (by_cases h : r = 0 <;> simp [h])), below_new _ _⟩

theorem fit_no {b A : Int} {M : Bool} {D N : Int} {I : Bool} {k : Int} {L : List Int} {r : Int} (h : knB b A M D N I = false ∨ plB A k = false ∨ fewB L = false ∨ rdB r = false ∨ caB N I M L.length r = false) : fitB b A M D N I k L r = false := by
  unfold fitB
  rcases h with h | h | h | h | h <;> simp [h]
theorem fit_yes {b A : Int} {M : Bool} {D N : Int} {I : Bool} {k : Int} {L : List Int} {r : Int} (h1 : knB b A M D N I = true) (h2 : plB A k = true) (h3 : fewB L = true) (h4 : rdB r = true) : fitB b A M D N I k L r = caB N I M L.length r := by
  unfold fitB
  simp [h1, h2, h3, h4]

set_option maxRecDepth 100000 in
set_option maxHeartbeats 2000000 in
theorem refMay_any (b A : Int) (M : Bool) (D N : Int) (I : Bool) (k : Int) (u : Value) (L : List Int) (r : Int) (w : World) (hu : Reads w u L) (hl : L.length * 8 ≤ 140737488351232) :
    Calls Try.prog 27 #[.agg #[.int .i64 b, .int .i64 A, .bool M, .int .i64 D, .int .i64 N, .bool I], .int .i64 k, u, .int .i64 r] w fun e w' => e = .returned (.bool (fitB b A M D N I k L r)) ∧ Below w.heap.size w w' := by
  by_cases hop : isOp b = true
  · obtain ⟨xA, hA⟩ : ∃ x, opA b = x := ⟨_, rfl⟩
    obtain ⟨xM, hM⟩ : ∃ x, opM b = x := ⟨_, rfl⟩
    obtain ⟨xD, hD⟩ : ∃ x, opD b = x := ⟨_, rfl⟩
    obtain ⟨xN, hN⟩ : ∃ x, opN b = x := ⟨_, rfl⟩
    obtain ⟨xI, hI⟩ : ∃ x, opI b = x := ⟨_, rfl⟩
    have HO := (ref_any b (w.alloc (.cells #[.int .i64 b, .int .i64 A, .bool M, .int .i64 D, .int .i64 N, .bool I] 23)))
    have hop' : opB b = b := by rw [opB, if_pos hop]
    have hop2 : opE b = 0 := by rw [opE, if_pos hop]
    unfold Tells at HO
    rw [hA, hM, hD, hN, hI, hop', hop2] at HO
    have hkn : knB b A M D N I = (decide (xA = A) && (decide (xM = M) && (decide (xD = D) && (decide (xN = N) && decide (xI = I))))) := by rw [knB, hop, Bool.true_and, hA, hM, hD, hN, hI]
    have HO : Hid (Calls _ _ _ _ _) := HO
    have HS : Hid (Six (w.alloc (.cells #[.int .i64 b, .int .i64 A, .bool M, .int .i64 D, .int .i64 N, .bool I] 23)) w.heap.size (.int .i64 b) (.int .i64 A) (.bool M) (.int .i64 D) (.int .i64 N) (.bool I)) := Six.new _ _ _ _ _ _ _
    have HU : Hid (Reads w u L) := hu
    obtain ⟨a, c, rfl, -⟩ := hu
    clear hA hM hD hN hI hop hop' hop2
    by_cases heq : xA = A ∧ xM = M ∧ xD = D ∧ xN = N ∧ xI = I
    · obtain ⟨rfl, rfl, rfl, rfl, rfl⟩ := heq
      have HK : Hid (knB b xA xM xD xN xI = true) := by rw [Hid, hkn]; simp
      clear hkn
      go_enter Try.func27, Try.ntmps27
      go_wp2_with fail
      refine HO.out.mono ?_
      rintro e w1 ⟨rfl, b1⟩
      obtain ⟨c0, c1, c2, c3, c4, c5⟩ := HS.out.below (below_then b1 (below_new w1 (.cells #[.int .i64 b, .int .i64 xA, .bool xM, .int .i64 xD, .int .i64 xN, .bool xI] 23)))
      have bW : Below w.heap.size w (w1.alloc (.cells #[.int .i64 b, .int .i64 xA, .bool xM, .int .i64 xD, .int .i64 xN, .bool xI] 23)) := below_then (below_then (below_new _ _) b1) (below_new _ _)
      have S1 : Hid (Six _ _ _ _ _ _ _ _) := ⟨c0, c1, c2, c3, c4, c5⟩
      have HU1 : Hid (Reads (w1.alloc (.cells #[.int .i64 b, .int .i64 xA, .bool xM, .int .i64 xD, .int .i64 xN, .bool xI] 23)) (.slice a L.length c) L) := HU.out.below bW
      have BW : Hid (Below _ _ _) := bW
      clear b1 HS HO bW
      have HP : Hid (∀ v, plB xA k = v → v = false → fitB b xA xM xD xN xI k L r = false) := fun v h1 h2 => fit_no (.inr (.inl (h1.trans h2)))
      by_cases h0 : k < 0
      · have HF : Hid (fitB b xA xM xD xN xI k L r = false) := HP.out _ rfl (by unfold plB; split <;> exact decide_eq_false (by omega))
        clear HP HK HU HU1 S1
        go_wp2
        go_ret
        exact ⟨ret_bool HF.out.symm, BW.out⟩
      · by_cases h1 : 4096 ≤ k
        · have HF : Hid (fitB b xA xM xD xN xI k L r = false) := HP.out _ rfl (by unfold plB; split <;> exact decide_eq_false (by omega))
          clear HP HK HU HU1 S1
          go_wp2
          go_ret
          exact ⟨ret_bool HF.out.symm, BW.out⟩
        · by_cases h2 : xA = 0 ∧ k ≠ 0
          · obtain ⟨rfl, hk⟩ := h2
            have HF : Hid (fitB b 0 xM xD xN xI k L r = false) := HP.out _ rfl (by unfold plB; rw [if_pos rfl]; exact decide_eq_false hk)
            have d1 : (k != 0) = true := by simpa using hk
            clear HP HK HU HU1 S1
            go_wp2
            go_ret
            exact ⟨ret_bool HF.out.symm, BW.out⟩
          · have HPl : Hid (plB xA k = true) := by
              unfold plB Hid
              split
              · exact decide_eq_true (by omega)
              · exact decide_eq_true (by omega)
            clear HP
            have HR : ∀ v, Hid (rdB r = v → v = false → fitB b xA xM xD xN xI k L r = false) := fun v h1 h2 => fit_no (.inr (.inr (.inr (.inl (h1.trans h2)))))
            obtain ⟨y, hy⟩ : ∃ y, byB L = y := ⟨_, rfl⟩
            have HY : Hid (byB L = y) := hy
            clear hy
            have HC : Hid (Calls Try.prog 33 #[.slice a L.length c] (w1.alloc (.cells #[.int .i64 b, .int .i64 xA, .bool xM, .int .i64 xD, .int .i64 xN, .bool xI] 23)) fun e w' => e = .returned (.bool y) ∧ Below w.heap.size w w' ∧ Six w' w.heap.size (.int .i64 b) (.int .i64 xA) (.bool xM) (.int .i64 xD) (.int .i64 xN) (.bool xI)) := (may_any _ L _ HU1.out hl).mono fun e w' ⟨he, hb⟩ => ⟨he.trans (by rw [HY.out]), below_then BW.out hb, S1.out.below hb⟩
            clear HU HU1 S1
            by_cases hA0 : xA = 0
            · have hk0 : k = 0 := by omega
              subst hA0 hk0
              go_wp2_with fail
              refine HC.out.mono ?_
              rintro e w2 ⟨rfl, b2, k0, k1, k2, k3, k4, k5⟩
              have B2 : Hid (Below w.heap.size w w2) := b2
              clear b2 HC c0 c1 c2 c3 c4 c5
              cases y
              · have HF : Hid (fitB b 0 xM xD xN xI 0 L r = false) := fit_no (.inr (.inr (.inl (by rw [fewB, HY.out, Bool.and_false]))))
                clear HK HPl HR HY
                go_wp2
                go_ret
                exact ⟨ret_bool (HF.out.symm), B2.out⟩
              · by_cases h5 : 512 < L.length
                · have HF : Hid (fitB b 0 xM xD xN xI 0 L r = false) := fit_no (.inr (.inr (.inl (by rw [fewB, decide_eq_false (by omega), Bool.false_and]))))
                  clear HK HPl HR HY
                  go_wp2
                  go_ret
                  exact ⟨ret_bool (HF.out.symm), B2.out⟩
                · by_cases h6 : r < 0
                  · have HF : Hid (fitB b 0 xM xD xN xI 0 L r = false) := fit_no (.inr (.inr (.inr (.inl (by rw [rdB]; exact decide_eq_false (by omega))))))
                    clear HK HPl HR HY
                    go_wp2
                    go_ret
                    exact ⟨ret_bool (HF.out.symm), B2.out⟩
                  · by_cases h7 : 512 < r
                    · have HF : Hid (fitB b 0 xM xD xN xI 0 L r = false) := fit_no (.inr (.inr (.inr (.inl (by rw [rdB]; exact decide_eq_false (by omega))))))
                      clear HK HPl HR HY
                      go_wp2
                      go_ret
                      exact ⟨ret_bool (HF.out.symm), B2.out⟩
                    · have HE : Hid (fitB b 0 xM xD xN xI 0 L r = caB xN xI xM L.length r) := fit_yes HK.out HPl.out (by rw [fewB, HY.out, decide_eq_true (by omega)]; rfl) (decide_eq_true (by omega))
                      clear HK HPl HR HY
                      by_cases hN : xN = 0
                      · subst hN
                        by_cases hn0 : L.length = 0
                        · have HF : Hid (caB 0 xI xM L.length r = decide (r = 0)) := by rw [Hid, caB, if_pos rfl]; simp [hn0]
                          go_wp2
                          go_ret
                          exact ⟨ret_bool (by rw [HE.out, HF.out]; first | rfl | simp [hn0] | (by_cases h : r = 0 <;> simp [h, hn0])), B2.out⟩
                        · have HF : Hid (caB 0 xI xM L.length r = false) := by rw [Hid, caB, if_pos rfl]; simp [hn0]
                          go_wp2
                          go_ret
                          exact ⟨ret_bool (by rw [HE.out, HF.out]; try rfl), B2.out⟩
                      · cases xI
                        · cases xM
                          · have HF : Hid (caB xN false false L.length r = decide (L.length = 0)) := by rw [Hid, caB, if_neg hN]; rfl
                            go_wp2
                            go_ret
                            exact ⟨ret_bool (by rw [HE.out, HF.out]; first | rfl | (by_cases h : L.length = 0 <;> simp [h])), B2.out⟩
                          · have HF : Hid (caB xN false true L.length r = decide (L.length = 1)) := by rw [Hid, caB, if_neg hN]; rfl
                            go_wp2
                            go_ret
                            exact ⟨ret_bool (by rw [HE.out, HF.out]; first | rfl | (simp; done) | (by_cases h : L.length = 1 <;> simp [h] <;> omega)), B2.out⟩
                        · have HF : Hid (caB xN true xM L.length r = decide (r = 0)) := by rw [Hid, caB, if_neg hN]; rfl
                          go_wp2
                          go_ret
                          exact ⟨ret_bool (by rw [HE.out, HF.out]; first | rfl | (by_cases h : r = 0 <;> simp [h])), B2.out⟩
            · go_wp2_with fail
              refine HC.out.mono ?_
              rintro e w2 ⟨rfl, b2, k0, k1, k2, k3, k4, k5⟩
              have B2 : Hid (Below w.heap.size w w2) := b2
              clear b2 HC c0 c1 c2 c3 c4 c5
              cases y
              · have HF : Hid (fitB b xA xM xD xN xI k L r = false) := fit_no (.inr (.inr (.inl (by rw [fewB, HY.out, Bool.and_false]))))
                clear HK HPl HR HY
                go_wp2
                go_ret
                exact ⟨ret_bool (HF.out.symm), B2.out⟩
              · by_cases h5 : 512 < L.length
                · have HF : Hid (fitB b xA xM xD xN xI k L r = false) := fit_no (.inr (.inr (.inl (by rw [fewB, decide_eq_false (by omega), Bool.false_and]))))
                  clear HK HPl HR HY
                  go_wp2
                  go_ret
                  exact ⟨ret_bool (HF.out.symm), B2.out⟩
                · by_cases h6 : r < 0
                  · have HF : Hid (fitB b xA xM xD xN xI k L r = false) := fit_no (.inr (.inr (.inr (.inl (by rw [rdB]; exact decide_eq_false (by omega))))))
                    clear HK HPl HR HY
                    go_wp2
                    go_ret
                    exact ⟨ret_bool (HF.out.symm), B2.out⟩
                  · by_cases h7 : 512 < r
                    · have HF : Hid (fitB b xA xM xD xN xI k L r = false) := fit_no (.inr (.inr (.inr (.inl (by rw [rdB]; exact decide_eq_false (by omega))))))
                      clear HK HPl HR HY
                      go_wp2
                      go_ret
                      exact ⟨ret_bool (HF.out.symm), B2.out⟩
                    · have HE : Hid (fitB b xA xM xD xN xI k L r = caB xN xI xM L.length r) := fit_yes HK.out HPl.out (by rw [fewB, HY.out, decide_eq_true (by omega)]; rfl) (decide_eq_true (by omega))
                      clear HK HPl HR HY
                      by_cases hN : xN = 0
                      · subst hN
                        by_cases hn0 : L.length = 0
                        · have HF : Hid (caB 0 xI xM L.length r = decide (r = 0)) := by rw [Hid, caB, if_pos rfl]; simp [hn0]
                          go_wp2
                          go_ret
                          exact ⟨ret_bool (by rw [HE.out, HF.out]; first | rfl | simp [hn0] | (by_cases h : r = 0 <;> simp [h, hn0])), B2.out⟩
                        · have HF : Hid (caB 0 xI xM L.length r = false) := by rw [Hid, caB, if_pos rfl]; simp [hn0]
                          go_wp2
                          go_ret
                          exact ⟨ret_bool (by rw [HE.out, HF.out]; try rfl), B2.out⟩
                      · cases xI
                        · cases xM
                          · have HF : Hid (caB xN false false L.length r = decide (L.length = 0)) := by rw [Hid, caB, if_neg hN]; rfl
                            go_wp2
                            go_ret
                            exact ⟨ret_bool (by rw [HE.out, HF.out]; first | rfl | (by_cases h : L.length = 0 <;> simp [h])), B2.out⟩
                          · have HF : Hid (caB xN false true L.length r = decide (L.length = 1)) := by rw [Hid, caB, if_neg hN]; rfl
                            go_wp2
                            go_ret
                            exact ⟨ret_bool (by rw [HE.out, HF.out]; first | rfl | (simp; done) | (by_cases h : L.length = 1 <;> simp [h] <;> omega)), B2.out⟩
                        · have HF : Hid (caB xN true xM L.length r = decide (r = 0)) := by rw [Hid, caB, if_neg hN]; rfl
                          go_wp2
                          go_ret
                          exact ⟨ret_bool (by rw [HE.out, HF.out]; first | rfl | (by_cases h : r = 0 <;> simp [h])), B2.out⟩
    · have HK : Hid (fitB b A M D N I k L r = false) := fit_no (.inl (by
        rw [hkn]
        by_cases h1 : xA = A
        · by_cases h2 : xM = M
          · by_cases h3 : xD = D
            · by_cases h4 : xN = N
              · by_cases h5 : xI = I
                · exact absurd ⟨h1, h2, h3, h4, h5⟩ heq
                · simp [h5]
              · simp [h4]
            · simp [h3]
          · simp [h2]
        · simp [h1]))
      rw [HK.out]
      have HQ : Hid (¬ (xA = A ∧ xM = M ∧ xD = D ∧ xN = N ∧ xI = I)) := heq
      clear heq hkn HK
      go_enter Try.func27, Try.ntmps27
      go_wp2_with fail
      refine HO.out.mono ?_
      rintro e w1 ⟨rfl, b1⟩
      obtain ⟨c0, c1, c2, c3, c4, c5⟩ := HS.out.below (below_then b1 (below_new w1 (.cells #[.int .i64 b, .int .i64 xA, .bool xM, .int .i64 xD, .int .i64 xN, .bool xI] 23)))
      have B1 : Hid (Below w.heap.size w w1) := below_then (below_new _ _) b1
      have HQ : Hid (¬ (xA = A ∧ xM = M ∧ xD = D ∧ xN = N ∧ xI = I)) := HQ
      clear b1 HS HO
      go_wp2
      all_goals first | exact absurd ⟨by assumption, by assumption, by assumption, by assumption, by assumption⟩ HQ.out | skip
      all_goals go_ret
      all_goals exact ⟨rfl, below_then B1.out (below_new _ _)⟩
  · have hno : isOp b = false := by simpa using hop
    have HO := (ref_any b (w.alloc (.cells #[.int .i64 b, .int .i64 A, .bool M, .int .i64 D, .int .i64 N, .bool I] 23)))
    have hop2 : opE b = 400 := by rw [opE, if_neg hop]
    unfold Tells at HO
    rw [hop2] at HO
    have HO : Hid (Calls _ _ _ _ _) := HO
    rw [show fitB b A M D N I k L r = false from fit_no (.inl (by rw [knB, hno, Bool.false_and]))]
    obtain ⟨a, c, rfl, -⟩ := hu
    clear hop hno hop2
    go_enter Try.func27, Try.ntmps27
    go_wp2_with fail
    refine HO.out.mono ?_
    rintro e w1 ⟨rfl, b1⟩
    have B1 : Hid (Below w.heap.size w w1) := below_then (below_new _ _) b1
    clear b1 HO
    go_wp2
    go_ret
    exact ⟨rfl, below_then B1.out (below_new _ _)⟩
end Go.Proofs.Ytbjaogcejcfpbaa
