/-
  Keep of package line, by a contract for every cache, place and text. Condition: the cache's lists are no longer than a list that is read may be.
-/
import Derived.Test.YtbcdfobclliboaaFind
namespace Go.Proofs.Ytbcdfobclliboaa
open Go.RowKit Plain
set_option linter.unusedVariables false

/-- Which line goes: the one that has the place, or line x. -/
def kN (A : List Int) (x a : Int) : Nat := if ixI A a < 0 then x.toNat else (ixI A a).toNat
def kA (A : List Int) (x a : Int) : List Int := A.set (kN A x a) a
def kT (A : List Int) (T : List ByteArray) (x a : Int) (s : ByteArray) : List ByteArray := T.set (kN A x a) s
def kX (A : List Int) (x a : Int) : Int := if ixI A a < 0 then (x + 1) % 2 else x
/-- May this be kept there? -/
def kB (A : List Int) (T : List ByteArray) (x a : Int) (s : ByteArray) : Bool := mayB A T x && whB a s
/-- What a Keep answers: a cache of the call's own, or none and the form error. -/
def KeptE (w : World) (A : List Int) (T : List ByteArray) (x a : Int) (s : ByteArray) (e : Ending) (w' : World) : Prop :=
  Below w.heap.size w w' ∧ ((kB A T x a s = true ∧ ∃ q1 n1 p1 q2 n2 p2 y, e = .returned (.tuple #[.agg #[.slice q1 n1 p1, .slice q2 n2 p2, .int .i64 y], .int .i64 0]) ∧ CO w.heap.size w' (.agg #[.slice q1 n1 p1, .slice q2 n2 p2, .int .i64 y]) (kA A x a) (kT A T x a s) (kX A x a)) ∨
    (kB A T x a s = false ∧ e = .returned (.tuple #[.agg #[.slice none 0 0, .slice none 0 0, .int .i64 0], .int .i64 1200])))

/-- A Keep under way: the answer's place is empty, block kb holds the cache P, Q, y. -/
structure Kp (w : World) (rb kb : Nat) (u1 u2 : Value) (y : Int) (P : List Int) (Q : List ByteArray) (z : World) : Prop where
  res : Blk z rb 25 [.slice none 0 0, .slice none 0 0, .int .i64 0]
  kept : Blk z kb 25 [u1, u2, .int .i64 y]
  at' : OV w.heap.size 3 z u1 (ints P)
  text : OV w.heap.size 9 z u2 (txts Q)
  hr : w.heap.size ≤ rb
  hk : w.heap.size ≤ kb
  ne : kb ≠ rb
  old : Below w.heap.size w z
theorem Kp.below {w : World} {rb kb : Nat} {u1 u2 : Value} {y : Int} {P : List Int} {Q : List ByteArray} {z z' : World} (h : Kp w rb kb u1 u2 y P Q z) (b : Below z.heap.size z z') : Kp w rb kb u1 u2 y P Q z' :=
  ⟨h.res.below b, h.kept.below b, h.at'.below b (Nat.le_refl _), h.text.below b (Nat.le_refl _), h.hr, h.hk, h.ne, below_then h.old b⟩
theorem Kp.next {w : World} {rb kb : Nat} {u1 u2 : Value} {y : Int} {P : List Int} {Q : List ByteArray} {z : World} (h : Kp w rb kb u1 u2 y P Q z) (x : Int) : Kp w rb kb u1 u2 x P Q (z.setCell ⟨kb, 2, none⟩ (.int .i64 x)) :=
  ⟨h.res.other _ _ _ h.ne, h.kept.set 2 _, h.at'.set_other _ _ (h.at'.apart h.kept (by decide)), h.text.set_other _ _ (h.text.apart h.kept (by decide)), h.hr, h.hk, h.ne, h.old.setCell (by exact h.hk) _⟩
theorem OV.stored {B e g c n : Nat} {z : World} {X : List Value} (h : OV B e z (.slice (some ⟨g, 0, none⟩) n c) X) (hn : X.length = n) (k : Nat) (v : Value) : OV B e (z.setCell ⟨g, k, none⟩ v) (.slice (some ⟨g, 0, none⟩) n c) (X.set k v) := by
  subst hn
  have := (World.ownsRow.stored h k v).1
  unfold OV
  rw [List.length_set]
  exact this
theorem Kp.setAt {w : World} {rb kb g c n : Nat} {u2 : Value} {y : Int} {P : List Int} {Q : List ByteArray} {z : World} (h : Kp w rb kb (.slice (some ⟨g, 0, none⟩) n c) u2 y P Q z) (hn : P.length = n) (k : Nat) (a : Int) :
    Kp w rb kb (.slice (some ⟨g, 0, none⟩) n c) u2 y (P.set k a) Q (z.setCell ⟨g, k, none⟩ (.int .i64 a)) := by
  have h1 := h.at'.apart h.res (by decide)
  have h2 := h.at'.apart h.kept (by decide)
  have h3 := h.at'.apart2 h.text (by decide)
  have hg : w.heap.size ≤ g := (World.ownsRow.lt h.at' g rfl).1
  refine ⟨h.res.other _ _ _ fun e => h1 (congrArg some e.symm), h.kept.other _ _ _ fun e => h2 (congrArg some e.symm), ?_, ?_, h.hr, h.hk, h.ne, h.old.setCell (by exact hg) _⟩
  · rw [show ints (P.set k a) = (ints P).set k (.int .i64 a) from List.map_set]
    exact h.at'.stored (by rw [List.length_map]; exact hn) k _
  · refine h.text.set_other _ _ fun e => ?_
    rcases h3 with h3 | h3
    · rw [h3] at e; cases e
    · exact h3 (by rw [← e]; rfl)
theorem Kp.setText {w : World} {rb kb g c n : Nat} {u1 : Value} {y : Int} {P : List Int} {Q : List ByteArray} {z : World} (h : Kp w rb kb u1 (.slice (some ⟨g, 0, none⟩) n c) y P Q z) (hn : Q.length = n) (k : Nat) (t : ByteArray) :
    Kp w rb kb u1 (.slice (some ⟨g, 0, none⟩) n c) y P (Q.set k t) (z.setCell ⟨g, k, none⟩ (.string t)) := by
  have h1 := h.text.apart h.res (by decide)
  have h2 := h.text.apart h.kept (by decide)
  have h3 := h.text.apart2 h.at' (by decide)
  have hg : w.heap.size ≤ g := (World.ownsRow.lt h.text g rfl).1
  refine ⟨h.res.other _ _ _ fun e => h1 (congrArg some e.symm), h.kept.other _ _ _ fun e => h2 (congrArg some e.symm), ?_, ?_, h.hr, h.hk, h.ne, h.old.setCell (by exact hg) _⟩
  · refine h.at'.set_other _ _ fun e => ?_
    rcases h3 with h3 | h3
    · rw [h3] at e; cases e
    · exact h3 (by rw [← e]; rfl)
  · rw [show txts (Q.set k t) = (txts Q).set k (.string t) from List.map_set]
    exact h.text.stored (by rw [List.length_map]; exact hn) k _
theorem CO.told {B : Nat} {w : World} {u v : Value} {y : Int} {A : List Int} {T : List ByteArray} {x : Int} (h : CO B w (.agg #[u, v, .int .i64 y]) A T x) : OV B 3 w u (ints A) ∧ OV B 9 w v (txts T) ∧ y = x := by
  obtain ⟨a, t, e, h1, h2⟩ := h
  unfold cV at e
  simp at e
  obtain ⟨rfl, rfl, rfl⟩ := e
  exact ⟨h1, h2, rfl⟩

theorem kp_two {w : World} {rb kb : Nat} {u1 u2 : Value} {y : Int} {A : List Int} {T : List ByteArray} {z : World} (h : Kp w rb kb u1 u2 y A T z) : z.cell? ⟨kb, 0, none⟩ = some u1 ∧ z.cell? ⟨kb, 1, none⟩ = some u2 := ⟨h.kept.cell 0 rfl, h.kept.cell 1 rfl⟩
/-- What the two stores want to know. -/
theorem kp_stores {w : World} {rb kb g c g' c' : Nat} {y : Int} {A : List Int} {T : List ByteArray} {z : World} (h : Kp w rb kb (.slice (some ⟨g, 0, none⟩) 2 c) (.slice (some ⟨g', 0, none⟩) 2 c') y A T z) (hA : A.length = 2) (hT : T.length = 2) {k : Nat} (hk : k < 2) (a : Int) (s : ByteArray) :
    z.cell? ⟨g, k, none⟩ = some (.int .i64 (A.getD k 0)) ∧ z.frozen? ⟨g, k, none⟩ = false ∧ z.cell? ⟨g', k, none⟩ = some (.string (T.getD k ByteArray.empty)) ∧ z.frozen? ⟨g', k, none⟩ = false := by
  have h1 : z.ownsRow w.heap.size 3 1 (.slice (some ⟨g, 0, none⟩) 2 c) 2 (ints A) := ov_row h.at' rfl (by rw [List.length_map, hA])
  have h2 : z.ownsRow w.heap.size 9 1 (.slice (some ⟨g', 0, none⟩) 2 c') 2 (txts T) := ov_row h.text rfl (by rw [List.length_map, hT])
  exact ⟨by rw [h1.cellAt k (by omega), ints_at (by omega)], h1.frozenAt k, by rw [h2.cellAt k (by omega), txts_at (by omega)], h2.frozenAt k⟩

set_option maxRecDepth 100000 in
set_option maxHeartbeats 4000000 in
theorem keep_any (c : Value) (A : List Int) (T : List ByteArray) (x a : Int) (s : ByteArray) (w : World) (h : CR w c A T x) (hf : Fit A T) (hs : s.size ≤ maxLen) :
    Calls Try.prog 9 #[c, .int .i64 a, .string s] w (KeptE w A T x a s) := by
  obtain ⟨q1, n1, p1, q2, n2, p2, rfl, h1, h2, HC0⟩ := h.boxed
  have HF : Hid (Fit A T) := hf
  have HC : Hid (CR ((w.alloc (.cells #[.slice q1 n1 p1, .slice q2 n2 p2, .int .i64 x] 25)).alloc (.cells #[.slice none 0 0, .slice none 0 0, .int .i64 0] 25)) (.agg #[.slice q1 n1 p1, .slice q2 n2 p2, .int .i64 x]) A T x) := HC0.out.below (below_new _ _)
  have HR : Hid (Blk ((w.alloc (.cells #[.slice q1 n1 p1, .slice q2 n2 p2, .int .i64 x] 25)).alloc (.cells #[.slice none 0 0, .slice none 0 0, .int .i64 0] 25)) (w.heap.size + 1) 25 [.slice none 0 0, .slice none 0 0, .int .i64 0]) := Blk.at_ rfl (by simp)
  have HB : Hid (Below w.heap.size w ((w.alloc (.cells #[.slice q1 n1 p1, .slice q2 n2 p2, .int .i64 x] 25)).alloc (.cells #[.slice none 0 0, .slice none 0 0, .int .i64 0] 25))) := below_then (below_new _ _) (below_new _ _)
  clear h hf h1 h2 HC0
  cases hm : mayB A T x with
  | false =>
    have HNo : Hid (kB A T x a s = false) := by unfold kB; rw [Hid, hm]; rfl
    go_enter Try.func9, Try.ntmps9
    go_wp2_with fail
    refine (own_no _ A T x _ HC.out HF.out hm).mono ?_
    rintro e w1 ⟨rfl, hb⟩
    have HB2 : Hid (Below w.heap.size w w1) := below_then HB.out hb.out
    have R0 := (HR.out.below hb.out).below (below_new w1 (.cells #[.slice none 0 0, .slice none 0 0, .int .i64 0] 25))
    have HB3 : Hid (Below w.heap.size w (w1.alloc (.cells #[.slice none 0 0, .slice none 0 0, .int .i64 0] 25))) := below_then HB2.out (below_new _ _)
    clear HC HB hb HR HB2
    go_upto_region 2 with fail
    generalize w1.alloc (.cells #[.slice none 0 0, .slice none 0 0, .int .i64 0] 25) = W at R0 HB3 ⊢
    have cr0 := R0.cell 0 rfl
    have cr1 := R0.cell 1 rfl
    have cr2 := R0.cell 2 rfl
    have fr0 := R0.frozen 0
    have fr1 := R0.frozen 1
    have fr2 := R0.frozen 2
    have R1 := ((R0.set 0 (.slice none 0 0)).set 1 (.slice none 0 0)).set 2 (.int .i64 0)
    have B1 : Below w.heap.size w (((W.setCell ⟨w.heap.size + 1, 0, none⟩ (.slice none 0 0)).setCell ⟨w.heap.size + 1, 1, none⟩ (.slice none 0 0)).setCell ⟨w.heap.size + 1, 2, none⟩ (.int .i64 0)) :=
      ((HB3.out.setCell (by show w.heap.size ≤ w.heap.size + 1; omega) _).setCell (by show w.heap.size ≤ w.heap.size + 1; omega) _).setCell (by show w.heap.size ≤ w.heap.size + 1; omega) _
    clear R0
    go_wp2_with fail
    generalize (((W.setCell ⟨w.heap.size + 1, 0, none⟩ (.slice none 0 0)).setCell ⟨w.heap.size + 1, 1, none⟩ (.slice none 0 0)).setCell ⟨w.heap.size + 1, 2, none⟩ (.int .i64 0)) = W4 at R1 B1 ⊢
    have d0 := R1.cell 0 rfl
    have d1 := R1.cell 1 rfl
    have d2 := R1.cell 2 rfl
    refine bodyPost_ret (v := .tuple #[.agg #[.slice none 0 0, .slice none 0 0, .int .i64 0], .int .i64 1200]) (by simp [results, Try.results9, go_sem, d0, d1, d2]) rfl ⟨B1, .inr ⟨HNo.out, rfl⟩⟩
  | true =>
    go_enter Try.func9, Try.ntmps9
    go_wp2_with fail
    refine (own_yes _ A T x _ HC.out HF.out hm).mono ?_
    rintro e w1 ⟨ga, oa, c1, gb, ob, c2, rfl, hb, hC, h1, h2⟩
    obtain ⟨hO1, hO2, -⟩ := hC.out.told
    have HB2 : Hid (Below w.heap.size w w1) := below_then HB.out hb.out
    have hsz : w.heap.size + 1 < w1.heap.size := (HR.out.below hb.out).lt
    have HK : Hid (Kp w (w.heap.size + 1) w1.heap.size (.slice (some ⟨ga, oa, none⟩) 2 c1) (.slice (some ⟨gb, ob, none⟩) 2 c2) x A T (w1.alloc (.cells #[.slice (some ⟨ga, oa, none⟩) 2 c1, .slice (some ⟨gb, ob, none⟩) 2 c2, .int .i64 x] 25))) := by
      have hl : w.heap.size ≤ (w.alloc (.cells #[.slice q1 n1 p1, .slice q2 n2 p2, .int .i64 x] 25)).heap.size := by simp
      exact ⟨(HR.out.below hb.out).below (below_new _ _), Blk.new _ _ _ _ rfl, hO1.below (below_new _ _) (by simp; omega), hO2.below (below_new _ _) (by simp; omega), by omega, by omega, by omega, below_then HB2.out (below_new _ _)⟩
    obtain rfl : oa = 0 := by
      rcases hO1.2 with ⟨e, _⟩ | ⟨g, cap, cur, e, _⟩
      · simp at e
      · simp at e; exact e.1.2
    obtain rfl : ob = 0 := by
      rcases hO2.2 with ⟨e, _⟩ | ⟨g, cap, cur, e, _⟩
      · simp at e
      · simp at e; exact e.1.2
    have HAT : Hid (A.length = 2 ∧ T.length = 2 ∧ 0 ≤ x ∧ x < 2) := by
      have := may_lens hm
      exact ⟨this.1, this.2.1, this.2.2.1, this.2.2.2.1⟩
    have HM : Hid (mayB A T x = true) := hm
    clear HC HB hb HR HB2 hC h1 h2 hO1 hO2 hm
    go_upto_region 2 with fail
    generalize w1.alloc (.cells #[.slice (some ⟨ga, 0, none⟩) 2 c1, .slice (some ⟨gb, 0, none⟩) 2 c2, .int .i64 x] 25) = W at HK ⊢
    obtain ⟨kb, hkb⟩ : ∃ k, k = w1.heap.size := ⟨_, rfl⟩
    rw [← hkb] at HK ⊢
    clear hkb hsz
    cases hw : whB a s with
    | false =>
      have HNo : Hid (kB A T x a s = false) := by unfold kB; rw [Hid, hw, Bool.and_false]
      have R0 := HK.out.res
      have HB3 := HK.out.old
      have hr := HK.out.hr
      clear HK HM HAT
      have cr0 := R0.cell 0 rfl
      have cr1 := R0.cell 1 rfl
      have cr2 := R0.cell 2 rfl
      have fr0 := R0.frozen 0
      have fr1 := R0.frozen 1
      have fr2 := R0.frozen 2
      have R1 := ((R0.set 0 (.slice none 0 0)).set 1 (.slice none 0 0)).set 2 (.int .i64 0)
      have B1 : Below w.heap.size w (((W.setCell ⟨w.heap.size + 1, 0, none⟩ (.slice none 0 0)).setCell ⟨w.heap.size + 1, 1, none⟩ (.slice none 0 0)).setCell ⟨w.heap.size + 1, 2, none⟩ (.int .i64 0)) :=
        ((HB3.setCell (by show w.heap.size ≤ w.heap.size + 1; omega) _).setCell (by show w.heap.size ≤ w.heap.size + 1; omega) _).setCell (by show w.heap.size ≤ w.heap.size + 1; omega) _
      clear R0
      go_wp2_with (go_at_call 23; refine (whole_any a s _ hs).mono ?_; rintro e w' ⟨rfl, rfl⟩; rw [hw])
      generalize (((W.setCell ⟨w.heap.size + 1, 0, none⟩ (.slice none 0 0)).setCell ⟨w.heap.size + 1, 1, none⟩ (.slice none 0 0)).setCell ⟨w.heap.size + 1, 2, none⟩ (.int .i64 0)) = W4 at R1 B1 ⊢
      have d0 := R1.cell 0 rfl
      have d1 := R1.cell 1 rfl
      have d2 := R1.cell 2 rfl
      refine bodyPost_ret (v := .tuple #[.agg #[.slice none 0 0, .slice none 0 0, .int .i64 0], .int .i64 1200]) (by simp [results, Try.results9, go_sem, d0, d1, d2]) rfl ⟨B1, .inr ⟨HNo.out, rfl⟩⟩
    | true =>
      have HYe : Hid (kB A T x a s = true) := by unfold kB; rw [Hid, hw, HM.out]; rfl
      have h16 : s.size ≤ 16 := by
        unfold whB at hw
        simp at hw
        omega
      have HRV : Hid (RV W (.slice (some ⟨ga, 0, none⟩) 2 c1) (ints A)) := HK.out.at'.reads
      have ck0 := HK.out.kept.cell 0 rfl
      obtain ⟨i, hi⟩ : ∃ i, i = ixI A a := ⟨_, rfl⟩
      have HI : Hid (ixI A a = i) := hi.symm
      obtain ⟨k, hk⟩ : ∃ k, k = kN A x a := ⟨_, rfl⟩
      obtain ⟨Y, hY⟩ : ∃ Y, Y = kX A x a := ⟨_, rfl⟩
      have HKN : Hid (k = kN A x a) := hk
      have HKX : Hid (Y = kX A x a) := hY
      obtain ⟨x0, x1⟩ := HAT.out.2.2
      have hcase : (i < 0 ∧ x = (k : Int) ∧ Y = (x + 1) % 2) ∨ (0 ≤ i ∧ i = (k : Int) ∧ Y = x) := by
        rw [hk, hY]
        unfold kN kX
        rw [← hi]
        by_cases hn : i < 0
        · rw [if_pos hn, if_pos hn]; exact .inl ⟨hn, by omega, rfl⟩
        · rw [if_neg hn, if_neg hn]; exact .inr ⟨by omega, by omega, rfl⟩
      have hk2 : k < 2 := by
        rcases hcase with h | h
        · omega
        · have h0 : 0 ≤ ixI A a := by rw [← hi]; exact h.1
          obtain ⟨m, m1, m2, -, -⟩ := ixI_hit h0
          have := HAT.out.1
          omega
      have HCase : Hid ((i < 0 ∧ x = (k : Int) ∧ Y = (x + 1) % 2) ∨ (0 ≤ i ∧ i = (k : Int) ∧ Y = x)) := hcase
      have HX01 : Hid (0 ≤ x ∧ x < 2) := ⟨x0, x1⟩
      clear hi hk hY hcase x0 x1
      go_wp2_with (go_at_call 23; refine (whole_any a s _ hs).mono ?_; rintro e w' ⟨rfl, rfl⟩; rw [hw])
      refine (index_any _ A _ _ HRV.out HF.out.at').mono ?_
      rintro e w2 ⟨rfl, rfl⟩
      rw [HI.out]
      clear HRV ck0 hw
      go_upto_if 30 with fail
      go_cut [10] from 31 (fun v z => Hid (v = .int .i64 (k : Int)) ∧ Hid (Kp w (w.heap.size + 1) kb (.slice (some ⟨ga, 0, none⟩) 2 c1) (.slice (some ⟨gb, 0, none⟩) 2 c2) Y A T z))
      case first => as_aux_lemma =>
        have ck2 := HK.out.kept.cell 2 rfl
        have fk2 := HK.out.kept.frozen 2
        obtain ⟨x0, x1⟩ := HX01.out
        have hw1 : wrap64 (x + 1) = x + 1 := IntWalk.wrap64_in _ (by omega)
        rcases HCase.out with ⟨c1, c2, c3⟩ | ⟨c1, c2, c3⟩
        · have HK2 := HK.out.next Y
          rw [c3] at HK2
          have H1 : Hid (x = (k : Int)) := c2
          have H2 : Hid (Y = (x + 1) % 2) := c3
          clear c2 c3 HK
          go_wp2_with fail
          all_goals go_meet
          case rel => exact ⟨by rw [Hid, H1.out], by rw [Hid, H2.out]; exact HK2⟩
        · have H1 : Hid (i = (k : Int)) := c2
          have H2 : Hid (Y = x) := c3
          clear c2 c3
          go_wp2_with fail
          all_goals go_meet
          case rel => exact ⟨by rw [Hid, H1.out], by rw [Hid, H2.out]; exact HK.out⟩
      case rest =>
        obtain ⟨Hv, HK2⟩ := hcut
        have e10 := Hv.out
        subst e10
        have HO1 := HK2.out.at'
        have HO2 := HK2.out.text
        have HAl : Hid (A.length = 2) := HAT.out.1
        have HTl : Hid (T.length = 2) := HAT.out.2.1
        have hal : (ints A).length = 2 := by rw [List.length_map]; exact HAl.out
        have htl : (txts T).length = 2 := by rw [List.length_map]; exact HTl.out
        clear HK HAT HCase HX01
        go_upto_region 8 with fail
        obtain ⟨W8, hW8⟩ : ∃ y, y = wc := ⟨_, rfl⟩
        subst hW8
        have L0 : W8.drew.cell? ⟨kb, 0, none⟩ = some (.slice (some ⟨ga, 0, none⟩) 2 c1) := HK2.out.kept.cell 0 rfl
        have L1 : W8.drew.cell? ⟨kb, 1, none⟩ = some (.slice (some ⟨gb, 0, none⟩) 2 c2) := HK2.out.kept.cell 1 rfl
        have HD : Hid (Kp w (w.heap.size + 1) kb (.slice (some ⟨ga, 0, none⟩) 2 c1) (.slice (some ⟨gb, 0, none⟩) 2 c2) Y A T W8.drew) := HK2.out.below (Below.refl _ _).drew
        have hk0 : (0 : Int) ≤ k := by omega
        have hki : (k : Int) < 2 := by omega
        clear HO1 HO2 hal htl
        have S0 := kp_two HD.out
        clear L0 L1
        go_region_held3 (fun z => z.cell? ⟨kb, 0, none⟩ = some (.slice (some ⟨ga, 0, none⟩) 2 c1) ∧ z.cell? ⟨kb, 1, none⟩ = some (.slice (some ⟨gb, 0, none⟩) 2 c2)) (first | exact S0 | exact s5 | exact s6 | exact s7 | exact s8 | exact s9)
          (first | (go_at_call 25; refine (clone_any s _ h16).mono ?_; rintro e w5 ⟨rfl, b5⟩; (have K5 := HD.out.below b5); (have s5 := kp_two K5); (obtain ⟨m0, m1, m2, m3⟩ := kp_stores K5 HAl.out HTl.out hk2 a s); (have K6 := K5.setAt HAl.out k a); (have K7 := K5.setText HTl.out k s); (obtain ⟨-, -, m4, m5⟩ := kp_stores K6 (by rw [List.length_set]; exact HAl.out) HTl.out hk2 a s); (obtain ⟨m6, m7, -, -⟩ := kp_stores K7 HAl.out (by rw [List.length_set]; exact HTl.out) hk2 a s); (have K8 := K6.setText HTl.out k s); (have K9 := K7.setAt HAl.out k a); (have s6 := kp_two K6); (have s7 := kp_two K7); (have s8 := kp_two K8); (have s9 := kp_two K9)))
        clear S0 s5 m0 m1 m2 m3 K6 K7 m4 m5 m6 m7 K9 K5 s6 s7 s8 s9 b5 HK2 HD
        obtain ⟨W8, hW8⟩ : ∃ y, y = (w5.setCell ⟨ga, k, none⟩ (.int .i64 a)).setCell ⟨gb, k, none⟩ (.string s) := ⟨_, rfl⟩
        rw [← hW8] at K8 ⊢
        clear hW8
        have ck0 := K8.kept.cell 0 rfl
        have ck1 := K8.kept.cell 1 rfl
        have ck2 := K8.kept.cell 2 rfl
        have R0 := K8.res
        have HB3 := K8.old
        have HFin : Hid (kA A x a = A.set k a ∧ kT A T x a s = T.set k s ∧ kX A x a = Y) := by
          unfold kA kT
          rw [Hid, ← HKN.out, ← HKX.out]
          exact ⟨rfl, rfl, rfl⟩
        have cr0 := R0.cell 0 rfl
        have cr1 := R0.cell 1 rfl
        have cr2 := R0.cell 2 rfl
        have fr0 := R0.frozen 0
        have fr1 := R0.frozen 1
        have fr2 := R0.frozen 2
        have R1 := ((R0.set 0 (.slice (some ⟨ga, 0, none⟩) 2 c1)).set 1 (.slice (some ⟨gb, 0, none⟩) 2 c2)).set 2 (.int .i64 Y)
        have B1 : Below w.heap.size w (((W8.setCell ⟨w.heap.size + 1, 0, none⟩ (.slice (some ⟨ga, 0, none⟩) 2 c1)).setCell ⟨w.heap.size + 1, 1, none⟩ (.slice (some ⟨gb, 0, none⟩) 2 c2)).setCell ⟨w.heap.size + 1, 2, none⟩ (.int .i64 Y)) :=
          ((HB3.setCell (by show w.heap.size ≤ w.heap.size + 1; omega) _).setCell (by show w.heap.size ≤ w.heap.size + 1; omega) _).setCell (by show w.heap.size ≤ w.heap.size + 1; omega) _
        have P1 := K8.at'.apart R0 (by decide)
        have P2 := K8.text.apart R0 (by decide)
        have O1 := (((K8.at'.set_other 0 (.slice (some ⟨ga, 0, none⟩) 2 c1) P1).set_other 1 (.slice (some ⟨gb, 0, none⟩) 2 c2) P1).set_other 2 (.int .i64 Y) P1)
        have O2 := (((K8.text.set_other 0 (.slice (some ⟨ga, 0, none⟩) 2 c1) P2).set_other 1 (.slice (some ⟨gb, 0, none⟩) 2 c2) P2).set_other 2 (.int .i64 Y) P2)
        clear R0 P1 P2 K8
        go_wp2_with fail
        generalize (((W8.setCell ⟨w.heap.size + 1, 0, none⟩ (.slice (some ⟨ga, 0, none⟩) 2 c1)).setCell ⟨w.heap.size + 1, 1, none⟩ (.slice (some ⟨gb, 0, none⟩) 2 c2)).setCell ⟨w.heap.size + 1, 2, none⟩ (.int .i64 Y)) = W4 at R1 B1 O1 O2 ⊢
        have d0 := R1.cell 0 rfl
        have d1 := R1.cell 1 rfl
        have d2 := R1.cell 2 rfl
        refine bodyPost_ret (v := .tuple #[.agg #[.slice (some ⟨ga, 0, none⟩) 2 c1, .slice (some ⟨gb, 0, none⟩) 2 c2, .int .i64 Y], .int .i64 0]) (by simp [results, Try.results9, go_sem, d0, d1, d2]) rfl ⟨B1, .inl ⟨HYe.out, some ⟨ga, 0, none⟩, 2, c1, some ⟨gb, 0, none⟩, 2, c2, Y, rfl, by rw [HFin.out.1, HFin.out.2.1, HFin.out.2.2]; exact ⟨_, _, rfl, O1, O2⟩⟩⟩
end Go.Proofs.Ytbcdfobclliboaa
