/-
  The document's own Keep, by a contract for every cache, place and text. Condition: the cache's lists are no longer than a list that is read may be.
-/
import Derived.Test.YtbcdfobclliboaaNine
import Derived.Deep.RegionLawGrows
namespace Go.Proofs.Ytbcdfobclliboaa
open Go.RowKit Plain
set_option linter.unusedVariables false

theorem kw_below {W z w' : World} (g : z.grownBy w' none) (b : Below W.heap.size W z) : Below W.heap.size W w' := b.grown g b.size fun k hk => by cases hk
theorem kw_own {W z w' : World} {e : Nat} {v : Value} {X I : List Value} (h : w'.ownsRow z.heap.size e 1 v (0 + 2) ([] ++ I)) (hX : X = I) (hl : I.length = 2) (b : Below W.heap.size W z) : OV W.heap.size e w' v X := by
  subst hX
  have h' : OV z.heap.size e w' v X := by
    unfold OV
    rw [hl]
    exact h
  exact h'.mono b.size
theorem kw_carry {B e : Nat} {u z w' : World} {v : Value} {X : List Value} (h : OV B e u v X) (g : z.grownBy w' none) (b : Below u.heap.size u z) : OV B e w' v X :=
  h.below (b.grown g b.size fun k hk => by cases hk) (Nat.le_refl _)
theorem set_b {W z : World} {k i : Nat} {v : Value} (h : Below W.heap.size W z) (hk : W.heap.size ≤ k) : Below W.heap.size W (z.setCell ⟨k, i, none⟩ v) := h.setCell (by exact hk) _
theorem ret_cell_tmp {f : Func} {tmps : Array Value} {w : World} {a b k : Nat} {u v y e : Value} (hf : f.results = #[ResultVar.cell a 25, ResultVar.tmp b]) (ha : tmps[a]?.getD undef = .pointer (some ⟨k, 0, none⟩)) (hb : tmps[b]?.getD undef = e)
    (c0 : w.cell? ⟨k, 0, none⟩ = some u) (c1 : w.cell? ⟨k, 1, none⟩ = some v) (c2 : w.cell? ⟨k, 2, none⟩ = some y) : (results f tmps).run Try.prog w = .ok (.tuple #[.agg #[u, v, y], e]) w := by
  simp [results, hf, ha, hb, go_sem, c0, c1, c2]
theorem blk_g {z w' : World} {b T : Nat} {L : List Value} (h : Blk z b T L) (g : z.grownBy w' none) : Blk w' b T L := h.grown g (by simp)
theorem addr_add (b o j : Nat) : (⟨b, o, none⟩ : Addr).add j = ⟨b, o + j, none⟩ := by
  unfold Addr.add
  split
  · rename_i e; rw [e]; rfl
  · rfl
theorem kp_new {w W z : World} {rb : Nat} {u1 u2 : Value} {x : Int} {A : List Int} {T : List ByteArray} (hb : Below W.heap.size W z) (h0 : Below w.heap.size w W) (hr : Blk W rb 25 [.slice none 0 0, .slice none 0 0, .int .i64 0]) (hrb : w.heap.size ≤ rb) (h1 : OV W.heap.size 3 z u1 (ints A)) (h2 : OV W.heap.size 9 z u2 (txts T)) :
    Kp w rb z.heap.size u1 u2 x A T (z.alloc (.cells #[u1, u2, .int .i64 x] 25)) := by
  have hl := hr.lt
  have hs := hb.size
  have h0s := h0.size
  exact ⟨(hr.below hb).below (below_new _ _), Blk.new _ _ _ _ rfl, (h1.below (below_new _ _) h0s), (h2.below (below_new _ _) h0s), hrb, by omega, by omega, below_then (below_then h0 hb) (below_new _ _)⟩
theorem kp_old {w W z : World} {rb kb : Nat} {u1 u2 : Value} {x : Int} {A : List Int} {T : List ByteArray} (hz : Blk z kb 25 [.slice none 0 0, .slice none 0 0, .int .i64 0]) (hk : W.heap.size ≤ kb) (hb : Below W.heap.size W z) (h0 : Below w.heap.size w W) (hr : Blk W rb 25 [.slice none 0 0, .slice none 0 0, .int .i64 0]) (hrb : w.heap.size ≤ rb) (h1 : OV W.heap.size 3 z u1 (ints A)) (h2 : OV W.heap.size 9 z u2 (txts T)) :
    Kp w rb kb u1 u2 x A T (((z.setCell ⟨kb, 0, none⟩ u1).setCell ⟨kb, 1, none⟩ u2).setCell ⟨kb, 2, none⟩ (.int .i64 x)) := by
  have hl := hr.lt
  have h0s := h0.size
  have p1 := h1.apart hz (by decide)
  have p2 := h2.apart hz (by decide)
  have hle : w.heap.size ≤ kb := by omega
  exact ⟨(((hr.below hb).other _ _ _ (by omega)).other _ _ _ (by omega)).other _ _ _ (by omega), ((hz.set 0 u1).set 1 u2).set 2 (.int .i64 x), (((h1.set_other 0 u1 p1).set_other 1 u2 p1).set_other 2 _ p1).mono h0s, (((h2.set_other 0 u1 p2).set_other 1 u2 p2).set_other 2 _ p2).mono h0s, hrb, hle, by omega,
    (((below_then h0 hb).setCell (by exact hle) _).setCell (by exact hle) _).setCell (by exact hle) _⟩

set_option maxRecDepth 100000 in
set_option maxHeartbeats 8000000 in
theorem refKeep_any (c : Value) (A : List Int) (T : List ByteArray) (x a : Int) (s : ByteArray) (w : World) (h : CR w c A T x) (hf : Fit A T) (hs : s.size ≤ maxLen) :
    Calls Try.prog 10 #[c, .int .i64 a, .string s] w (KeptE w A T x a s) := by
  obtain ⟨q1, n1, p1, q2, n2, p2, rfl, h1, h2, HC0⟩ := h.boxed
  have HF : Hid (Fit A T) := hf
  have HC : Hid (CR ((w.alloc (.cells #[.slice q1 n1 p1, .slice q2 n2 p2, .int .i64 x] 25)).alloc (.cells #[.slice none 0 0, .slice none 0 0, .int .i64 0] 25)) (.agg #[.slice q1 n1 p1, .slice q2 n2 p2, .int .i64 x]) A T x) := HC0.out.below (below_new _ _)
  have HX : Hid (Blk ((w.alloc (.cells #[.slice q1 n1 p1, .slice q2 n2 p2, .int .i64 x] 25)).alloc (.cells #[.slice none 0 0, .slice none 0 0, .int .i64 0] 25)) w.heap.size 25 [.slice q1 n1 p1, .slice q2 n2 p2, .int .i64 x]) := (Blk.new w 25 _ _ rfl).alloc _
  have HR : Hid (Blk ((w.alloc (.cells #[.slice q1 n1 p1, .slice q2 n2 p2, .int .i64 x] 25)).alloc (.cells #[.slice none 0 0, .slice none 0 0, .int .i64 0] 25)) (w.heap.size + 1) 25 [.slice none 0 0, .slice none 0 0, .int .i64 0]) := Blk.at_ rfl (by simp)
  have HB : Hid (Below w.heap.size w ((w.alloc (.cells #[.slice q1 n1 p1, .slice q2 n2 p2, .int .i64 x] 25)).alloc (.cells #[.slice none 0 0, .slice none 0 0, .int .i64 0] 25))) := below_then (below_new _ _) (below_new _ _)
  clear h hf h1 h2 HC0
  go_enter Try.func10, Try.ntmps10
  go_wp2_with fail
  refine (refMay_any _ A T x _ HC.out HF.out).mono ?_
  rintro e w1 ⟨rfl, hb⟩
  have HB3 : Hid (Below w.heap.size w w1) := below_then HB.out hb
  have HX3 : Hid (Blk w1 w.heap.size 25 [.slice q1 n1 p1, .slice q2 n2 p2, .int .i64 x]) := HX.out.below hb
  have R0 : Blk w1 (w.heap.size + 1) 25 [.slice none 0 0, .slice none 0 0, .int .i64 0] := HR.out.below hb
  have HC3 : Hid (CR w1 (.agg #[.slice q1 n1 p1, .slice q2 n2 p2, .int .i64 x]) A T x) := HC.out.below hb
  clear HC HX HR HB hb
  cases hm : mayB A T x with
  | false =>
    have HNo : Hid (kB A T x a s = false) := by unfold kB; rw [Hid, hm]; rfl
    clear HX3 HC3
    have cr0 := R0.cell 0 rfl
    have cr1 := R0.cell 1 rfl
    have cr2 := R0.cell 2 rfl
    have fr0 := R0.frozen 0
    have fr1 := R0.frozen 1
    have fr2 := R0.frozen 2
    have R1 := ((R0.set 0 (.slice none 0 0)).set 1 (.slice none 0 0)).set 2 (.int .i64 0)
    have B1 : Below w.heap.size w (((w1.setCell ⟨w.heap.size + 1, 0, none⟩ (.slice none 0 0)).setCell ⟨w.heap.size + 1, 1, none⟩ (.slice none 0 0)).setCell ⟨w.heap.size + 1, 2, none⟩ (.int .i64 0)) :=
      ((HB3.out.setCell (by show w.heap.size ≤ w.heap.size + 1; omega) _).setCell (by show w.heap.size ≤ w.heap.size + 1; omega) _).setCell (by show w.heap.size ≤ w.heap.size + 1; omega) _
    clear R0
    go_wp2_with fail
    generalize (((w1.setCell ⟨w.heap.size + 1, 0, none⟩ (.slice none 0 0)).setCell ⟨w.heap.size + 1, 1, none⟩ (.slice none 0 0)).setCell ⟨w.heap.size + 1, 2, none⟩ (.int .i64 0)) = W4 at R1 B1 ⊢
    have d0 := R1.cell 0 rfl
    have d1 := R1.cell 1 rfl
    have d2 := R1.cell 2 rfl
    refine bodyPost_ret (v := .tuple #[.agg #[.slice none 0 0, .slice none 0 0, .int .i64 0], .int .i64 1200]) (by simp [results, Try.results10, go_sem, d0, d1, d2]) rfl ⟨B1, .inr ⟨HNo.out, rfl⟩⟩
  | true =>
    have HM : Hid (mayB A T x = true) := hm
    cases ha : atB a with
    | false =>
      have HNo : Hid (kB A T x a s = false) := by unfold kB whB; rw [Hid, ha]; simp
      clear HX3 HC3
      have cr0 := R0.cell 0 rfl
      have cr1 := R0.cell 1 rfl
      have cr2 := R0.cell 2 rfl
      have fr0 := R0.frozen 0
      have fr1 := R0.frozen 1
      have fr2 := R0.frozen 2
      have R1 := ((R0.set 0 (.slice none 0 0)).set 1 (.slice none 0 0)).set 2 (.int .i64 0)
      have B1 : Below w.heap.size w (((w1.setCell ⟨w.heap.size + 1, 0, none⟩ (.slice none 0 0)).setCell ⟨w.heap.size + 1, 1, none⟩ (.slice none 0 0)).setCell ⟨w.heap.size + 1, 2, none⟩ (.int .i64 0)) :=
        ((HB3.out.setCell (by show w.heap.size ≤ w.heap.size + 1; omega) _).setCell (by show w.heap.size ≤ w.heap.size + 1; omega) _).setCell (by show w.heap.size ≤ w.heap.size + 1; omega) _
      clear R0
      go_wp2_with (go_at_call 26; refine (lineAt_any a _).mono ?_; rintro e w' ⟨rfl, rfl⟩; rw [ha])
      generalize (((w1.setCell ⟨w.heap.size + 1, 0, none⟩ (.slice none 0 0)).setCell ⟨w.heap.size + 1, 1, none⟩ (.slice none 0 0)).setCell ⟨w.heap.size + 1, 2, none⟩ (.int .i64 0)) = W4 at R1 B1 ⊢
      have d0 := R1.cell 0 rfl
      have d1 := R1.cell 1 rfl
      have d2 := R1.cell 2 rfl
      refine bodyPost_ret (v := .tuple #[.agg #[.slice none 0 0, .slice none 0 0, .int .i64 0], .int .i64 1200]) (by simp [results, Try.results10, go_sem, d0, d1, d2]) rfl ⟨B1, .inr ⟨HNo.out, rfl⟩⟩
    | true =>
      by_cases h16 : s.size = 16
      · have e1 : ((s.size : Int) != 16) = false := by simp [h16]
        have HYe : Hid (kB A T x a s = true) := by unfold kB whB; rw [Hid, hm, ha, h16]; rfl
        have HL : Hid (A.length = 2 ∧ T.length = 2 ∧ 0 ≤ x ∧ x < 2) := ⟨(may_lens hm).1, (may_lens hm).2.1, (may_lens hm).2.2.1, (may_lens hm).2.2.2.1⟩
        obtain ⟨ga, oa, c1, gb, ob, c2, heq, hca, hcb⟩ := HC3.out.two HL.out.1 HL.out.2.1
        simp at heq
        obtain ⟨⟨rfl, rfl, rfl⟩, ⟨rfl, rfl, rfl⟩⟩ := heq
        have HR3 : Hid (Blk w1 (w.heap.size + 1) 25 [.slice none 0 0, .slice none 0 0, .int .i64 0]) := R0
        have HCA : Hid (∀ j, j < 2 → w1.cell? ⟨ga, oa + j, none⟩ = some (.int .i64 (A.getD j 0))) := hca
        have HCT : Hid (∀ j, j < 2 → w1.cell? ⟨gb, ob + j, none⟩ = some (.string (T.getD j ByteArray.empty))) := hcb
        obtain ⟨x0, x1, x2⟩ : w1.cell? ⟨w.heap.size, 0, none⟩ = some (.slice (some ⟨ga, oa, none⟩) 2 _) ∧ w1.cell? ⟨w.heap.size, 1, none⟩ = some (.slice (some ⟨gb, ob, none⟩) 2 _) ∧ w1.cell? ⟨w.heap.size, 2, none⟩ = some (.int .i64 x) := ⟨HX3.out.cell 0 rfl, HX3.out.cell 1 rfl, HX3.out.cell 2 rfl⟩
        clear R0 hca hcb hm
        go_upto_region 3 with (go_at_call 26; refine (lineAt_any a _).mono ?_; rintro e w' ⟨rfl, rfl⟩; rw [ha])
        obtain ⟨W, hW⟩ : ∃ W, W = w1 := ⟨_, rfl⟩
        subst hW
        go_cut [8] from 25 (fun v z => Hid (∃ kb u1 m1 t1 u2 m2 t2, v = .pointer (some ⟨kb, 0, none⟩) ∧ Kp w (w.heap.size + 1) kb (.slice u1 m1 t1) (.slice u2 m2 t2) x A T z ∧ Below W.heap.size W z))
        case first => as_aux_lemma =>
          obtain ⟨i3, hi3, h30, h31, h32⟩ := info_parts info3
          obtain ⟨i9, hi9, h90, h91, h92⟩ := info_parts info9
          obtain ⟨I, HI⟩ : ∃ I, Hid (ints A = I) := ⟨_, rfl⟩
          obtain ⟨J, HJ⟩ : ∃ J, Hid (txts T = J) := ⟨_, rfl⟩
          have hil : Hid (I.length = 2) := by rw [Hid, ← HI.out, List.length_map]; exact HL.out.1
          have hjl : Hid (J.length = 2) := by rw [Hid, ← HJ.out, List.length_map]; exact HL.out.2.1
          have hone : Hid (∀ u ∈ I, u.oneCell' = true) := by rw [Hid, ← HI.out]; exact ints_one A
          have htone : Hid (∀ u ∈ J, u.oneCell' = true) := by rw [Hid, ← HJ.out]; exact txts_one T
          have NA : Hid (∀ z, Below W.heap.size W z → ∀ j u, I[j]? = some u → z.cell? ((⟨ga, oa, none⟩ : Addr).add j) = some u) := fun z hz j u hu => by
            have hj : j < 2 := by
              rcases Nat.lt_or_ge j I.length with h | h
              · rw [hil.out] at h; exact h
              · rw [List.getElem?_eq_none h] at hu; cases hu
            rw [← HI.out, ints_at (by rw [HL.out.1]; exact hj)] at hu
            have hh := HCA.out j hj
            rw [addr_add, hz.cell (by exact cell_lt hh), hh, hu]
          have NT : Hid (∀ z, Below W.heap.size W z → ∀ j u, J[j]? = some u → z.cell? ((⟨gb, ob, none⟩ : Addr).add j) = some u) := fun z hz j u hu => by
            have hj : j < 2 := by
              rcases Nat.lt_or_ge j J.length with h | h
              · rw [hjl.out] at h; exact h
              · rw [List.getElem?_eq_none h] at hu; cases hu
            rw [← HJ.out, txts_at (by rw [HL.out.2.1]; exact hj)] at hu
            have hh := HCT.out j hj
            rw [addr_add, hz.cell (by exact cell_lt hh), hh, hu]
          have HSB : Hid (∀ z, Below W.heap.size W z → z.cell? ⟨w.heap.size, 0, none⟩ = some (.slice (some ⟨ga, oa, none⟩) 2 p1) ∧ z.cell? ⟨w.heap.size, 1, none⟩ = some (.slice (some ⟨gb, ob, none⟩) 2 p2) ∧ z.cell? ⟨w.heap.size, 2, none⟩ = some (.int .i64 x)) := fun z hz =>
            ⟨(HX3.out.below hz).cell 0 rfl, (HX3.out.below hz).cell 1 rfl, (HX3.out.below hz).cell 2 rfl⟩
          have hle : w.heap.size ≤ w.heap.size + 1 := by omega
          clear x0 x1 x2 e1
          have FZ1 : Blk ((W.alloc (.cells #[.slice none 0 0, .slice none 0 0, .int .i64 0] 25)).alloc (.cells #[] 3)).drew (W.heap.size) 25 [.slice none 0 0, .slice none 0 0, .int .i64 0] := ((Blk.at_ (w := W) (b := W.heap.size) (T := 25) (L := [.slice none 0 0, .slice none 0 0, .int .i64 0]) rfl (by simp)).alloc (.cells #[] 3)).drew
          have F1Z : Blk ((W.alloc (.cells #[] 3)).alloc (.cells #[.slice none 0 0, .slice none 0 0, .int .i64 0] 25)).drew (W.heap.size + 1) 25 [.slice none 0 0, .slice none 0 0, .int .i64 0] := (Blk.at_ (w := (W.alloc (.cells #[] 3))) (b := W.heap.size + 1) (T := 25) (L := [.slice none 0 0, .slice none 0 0, .int .i64 0]) rfl (by simp)).drew
          have FZ2 : Blk ((W.alloc (.cells #[.slice none 0 0, .slice none 0 0, .int .i64 0] 25)).alloc (.cells #[] 9)).drew (W.heap.size) 25 [.slice none 0 0, .slice none 0 0, .int .i64 0] := ((Blk.at_ (w := W) (b := W.heap.size) (T := 25) (L := [.slice none 0 0, .slice none 0 0, .int .i64 0]) rfl (by simp)).alloc (.cells #[] 9)).drew
          have F2Z : Blk ((W.alloc (.cells #[] 9)).alloc (.cells #[.slice none 0 0, .slice none 0 0, .int .i64 0] 25)).drew (W.heap.size + 1) 25 [.slice none 0 0, .slice none 0 0, .int .i64 0] := (Blk.at_ (w := (W.alloc (.cells #[] 9))) (b := W.heap.size + 1) (T := 25) (L := [.slice none 0 0, .slice none 0 0, .int .i64 0]) rfl (by simp)).drew
          have FZ12 : Blk (((W.alloc (.cells #[.slice none 0 0, .slice none 0 0, .int .i64 0] 25)).alloc (.cells #[] 3)).alloc (.cells #[] 9)).drew (W.heap.size) 25 [.slice none 0 0, .slice none 0 0, .int .i64 0] := (((Blk.at_ (w := W) (b := W.heap.size) (T := 25) (L := [.slice none 0 0, .slice none 0 0, .int .i64 0]) rfl (by simp)).alloc (.cells #[] 3)).alloc (.cells #[] 9)).drew
          have FZ21 : Blk (((W.alloc (.cells #[.slice none 0 0, .slice none 0 0, .int .i64 0] 25)).alloc (.cells #[] 9)).alloc (.cells #[] 3)).drew (W.heap.size) 25 [.slice none 0 0, .slice none 0 0, .int .i64 0] := (((Blk.at_ (w := W) (b := W.heap.size) (T := 25) (L := [.slice none 0 0, .slice none 0 0, .int .i64 0]) rfl (by simp)).alloc (.cells #[] 9)).alloc (.cells #[] 3)).drew
          have F1Z2 : Blk (((W.alloc (.cells #[] 3)).alloc (.cells #[.slice none 0 0, .slice none 0 0, .int .i64 0] 25)).alloc (.cells #[] 9)).drew (W.heap.size + 1) 25 [.slice none 0 0, .slice none 0 0, .int .i64 0] := ((Blk.at_ (w := (W.alloc (.cells #[] 3))) (b := W.heap.size + 1) (T := 25) (L := [.slice none 0 0, .slice none 0 0, .int .i64 0]) rfl (by simp)).alloc (.cells #[] 9)).drew
          have F12Z : Blk (((W.alloc (.cells #[] 3)).alloc (.cells #[] 9)).alloc (.cells #[.slice none 0 0, .slice none 0 0, .int .i64 0] 25)).drew (W.heap.size + 1 + 1) 25 [.slice none 0 0, .slice none 0 0, .int .i64 0] := (Blk.at_ (w := ((W.alloc (.cells #[] 3)).alloc (.cells #[] 9))) (b := W.heap.size + 1 + 1) (T := 25) (L := [.slice none 0 0, .slice none 0 0, .int .i64 0]) rfl (by simp)).drew
          have F2Z1 : Blk (((W.alloc (.cells #[] 9)).alloc (.cells #[.slice none 0 0, .slice none 0 0, .int .i64 0] 25)).alloc (.cells #[] 3)).drew (W.heap.size + 1) 25 [.slice none 0 0, .slice none 0 0, .int .i64 0] := ((Blk.at_ (w := (W.alloc (.cells #[] 9))) (b := W.heap.size + 1) (T := 25) (L := [.slice none 0 0, .slice none 0 0, .int .i64 0]) rfl (by simp)).alloc (.cells #[] 3)).drew
          have F21Z : Blk (((W.alloc (.cells #[] 9)).alloc (.cells #[] 3)).alloc (.cells #[.slice none 0 0, .slice none 0 0, .int .i64 0] 25)).drew (W.heap.size + 1 + 1) 25 [.slice none 0 0, .slice none 0 0, .int .i64 0] := (Blk.at_ (w := ((W.alloc (.cells #[] 9)).alloc (.cells #[] 3))) (b := W.heap.size + 1 + 1) (T := 25) (L := [.slice none 0 0, .slice none 0 0, .int .i64 0]) rfl (by simp)).drew
          go_region_held3 (fun z => z.cell? ⟨w.heap.size, 0, none⟩ = some (.slice (some ⟨ga, oa, none⟩) 2 p1) ∧ z.cell? ⟨w.heap.size, 1, none⟩ = some (.slice (some ⟨gb, ob, none⟩) 2 p2) ∧ z.cell? ⟨w.heap.size, 2, none⟩ = some (.int .i64 x)) ((refine HSB.out _ ?_; repeat (first | with_reducible exact Below.refl _ _ | with_reducible exact B1 | with_reducible exact B2 | with_reducible refine Below.drew ?_ | with_reducible refine below_then ?_ (below_new _ _) | with_reducible refine set_b ?_ (by omega))))
            (first | (refine step_append_grows rfl (.tmp 25) (.tmp 27) 22 rfl 3 i3 (.int .i64 0) 1 8 Try.underlying22 hi3 h30 h31 h32 rfl (by decide) _ 0 0 [] rfl (fun h => by simp at h) rfl (fun b hb j u hu => by simp at hu) ⟨ga, oa, none⟩ 2 p1 I (by simp [Act.eval]) hil.out (by refine NA.out _ ?_; repeat (first | with_reducible exact Below.refl _ _ | with_reducible exact B1 | with_reducible exact B2 | with_reducible refine Below.drew ?_ | with_reducible refine below_then ?_ (below_new _ _) | with_reducible refine set_b ?_ (by omega))) hone.out (by decide) (by unfold maxLen; omega) (by omega) ?_; intro v10 w1 h10 g1; (obtain ⟨kv1, cv1, rv1, lv1, mv1⟩ := World.ownsRow.form h10 (by omega)); (subst rv1); (have B1 : Below W.heap.size W w1 := by refine kw_below g1 ?_; repeat (first | with_reducible exact Below.refl _ _ | with_reducible exact B1 | with_reducible exact B2 | with_reducible refine Below.drew ?_ | with_reducible refine below_then ?_ (below_new _ _) | with_reducible refine set_b ?_ (by omega))); (have N1 := B1.size); (have O1 : OV W.heap.size 3 w1 (.slice (some ⟨kv1, 0, none⟩) 2 cv1) (ints A) := by refine kw_own h10 HI.out hil.out ?_; repeat (first | with_reducible exact Below.refl _ _ | with_reducible exact B1 | with_reducible exact B2 | with_reducible refine Below.drew ?_ | with_reducible refine below_then ?_ (below_new _ _) | with_reducible refine set_b ?_ (by omega))); (try (first | (with_reducible have P2 := kw_carry O2 g1 Cw2r) | (with_reducible have P2 := kw_carry O2 g1 Cw21) | (with_reducible have P2 := kw_carry O2 g1 Cw2Z) | (with_reducible have P2 := kw_carry O2 g1 Cw21Z) | (with_reducible have P2 := kw_carry O2 g1 Cw2Z1))); (have Cw1r : Below w1.heap.size w1 w1 := Below.refl _ _); (have Cw12 : Below w1.heap.size w1 (w1.alloc (.cells #[] 9)) := (below_then Cw1r (below_new w1 (.cells #[] 9)))); (have Cw1Z : Below w1.heap.size w1 (w1.alloc (.cells #[.slice none 0 0, .slice none 0 0, .int .i64 0] 25)) := (below_then Cw1r (below_new w1 (.cells #[.slice none 0 0, .slice none 0 0, .int .i64 0] 25)))); (have Cw12Z : Below w1.heap.size w1 ((w1.alloc (.cells #[] 9)).alloc (.cells #[.slice none 0 0, .slice none 0 0, .int .i64 0] 25)) := (below_then (below_then Cw1r (below_new w1 (.cells #[] 9))) (below_new (w1.alloc (.cells #[] 9)) (.cells #[.slice none 0 0, .slice none 0 0, .int .i64 0] 25)))); (have Cw1Z2 : Below w1.heap.size w1 ((w1.alloc (.cells #[.slice none 0 0, .slice none 0 0, .int .i64 0] 25)).alloc (.cells #[] 9)) := (below_then (below_then Cw1r (below_new w1 (.cells #[.slice none 0 0, .slice none 0 0, .int .i64 0] 25))) (below_new (w1.alloc (.cells #[.slice none 0 0, .slice none 0 0, .int .i64 0] 25)) (.cells #[] 9)))); (try (first | (with_reducible have Z1 := blk_g FZ1 g1) | (with_reducible have Z1 := blk_g F1Z g1) | (with_reducible have Z1 := blk_g FZ12 g1) | (with_reducible have Z1 := blk_g FZ21 g1) | (with_reducible have Z1 := blk_g F1Z2 g1) | (with_reducible have Z1 := blk_g F12Z g1) | (with_reducible have Z1 := blk_g F2Z1 g1) | (with_reducible have Z1 := blk_g F21Z g1) | (with_reducible have Z1 := blk_g Z2 g1) | (with_reducible have Z1 := blk_g (Z2.alloc (.cells #[] 3)) g1) | (with_reducible have Z1 := blk_g Gw2Z g1) | (with_reducible have Z1 := blk_g Gw21Z g1) | (with_reducible have Z1 := blk_g Gw2Z1 g1))); (have Gw1Z : Blk (w1.alloc (.cells #[.slice none 0 0, .slice none 0 0, .int .i64 0] 25)) (w1.heap.size) 25 [.slice none 0 0, .slice none 0 0, .int .i64 0] := (Blk.at_ (w := w1) (b := w1.heap.size) (T := 25) (L := [.slice none 0 0, .slice none 0 0, .int .i64 0]) rfl (by simp))); (have Gw12Z : Blk ((w1.alloc (.cells #[] 9)).alloc (.cells #[.slice none 0 0, .slice none 0 0, .int .i64 0] 25)) (w1.heap.size + 1) 25 [.slice none 0 0, .slice none 0 0, .int .i64 0] := (Blk.at_ (w := (w1.alloc (.cells #[] 9))) (b := w1.heap.size + 1) (T := 25) (L := [.slice none 0 0, .slice none 0 0, .int .i64 0]) rfl (by simp))); (have Gw1Z2 : Blk ((w1.alloc (.cells #[.slice none 0 0, .slice none 0 0, .int .i64 0] 25)).alloc (.cells #[] 9)) (w1.heap.size) 25 [.slice none 0 0, .slice none 0 0, .int .i64 0] := ((Blk.at_ (w := w1) (b := w1.heap.size) (T := 25) (L := [.slice none 0 0, .slice none 0 0, .int .i64 0]) rfl (by simp)).alloc (.cells #[] 9))); (try have Z1cell0 := Z1.cell 0 rfl); (try have Z1cell1 := Z1.cell 1 rfl); (try have Z1cell2 := Z1.cell 2 rfl); (try have Z1frozen0 := Z1.frozen 0); (try have Z1frozen1 := Z1.frozen 1); (try have Z1frozen2 := Z1.frozen 2)) | (refine step_append_grows rfl (.tmp 29) (.tmp 31) 23 rfl 9 i9 (.string ByteArray.empty) 1 16 Try.underlying23 hi9 h90 h91 h92 rfl (by decide) _ 0 0 [] rfl (fun h => by simp at h) rfl (fun b hb j u hu => by simp at hu) ⟨gb, ob, none⟩ 2 p2 J (by simp [Act.eval]) hjl.out (by refine NT.out _ ?_; repeat (first | with_reducible exact Below.refl _ _ | with_reducible exact B1 | with_reducible exact B2 | with_reducible refine Below.drew ?_ | with_reducible refine below_then ?_ (below_new _ _) | with_reducible refine set_b ?_ (by omega))) htone.out (by decide) (by unfold maxLen; omega) (by omega) ?_; intro v20 w2 h20 g2; (obtain ⟨kv2, cv2, rv2, lv2, mv2⟩ := World.ownsRow.form h20 (by omega)); (subst rv2); (have B2 : Below W.heap.size W w2 := by refine kw_below g2 ?_; repeat (first | with_reducible exact Below.refl _ _ | with_reducible exact B1 | with_reducible exact B2 | with_reducible refine Below.drew ?_ | with_reducible refine below_then ?_ (below_new _ _) | with_reducible refine set_b ?_ (by omega))); (have N2 := B2.size); (have O2 : OV W.heap.size 9 w2 (.slice (some ⟨kv2, 0, none⟩) 2 cv2) (txts T) := by refine kw_own h20 HJ.out hjl.out ?_; repeat (first | with_reducible exact Below.refl _ _ | with_reducible exact B1 | with_reducible exact B2 | with_reducible refine Below.drew ?_ | with_reducible refine below_then ?_ (below_new _ _) | with_reducible refine set_b ?_ (by omega))); (try (first | (with_reducible have P1 := kw_carry O1 g2 Cw1r) | (with_reducible have P1 := kw_carry O1 g2 Cw12) | (with_reducible have P1 := kw_carry O1 g2 Cw1Z) | (with_reducible have P1 := kw_carry O1 g2 Cw12Z) | (with_reducible have P1 := kw_carry O1 g2 Cw1Z2))); (have Cw2r : Below w2.heap.size w2 w2 := Below.refl _ _); (have Cw21 : Below w2.heap.size w2 (w2.alloc (.cells #[] 3)) := (below_then Cw2r (below_new w2 (.cells #[] 3)))); (have Cw2Z : Below w2.heap.size w2 (w2.alloc (.cells #[.slice none 0 0, .slice none 0 0, .int .i64 0] 25)) := (below_then Cw2r (below_new w2 (.cells #[.slice none 0 0, .slice none 0 0, .int .i64 0] 25)))); (have Cw21Z : Below w2.heap.size w2 ((w2.alloc (.cells #[] 3)).alloc (.cells #[.slice none 0 0, .slice none 0 0, .int .i64 0] 25)) := (below_then (below_then Cw2r (below_new w2 (.cells #[] 3))) (below_new (w2.alloc (.cells #[] 3)) (.cells #[.slice none 0 0, .slice none 0 0, .int .i64 0] 25)))); (have Cw2Z1 : Below w2.heap.size w2 ((w2.alloc (.cells #[.slice none 0 0, .slice none 0 0, .int .i64 0] 25)).alloc (.cells #[] 3)) := (below_then (below_then Cw2r (below_new w2 (.cells #[.slice none 0 0, .slice none 0 0, .int .i64 0] 25))) (below_new (w2.alloc (.cells #[.slice none 0 0, .slice none 0 0, .int .i64 0] 25)) (.cells #[] 3)))); (try (first | (with_reducible have Z2 := blk_g FZ2 g2) | (with_reducible have Z2 := blk_g F2Z g2) | (with_reducible have Z2 := blk_g FZ12 g2) | (with_reducible have Z2 := blk_g FZ21 g2) | (with_reducible have Z2 := blk_g F1Z2 g2) | (with_reducible have Z2 := blk_g F12Z g2) | (with_reducible have Z2 := blk_g F2Z1 g2) | (with_reducible have Z2 := blk_g F21Z g2) | (with_reducible have Z2 := blk_g Z1 g2) | (with_reducible have Z2 := blk_g (Z1.alloc (.cells #[] 9)) g2) | (with_reducible have Z2 := blk_g Gw1Z g2) | (with_reducible have Z2 := blk_g Gw12Z g2) | (with_reducible have Z2 := blk_g Gw1Z2 g2))); (have Gw2Z : Blk (w2.alloc (.cells #[.slice none 0 0, .slice none 0 0, .int .i64 0] 25)) (w2.heap.size) 25 [.slice none 0 0, .slice none 0 0, .int .i64 0] := (Blk.at_ (w := w2) (b := w2.heap.size) (T := 25) (L := [.slice none 0 0, .slice none 0 0, .int .i64 0]) rfl (by simp))); (have Gw21Z : Blk ((w2.alloc (.cells #[] 3)).alloc (.cells #[.slice none 0 0, .slice none 0 0, .int .i64 0] 25)) (w2.heap.size + 1) 25 [.slice none 0 0, .slice none 0 0, .int .i64 0] := (Blk.at_ (w := (w2.alloc (.cells #[] 3))) (b := w2.heap.size + 1) (T := 25) (L := [.slice none 0 0, .slice none 0 0, .int .i64 0]) rfl (by simp))); (have Gw2Z1 : Blk ((w2.alloc (.cells #[.slice none 0 0, .slice none 0 0, .int .i64 0] 25)).alloc (.cells #[] 3)) (w2.heap.size) 25 [.slice none 0 0, .slice none 0 0, .int .i64 0] := ((Blk.at_ (w := w2) (b := w2.heap.size) (T := 25) (L := [.slice none 0 0, .slice none 0 0, .int .i64 0]) rfl (by simp)).alloc (.cells #[] 3))); (try have Z2cell0 := Z2.cell 0 rfl); (try have Z2cell1 := Z2.cell 1 rfl); (try have Z2cell2 := Z2.cell 2 rfl); (try have Z2frozen0 := Z2.frozen 0); (try have Z2frozen1 := Z2.frozen 1); (try have Z2frozen2 := Z2.frozen 2)))
          all_goals go_wp2_with fail
          all_goals go_meet
          all_goals first
            | exact ⟨_, _, _, _, _, _, _, rfl, kp_new B2 HB3.out HR3.out hle P1 O2, below_then B2 (below_new _ _)⟩
            | exact ⟨_, _, _, _, _, _, _, rfl, kp_new B1 HB3.out HR3.out hle O1 P2, below_then B1 (below_new _ _)⟩
            | exact ⟨_, _, _, _, _, _, _, rfl, kp_old Z2 (by omega) B2 HB3.out HR3.out hle P1 O2, set_b (set_b (set_b B2 (by omega)) (by omega)) (by omega)⟩
            | exact ⟨_, _, _, _, _, _, _, rfl, kp_old Z1 (by omega) B1 HB3.out HR3.out hle O1 P2, set_b (set_b (set_b B1 (by omega)) (by omega)) (by omega)⟩
        case rest =>
          obtain ⟨kb, u1, m1, t1, u2, m2, t2, hv, hK, hb⟩ := hcut.out
          subst hv
          obtain ⟨g1, cap1, hs1, -, -⟩ := World.ownsRow.form (ov_row hK.at' rfl (show (ints A).length = 2 by rw [List.length_map]; exact HL.out.1)) (by omega)
          obtain ⟨g2, cap2, hs2, -, -⟩ := World.ownsRow.form (ov_row hK.text rfl (show (txts T).length = 2 by rw [List.length_map]; exact HL.out.2.1)) (by omega)
          simp at hs1 hs2
          obtain ⟨rfl, rfl, rfl⟩ := hs1
          obtain ⟨rfl, rfl, rfl⟩ := hs2
          have HK : Hid (Kp w (w.heap.size + 1) kb (.slice (some ⟨g1, 0, none⟩) 2 t1) (.slice (some ⟨g2, 0, none⟩) 2 t2) x A T wc) := hK
          obtain ⟨y0, hy0⟩ : ∃ y, y = A.getD 0 0 := ⟨_, rfl⟩
          obtain ⟨y1, hy1⟩ : ∃ y, y = A.getD 1 0 := ⟨_, rfl⟩
          have HAe : Hid (A = [y0, y1]) := by
            have h2 := HL.out.1
            rw [Hid, hy0, hy1]
            match A, h2 with
            | [p, q], _ => rfl
          have c0 : wc.cell? ⟨ga, oa, none⟩ = some (.int .i64 y0) := by
            have h := HCA.out 0 (by omega)
            rw [Nat.add_zero] at h
            rw [hy0, ← h]
            exact hb.cell (by exact cell_lt h)
          have c1 : wc.cell? ⟨ga, oa + 1, none⟩ = some (.int .i64 y1) := by
            have h := HCA.out 1 (by omega)
            rw [hy1, ← h]
            exact hb.cell (by exact cell_lt h)
          have b0 := (HX3.out.below hb).cell 0 rfl
          have b2 := (HX3.out.below hb).cell 2 rfl
          have HX4 : Hid (Blk wc w.heap.size 25 [.slice (some ⟨ga, oa, none⟩) 2 p1, .slice (some ⟨gb, ob, none⟩) 2 p2, .int .i64 x]) := HX3.out.below hb
          have Hne : Hid (y0 = a → y1 ≠ a) := fun h0 h1 => by
            have hm := may_lens HM.out
            have hl := li_cases hm.2.2.2.2.2
            rw [HAe.out] at hl
            have ha0 : 0 ≤ a := by
              unfold atB at ha
              simp at ha
              exact ha.1
            rcases hl with ⟨h, -⟩ | ⟨-, -, -, -, h⟩
            · have h' : y1 = -1 := h
              omega
            · have h' : y1 ∉ [y0] := h
              simp at h'
              omega
          have HT2 : Hid (T.length = 2) := HL.out.2.1
          have HXr : Hid (0 ≤ x ∧ x < 2) := HL.out.2.2
          clear hcut hK hb hy0 hy1 x0 x1 x2 HCA HCT HX3 HC3 HR3 HB3 hs
          by_cases h1 : y1 = a
          · have h0 : y0 ≠ a := fun h => Hne.out h h1
            have e0 : (y0 == a) = false := by simpa using h0
            have e1 : (y1 == a) = true := by simpa using h1
            have HKN : Hid (kN A x a = 1 ∧ kX A x a = x) := by
              rw [Hid, HAe.out]
              unfold kN kX
              rw [ixI_two, if_neg h0, if_pos h1]
              exact ⟨rfl, rfl⟩
            clear h0 h1
            as_aux_lemma =>
              go_wp2_with fail
              refine wp_loop_rounds 3 ?_
              rw [rounds_succ]
              go_wp2_with fail
              rw [rounds_succ]
              go_wp2_with fail
              rw [rounds_succ]
              go_upto_region 10 with fail
              have k0 := HK.out.kept.cell 0 rfl
              obtain ⟨s0, s1, s2, s3⟩ := kp_stores HK.out (by rw [HAe.out]; rfl) HT2.out (k := 1) (by omega) a s
              rw [show A.getD 1 0 = y1 by rw [HAe.out]; rfl] at s0
              have n0 : (y1 != a) = false := by rw [bne, e1]; rfl
              clear e0 e1 c0 c1
              go_upto_region 12 with fail
              have HK1 := HK
              clear k0 s0 s1 s2 s3 n0 b0 b2
              have k0 := HK1.out.kept.cell 0 rfl
              obtain ⟨s0, s1, s2, s3⟩ := kp_stores HK1.out (by rw [HAe.out]; rfl) HT2.out (k := 1) (by omega) a s
              have HK2 : Hid (Kp w (w.heap.size + 1) kb (.slice (some ⟨g1, 0, none⟩) 2 t1) (.slice (some ⟨g2, 0, none⟩) 2 t2) x (A.set 1 a) T (wc.setCell ⟨g1, 1, none⟩ (.int .i64 a))) := HK1.out.setAt (by rw [HAe.out]; rfl) 1 a
              go_upto_region 13 with fail
              generalize wc.setCell ⟨g1, 1, none⟩ (.int .i64 a) = we at HK2 ⊢
              clear k0 s0 s1 s2 s3 HK1
              have k1 := HK2.out.kept.cell 1 rfl
              obtain ⟨s0, s1, s2, s3⟩ := kp_stores HK2.out (by rw [HAe.out]; rfl) HT2.out (k := 1) (by omega) a s
              have HK3 : Hid (Kp w (w.heap.size + 1) kb (.slice (some ⟨g1, 0, none⟩) 2 t1) (.slice (some ⟨g2, 0, none⟩) 2 t2) x (A.set 1 a) (T.set 1 s) (we.setCell ⟨g2, 1, none⟩ (.string s))) := HK2.out.setText HT2.out 1 s
              go_upto_region 14 with fail
              generalize we.setCell ⟨g2, 1, none⟩ (.string s) = wf at HK3 ⊢
              clear k1 s0 s1 s2 s3 HK2
              have ck0 := HK3.out.kept.cell 0 rfl
              have ck1 := HK3.out.kept.cell 1 rfl
              have ck2 := HK3.out.kept.cell 2 rfl
              have cr0 := HK3.out.res.cell 0 rfl
              have cr1 := HK3.out.res.cell 1 rfl
              have cr2 := HK3.out.res.cell 2 rfl
              have fr0 := HK3.out.res.frozen 0
              have fr1 := HK3.out.res.frozen 1
              have fr2 := HK3.out.res.frozen 2
              obtain ⟨R1, C1, B1⟩ := HK3.out.fill
              clear HK3
              go_wp2_with fail
              generalize (((wf.setCell ⟨w.heap.size + 1, 0, none⟩ (.slice (some ⟨g1, 0, none⟩) 2 t1)).setCell ⟨w.heap.size + 1, 1, none⟩ (.slice (some ⟨g2, 0, none⟩) 2 t2)).setCell ⟨w.heap.size + 1, 2, none⟩ (.int .i64 x)) = W4 at R1 C1 B1 ⊢
              have d0 := R1.cell 0 rfl
              have d1 := R1.cell 1 rfl
              have d2 := R1.cell 2 rfl
              have CF := C1
              have CF2 : CO w.heap.size W4 (.agg #[.slice (some ⟨g1, 0, none⟩) 2 t1, .slice (some ⟨g2, 0, none⟩) 2 t2, .int .i64 x]) (kA A x a) (kT A T x a s) (kX A x a) := by
                unfold kA kT
                rw [HKN.out.1, HKN.out.2]
                exact C1
              clear C1 CF R1
              refine bodyPost_ret (v := .tuple #[.agg #[.slice (some ⟨g1, 0, none⟩) 2 t1, .slice (some ⟨g2, 0, none⟩) 2 t2, .int .i64 x], .int .i64 0]) (ret_cell_tmp (k := w.heap.size + 1) (a := 6) (b := 7) Try.results10 rfl rfl d0 d1 d2) rfl ?_
              · exact ⟨B1, .inl ⟨HYe.out, _, _, _, _, _, _, _, rfl, CF2⟩⟩ -- END
          · by_cases h0 : y0 = a
            · skip
              have e0 : (y0 == a) = true := by simpa using h0
              have e1 : (y1 == a) = false := by simpa using h1
              have HKN : Hid (kN A x a = 0 ∧ kX A x a = x) := by
                rw [Hid, HAe.out]
                unfold kN kX
                rw [ixI_two, if_pos h0]
                exact ⟨rfl, rfl⟩
              clear h0 h1
              as_aux_lemma =>
                go_wp2_with fail
                refine wp_loop_rounds 3 ?_
                rw [rounds_succ]
                go_wp2_with fail
                rw [rounds_succ]
                go_wp2_with fail
                rw [rounds_succ]
                go_upto_region 10 with fail
                have k0 := HK.out.kept.cell 0 rfl
                obtain ⟨s0, s1, s2, s3⟩ := kp_stores HK.out (by rw [HAe.out]; rfl) HT2.out (k := 0) (by omega) a s
                rw [show A.getD 0 0 = y0 by rw [HAe.out]; rfl] at s0
                have n0 : (y0 != a) = false := by rw [bne, e0]; rfl
                clear e0 e1 c0 c1
                go_upto_region 12 with fail
                have HK1 := HK
                clear k0 s0 s1 s2 s3 n0 b0 b2
                have k0 := HK1.out.kept.cell 0 rfl
                obtain ⟨s0, s1, s2, s3⟩ := kp_stores HK1.out (by rw [HAe.out]; rfl) HT2.out (k := 0) (by omega) a s
                have HK2 : Hid (Kp w (w.heap.size + 1) kb (.slice (some ⟨g1, 0, none⟩) 2 t1) (.slice (some ⟨g2, 0, none⟩) 2 t2) x (A.set 0 a) T (wc.setCell ⟨g1, 0, none⟩ (.int .i64 a))) := HK1.out.setAt (by rw [HAe.out]; rfl) 0 a
                go_upto_region 13 with fail
                generalize wc.setCell ⟨g1, 0, none⟩ (.int .i64 a) = we at HK2 ⊢
                clear k0 s0 s1 s2 s3 HK1
                have k1 := HK2.out.kept.cell 1 rfl
                obtain ⟨s0, s1, s2, s3⟩ := kp_stores HK2.out (by rw [HAe.out]; rfl) HT2.out (k := 0) (by omega) a s
                have HK3 : Hid (Kp w (w.heap.size + 1) kb (.slice (some ⟨g1, 0, none⟩) 2 t1) (.slice (some ⟨g2, 0, none⟩) 2 t2) x (A.set 0 a) (T.set 0 s) (we.setCell ⟨g2, 0, none⟩ (.string s))) := HK2.out.setText HT2.out 0 s
                go_upto_region 14 with fail
                generalize we.setCell ⟨g2, 0, none⟩ (.string s) = wf at HK3 ⊢
                clear k1 s0 s1 s2 s3 HK2
                have ck0 := HK3.out.kept.cell 0 rfl
                have ck1 := HK3.out.kept.cell 1 rfl
                have ck2 := HK3.out.kept.cell 2 rfl
                have cr0 := HK3.out.res.cell 0 rfl
                have cr1 := HK3.out.res.cell 1 rfl
                have cr2 := HK3.out.res.cell 2 rfl
                have fr0 := HK3.out.res.frozen 0
                have fr1 := HK3.out.res.frozen 1
                have fr2 := HK3.out.res.frozen 2
                obtain ⟨R1, C1, B1⟩ := HK3.out.fill
                clear HK3
                go_wp2_with fail
                generalize (((wf.setCell ⟨w.heap.size + 1, 0, none⟩ (.slice (some ⟨g1, 0, none⟩) 2 t1)).setCell ⟨w.heap.size + 1, 1, none⟩ (.slice (some ⟨g2, 0, none⟩) 2 t2)).setCell ⟨w.heap.size + 1, 2, none⟩ (.int .i64 x)) = W4 at R1 C1 B1 ⊢
                have d0 := R1.cell 0 rfl
                have d1 := R1.cell 1 rfl
                have d2 := R1.cell 2 rfl
                have CF := C1
                have CF2 : CO w.heap.size W4 (.agg #[.slice (some ⟨g1, 0, none⟩) 2 t1, .slice (some ⟨g2, 0, none⟩) 2 t2, .int .i64 x]) (kA A x a) (kT A T x a s) (kX A x a) := by
                  unfold kA kT
                  rw [HKN.out.1, HKN.out.2]
                  exact C1
                clear C1 CF R1
                refine bodyPost_ret (v := .tuple #[.agg #[.slice (some ⟨g1, 0, none⟩) 2 t1, .slice (some ⟨g2, 0, none⟩) 2 t2, .int .i64 x], .int .i64 0]) (ret_cell_tmp (k := w.heap.size + 1) (a := 6) (b := 7) Try.results10 rfl rfl d0 d1 d2) rfl ?_
                · exact ⟨B1, .inl ⟨HYe.out, _, _, _, _, _, _, _, rfl, CF2⟩⟩ -- END
            · have hx := HXr.out
              rcases (show x = 0 ∨ x = 1 by omega) with rfl | rfl
              · skip
                have e0 : (y0 == a) = false := by simpa using h0
                have e1 : (y1 == a) = false := by simpa using h1
                have HKN : Hid (kN A 0 a = 0 ∧ kX A 0 a = 1) := by
                  rw [Hid, HAe.out]
                  unfold kN kX
                  rw [ixI_two, if_neg h0, if_neg h1]
                  exact ⟨rfl, rfl⟩
                clear h0 h1
                as_aux_lemma =>
                  go_wp2_with fail
                  refine wp_loop_rounds 3 ?_
                  rw [rounds_succ]
                  go_wp2_with fail
                  rw [rounds_succ]
                  go_wp2_with fail
                  rw [rounds_succ]
                  go_upto_region 10 with fail
                  have k0 := HK.out.kept.cell 0 rfl
                  obtain ⟨s0, s1, s2, s3⟩ := kp_stores HK.out (by rw [HAe.out]; rfl) HT2.out (k := 0) (by omega) a s
                  rw [show A.getD 0 0 = y0 by rw [HAe.out]; rfl] at s0
                  have n0 : (y0 != a) = true := by rw [bne, e0]; rfl
                  have k2 := HK.out.kept.cell 2 rfl
                  have k2f := HK.out.kept.frozen 2
                  clear e0 e1 c0 c1
                  go_upto_region 12 with fail
                  have HK1 : Hid (Kp w (w.heap.size + 1) kb (.slice (some ⟨g1, 0, none⟩) 2 t1) (.slice (some ⟨g2, 0, none⟩) 2 t2) 1 A T (wc.setCell ⟨kb, 2, none⟩ (.int .i64 1))) := HK.out.next 1
                  generalize wc.setCell ⟨kb, 2, none⟩ (.int .i64 1) = wd at HK1 ⊢
                  clear k2 k2f
                  clear k0 s0 s1 s2 s3 n0 b0 b2
                  have k0 := HK1.out.kept.cell 0 rfl
                  obtain ⟨s0, s1, s2, s3⟩ := kp_stores HK1.out (by rw [HAe.out]; rfl) HT2.out (k := 0) (by omega) a s
                  have HK2 : Hid (Kp w (w.heap.size + 1) kb (.slice (some ⟨g1, 0, none⟩) 2 t1) (.slice (some ⟨g2, 0, none⟩) 2 t2) 1 (A.set 0 a) T (wd.setCell ⟨g1, 0, none⟩ (.int .i64 a))) := HK1.out.setAt (by rw [HAe.out]; rfl) 0 a
                  go_upto_region 13 with fail
                  generalize wd.setCell ⟨g1, 0, none⟩ (.int .i64 a) = we at HK2 ⊢
                  clear k0 s0 s1 s2 s3 HK1
                  have k1 := HK2.out.kept.cell 1 rfl
                  obtain ⟨s0, s1, s2, s3⟩ := kp_stores HK2.out (by rw [HAe.out]; rfl) HT2.out (k := 0) (by omega) a s
                  have HK3 : Hid (Kp w (w.heap.size + 1) kb (.slice (some ⟨g1, 0, none⟩) 2 t1) (.slice (some ⟨g2, 0, none⟩) 2 t2) 1 (A.set 0 a) (T.set 0 s) (we.setCell ⟨g2, 0, none⟩ (.string s))) := HK2.out.setText HT2.out 0 s
                  go_upto_region 14 with fail
                  generalize we.setCell ⟨g2, 0, none⟩ (.string s) = wf at HK3 ⊢
                  clear k1 s0 s1 s2 s3 HK2
                  have ck0 := HK3.out.kept.cell 0 rfl
                  have ck1 := HK3.out.kept.cell 1 rfl
                  have ck2 := HK3.out.kept.cell 2 rfl
                  have cr0 := HK3.out.res.cell 0 rfl
                  have cr1 := HK3.out.res.cell 1 rfl
                  have cr2 := HK3.out.res.cell 2 rfl
                  have fr0 := HK3.out.res.frozen 0
                  have fr1 := HK3.out.res.frozen 1
                  have fr2 := HK3.out.res.frozen 2
                  obtain ⟨R1, C1, B1⟩ := HK3.out.fill
                  clear HK3
                  go_wp2_with fail
                  generalize (((wf.setCell ⟨w.heap.size + 1, 0, none⟩ (.slice (some ⟨g1, 0, none⟩) 2 t1)).setCell ⟨w.heap.size + 1, 1, none⟩ (.slice (some ⟨g2, 0, none⟩) 2 t2)).setCell ⟨w.heap.size + 1, 2, none⟩ (.int .i64 1)) = W4 at R1 C1 B1 ⊢
                  have d0 := R1.cell 0 rfl
                  have d1 := R1.cell 1 rfl
                  have d2 := R1.cell 2 rfl
                  have CF := C1
                  have CF2 : CO w.heap.size W4 (.agg #[.slice (some ⟨g1, 0, none⟩) 2 t1, .slice (some ⟨g2, 0, none⟩) 2 t2, .int .i64 1]) (kA A 0 a) (kT A T 0 a s) (kX A 0 a) := by
                    unfold kA kT
                    rw [HKN.out.1, HKN.out.2]
                    exact C1
                  clear C1 CF R1
                  refine bodyPost_ret (v := .tuple #[.agg #[.slice (some ⟨g1, 0, none⟩) 2 t1, .slice (some ⟨g2, 0, none⟩) 2 t2, .int .i64 1], .int .i64 0]) (ret_cell_tmp (k := w.heap.size + 1) (a := 6) (b := 7) Try.results10 rfl rfl d0 d1 d2) rfl ?_
                  · exact ⟨B1, .inl ⟨HYe.out, _, _, _, _, _, _, _, rfl, CF2⟩⟩ -- END
              · skip
                have e0 : (y0 == a) = false := by simpa using h0
                have e1 : (y1 == a) = false := by simpa using h1
                have HKN : Hid (kN A 1 a = 1 ∧ kX A 1 a = 0) := by
                  rw [Hid, HAe.out]
                  unfold kN kX
                  rw [ixI_two, if_neg h0, if_neg h1]
                  exact ⟨rfl, rfl⟩
                clear h0 h1
                as_aux_lemma =>
                  go_wp2_with fail
                  refine wp_loop_rounds 3 ?_
                  rw [rounds_succ]
                  go_wp2_with fail
                  rw [rounds_succ]
                  go_wp2_with fail
                  rw [rounds_succ]
                  go_upto_region 10 with fail
                  have k0 := HK.out.kept.cell 0 rfl
                  obtain ⟨s0, s1, s2, s3⟩ := kp_stores HK.out (by rw [HAe.out]; rfl) HT2.out (k := 1) (by omega) a s
                  rw [show A.getD 1 0 = y1 by rw [HAe.out]; rfl] at s0
                  have n0 : (y1 != a) = true := by rw [bne, e1]; rfl
                  have k2 := HK.out.kept.cell 2 rfl
                  have k2f := HK.out.kept.frozen 2
                  clear e0 e1 c0 c1
                  go_upto_region 12 with fail
                  have HK1 : Hid (Kp w (w.heap.size + 1) kb (.slice (some ⟨g1, 0, none⟩) 2 t1) (.slice (some ⟨g2, 0, none⟩) 2 t2) 0 A T (wc.setCell ⟨kb, 2, none⟩ (.int .i64 0))) := HK.out.next 0
                  generalize wc.setCell ⟨kb, 2, none⟩ (.int .i64 0) = wd at HK1 ⊢
                  clear k2 k2f
                  clear k0 s0 s1 s2 s3 n0 b0 b2
                  have k0 := HK1.out.kept.cell 0 rfl
                  obtain ⟨s0, s1, s2, s3⟩ := kp_stores HK1.out (by rw [HAe.out]; rfl) HT2.out (k := 1) (by omega) a s
                  have HK2 : Hid (Kp w (w.heap.size + 1) kb (.slice (some ⟨g1, 0, none⟩) 2 t1) (.slice (some ⟨g2, 0, none⟩) 2 t2) 0 (A.set 1 a) T (wd.setCell ⟨g1, 1, none⟩ (.int .i64 a))) := HK1.out.setAt (by rw [HAe.out]; rfl) 1 a
                  go_upto_region 13 with fail
                  generalize wd.setCell ⟨g1, 1, none⟩ (.int .i64 a) = we at HK2 ⊢
                  clear k0 s0 s1 s2 s3 HK1
                  have k1 := HK2.out.kept.cell 1 rfl
                  obtain ⟨s0, s1, s2, s3⟩ := kp_stores HK2.out (by rw [HAe.out]; rfl) HT2.out (k := 1) (by omega) a s
                  have HK3 : Hid (Kp w (w.heap.size + 1) kb (.slice (some ⟨g1, 0, none⟩) 2 t1) (.slice (some ⟨g2, 0, none⟩) 2 t2) 0 (A.set 1 a) (T.set 1 s) (we.setCell ⟨g2, 1, none⟩ (.string s))) := HK2.out.setText HT2.out 1 s
                  go_upto_region 14 with fail
                  generalize we.setCell ⟨g2, 1, none⟩ (.string s) = wf at HK3 ⊢
                  clear k1 s0 s1 s2 s3 HK2
                  have ck0 := HK3.out.kept.cell 0 rfl
                  have ck1 := HK3.out.kept.cell 1 rfl
                  have ck2 := HK3.out.kept.cell 2 rfl
                  have cr0 := HK3.out.res.cell 0 rfl
                  have cr1 := HK3.out.res.cell 1 rfl
                  have cr2 := HK3.out.res.cell 2 rfl
                  have fr0 := HK3.out.res.frozen 0
                  have fr1 := HK3.out.res.frozen 1
                  have fr2 := HK3.out.res.frozen 2
                  obtain ⟨R1, C1, B1⟩ := HK3.out.fill
                  clear HK3
                  go_wp2_with fail
                  generalize (((wf.setCell ⟨w.heap.size + 1, 0, none⟩ (.slice (some ⟨g1, 0, none⟩) 2 t1)).setCell ⟨w.heap.size + 1, 1, none⟩ (.slice (some ⟨g2, 0, none⟩) 2 t2)).setCell ⟨w.heap.size + 1, 2, none⟩ (.int .i64 0)) = W4 at R1 C1 B1 ⊢
                  have d0 := R1.cell 0 rfl
                  have d1 := R1.cell 1 rfl
                  have d2 := R1.cell 2 rfl
                  have CF := C1
                  have CF2 : CO w.heap.size W4 (.agg #[.slice (some ⟨g1, 0, none⟩) 2 t1, .slice (some ⟨g2, 0, none⟩) 2 t2, .int .i64 0]) (kA A 1 a) (kT A T 1 a s) (kX A 1 a) := by
                    unfold kA kT
                    rw [HKN.out.1, HKN.out.2]
                    exact C1
                  clear C1 CF R1
                  refine bodyPost_ret (v := .tuple #[.agg #[.slice (some ⟨g1, 0, none⟩) 2 t1, .slice (some ⟨g2, 0, none⟩) 2 t2, .int .i64 0], .int .i64 0]) (ret_cell_tmp (k := w.heap.size + 1) (a := 6) (b := 7) Try.results10 rfl rfl d0 d1 d2) rfl ?_
                  · exact ⟨B1, .inl ⟨HYe.out, _, _, _, _, _, _, _, rfl, CF2⟩⟩ -- END
      · have e1 : ((s.size : Int) != 16) = true := by simpa using (by omega : ¬ (s.size : Int) = 16)
        have HNo : Hid (kB A T x a s = false) := by unfold kB whB; rw [Hid, decide_eq_false h16]; simp
        clear HX3 HC3
        have cr0 := R0.cell 0 rfl
        have cr1 := R0.cell 1 rfl
        have cr2 := R0.cell 2 rfl
        have fr0 := R0.frozen 0
        have fr1 := R0.frozen 1
        have fr2 := R0.frozen 2
        have R1 := ((R0.set 0 (.slice none 0 0)).set 1 (.slice none 0 0)).set 2 (.int .i64 0)
        have B1 : Below w.heap.size w (((w1.setCell ⟨w.heap.size + 1, 0, none⟩ (.slice none 0 0)).setCell ⟨w.heap.size + 1, 1, none⟩ (.slice none 0 0)).setCell ⟨w.heap.size + 1, 2, none⟩ (.int .i64 0)) :=
          ((HB3.out.setCell (by show w.heap.size ≤ w.heap.size + 1; omega) _).setCell (by show w.heap.size ≤ w.heap.size + 1; omega) _).setCell (by show w.heap.size ≤ w.heap.size + 1; omega) _
        clear R0
        go_wp2_with (go_at_call 26; refine (lineAt_any a _).mono ?_; rintro e w' ⟨rfl, rfl⟩; rw [ha])
        generalize (((w1.setCell ⟨w.heap.size + 1, 0, none⟩ (.slice none 0 0)).setCell ⟨w.heap.size + 1, 1, none⟩ (.slice none 0 0)).setCell ⟨w.heap.size + 1, 2, none⟩ (.int .i64 0)) = W4 at R1 B1 ⊢
        have d0 := R1.cell 0 rfl
        have d1 := R1.cell 1 rfl
        have d2 := R1.cell 2 rfl
        refine bodyPost_ret (v := .tuple #[.agg #[.slice none 0 0, .slice none 0 0, .int .i64 0], .int .i64 1200]) (by simp [results, Try.results10, go_sem, d0, d1, d2]) rfl ⟨B1, .inr ⟨HNo.out, rfl⟩⟩
end Go.Proofs.Ytbcdfobclliboaa
