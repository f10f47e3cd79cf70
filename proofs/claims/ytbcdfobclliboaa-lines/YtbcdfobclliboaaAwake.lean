/-
  What every program answers that is one: the laws' own call. No conditions.
-/
import Derived.Test.YtbcdfobclliboaaTold
namespace Go.Proofs.Ytbcdfobclliboaa
open Go.RowKit Plain
set_option linter.unusedVariables false

/-- The end of a row that keeps a text of one byte in a cache variable: the answer's variable new. -/
def KeptAt (W : World) (A : List Int) (T : List ByteArray) (x : Int) (v : Value) (z : World) : Prop :=
  ∃ kb q1 n1 p1 q2 n2 p2 y, v = .pointer (some ⟨kb, 0, none⟩) ∧ W.heap.size ≤ kb ∧ Va W.heap.size z kb q1 n1 p1 q2 n2 p2 y A T x ∧ Below W.heap.size W z

set_option maxRecDepth 100000 in
set_option maxHeartbeats 4000000 in
theorem awake_any (w : World) :
    Calls Try.prog 20 #[] w fun e w' => e = .returned (.bool true) ∧ Below w.heap.size w w' := by
  go_enter Try.func20, Try.ntmps20
  go_wp2_with fail
  refine (new_any w).mono ?_
  rintro e w1 ⟨q1, n1, p1, q2, n2, p2, rfl, hC, hb⟩
  have HV1 : Hid (Va w.heap.size (w1.alloc (.cells #[.slice q1 n1 p1, .slice q2 n2 p2, .int .i64 0] 25)) w1.heap.size q1 n1 p1 q2 n2 p2 0 [-1, -1] [ByteArray.empty, ByteArray.empty] 0) := Va.new hC
  have HB1 : Hid (Below w.heap.size w (w1.alloc (.cells #[.slice q1 n1 p1, .slice q2 n2 p2, .int .i64 0] 25))) := below_then hb (below_new _ _)
  clear hC hb
  go_upto_region 2 with fail
  generalize w1.alloc (.cells #[.slice q1 n1 p1, .slice q2 n2 p2, .int .i64 0] 25) = W at HV1 HB1 ⊢
  obtain ⟨cb, hcb⟩ : ∃ c, c = w1.heap.size := ⟨_, rfl⟩
  rw [← hcb] at HV1 ⊢
  clear hcb
  go_cut [2, 3] from 13 (fun v f z => Hid (f = .int .i64 0 ∧ ∃ s, (s = lineT 97 ∧ s.size = 16) ∧ KeptAt W [32, -1] [s, ByteArray.empty] 1 v z))
  case first => as_aux_lemma =>
    have K0 : Below W.heap.size W W.drew := (Below.refl W.heap.size W).drew
    have K1 : Below W.heap.size W (W.alloc (.cells #[.slice none 0 0, .slice none 0 0, .int .i64 0] 25)).drew := (below_new W (.cells #[.slice none 0 0, .slice none 0 0, .int .i64 0] 25)).drew
    have HZ1 : Blk (W.alloc (.cells #[.slice none 0 0, .slice none 0 0, .int .i64 0] 25)).drew W.heap.size 25 [.slice none 0 0, .slice none 0 0, .int .i64 0] := (Blk.new W 25 [.slice none 0 0, .slice none 0 0, .int .i64 0] _ rfl).drew
    have S0 := (HV1.out.below K0 (Nat.le_refl _)).cells
    have S1 := (HV1.out.below K1 (Nat.le_refl _)).cells
    go_region_held3 (fun z => z.cell? ⟨cb, 0, none⟩ = some (.slice q1 n1 p1) ∧ z.cell? ⟨cb, 1, none⟩ = some (.slice q2 n2 p2) ∧ z.cell? ⟨cb, 2, none⟩ = some (.int .i64 0)) (first | with_reducible exact S0 | with_reducible exact S1 | with_reducible exact s1 | with_reducible exact s2 | with_reducible exact s3 | with_reducible exact s4 | with_reducible exact s5 | with_reducible exact s6)
      (first | (go_at_call 21; refine (text_num 97 97 (by rfl) _).mono ?_; rintro e w2 ⟨R, rfl, HR, b2⟩; (first | (with_reducible have BW2 := below_then K0 b2) | ((with_reducible have BW2 := below_then K1 b2); (have Z2 := HZ1.below b2))); (have s1 := (HV1.out.below BW2 (Nat.le_refl _)).cells); (have s2 := (HV1.out.below (below_then BW2 (below_new w2 (.cells #[.slice none 0 0, .slice none 0 0, .int .i64 0] 25))) (Nat.le_refl _)).cells)) | (go_at_call 9; refine (keep_yes _ _ _ _ _ R _ (by first | with_reducible exact (HV1.out.below BW2 (Nat.le_refl _)).own.reads | with_reducible exact (HV1.out.below (below_then BW2 (below_new w2 (.cells #[.slice none 0 0, .slice none 0 0, .int .i64 0] 25))) (Nat.le_refl _)).own.reads) (fit_two (by decide) (by decide)) HR.out.2 (may_two (by decide) (.inl ⟨rfl, rfl⟩) (.inl ⟨rfl, rfl⟩)) (by decide)).mono ?_; rintro e w3 ⟨r1, m1, t1, r2, m2, t2, y3, rfl, hC3, b3⟩; (first | ((with_reducible have BW3 := below_then BW2 b3); (try have Z3 := Z2.below b3); (have HC3 := hC3.below (Below.refl _ _) BW2.size)) | ((with_reducible have BW3 := below_then (below_then BW2 (below_new w2 (.cells #[.slice none 0 0, .slice none 0 0, .int .i64 0] 25))) b3); (have Z3 := (Blk.new w2 25 [.slice none 0 0, .slice none 0 0, .int .i64 0] _ rfl).below b3); (have HC3 := hC3.below (Below.refl _ _) (below_then BW2 (below_new w2 (.cells #[.slice none 0 0, .slice none 0 0, .int .i64 0] 25))).size))); (try (have z0 := Z3.cell 0 rfl)); (try (have z1 := Z3.cell 1 rfl)); (try (have z2 := Z3.cell 2 rfl)); (try (have f0 := Z3.frozen 0)); (try (have f1 := Z3.frozen 1)); (try (have f2 := Z3.frozen 2)); (have V3 := HV1.out.below BW3 (Nat.le_refl _)); (have s3 := V3.cells); (have s4 := (HV1.out.below (below_then BW3 (below_new w3 (.cells #[.slice none 0 0, .slice none 0 0, .int .i64 0] 25))) (Nat.le_refl _)).cells); (have s5 := (HV1.out.below (below_then BW3 (below_new w3 (.cells #[.slice r1 m1 t1, .slice r2 m2 t2, .int .i64 y3] 25))) (Nat.le_refl _)).cells); (try (have s6 := (((V3.other Z3 (by have := HV1.out.blk.lt; first | omega | (have := BW2.size; omega)) 0 (.slice r1 m1 t1)).other (Z3.set 0 _) (by have := HV1.out.blk.lt; first | omega | (have := BW2.size; omega)) 1 (.slice r2 m2 t2)).other ((Z3.set 0 _).set 1 _) (by have := HV1.out.blk.lt; first | omega | (have := BW2.size; omega)) 2 (.int .i64 y3)).cells))))
    all_goals go_wp2_with fail
    all_goals go_meet
    all_goals (have HC4 := HC3; rw [show kA [-1, -1] 0 32 = [32, -1] by decide, show kT [-1, -1] [ByteArray.empty, ByteArray.empty] 0 32 R = [R, ByteArray.empty] from rfl, show kX [-1, -1] 0 32 = 1 by decide] at HC4)
    all_goals refine ⟨rfl, R, ⟨HR.out.1, HR.out.2⟩, ?_⟩
    all_goals first
      | exact ⟨_, _, _, _, _, _, _, _, rfl, BW3.size, Va.new HC4, below_then BW3 (below_new _ _)⟩
      | exact ⟨_, _, _, _, _, _, _, _, rfl, BW2.size, Va.put Z3 rfl HC4, ((BW3.setCell (by exact BW2.size) _).setCell (by exact BW2.size) _).setCell (by exact BW2.size) _⟩
      | exact ⟨_, _, _, _, _, _, _, _, rfl, Nat.le_refl _, Va.put Z3 rfl HC4, ((BW3.setCell (Nat.le_refl _) _).setCell (Nat.le_refl _) _).setCell (Nat.le_refl _) _⟩
  case rest =>
    obtain ⟨hf, s, Hs, kd, r1, m1, t1, r2, m2, t2, y, hv, hkd, hD, hb⟩ := hcut.out
    subst hf hv
    have HS : Hid (s = lineT 97 ∧ s.size = 16) := Hs
    have HD : Hid (Va W.heap.size wc kd r1 m1 t1 r2 m2 t2 y [32, -1] [s, ByteArray.empty] 1) := hD
    have HV2 : Hid (Va w.heap.size wc cb q1 n1 p1 q2 n2 p2 0 [-1, -1] [ByteArray.empty, ByteArray.empty] 0) := HV1.out.below hb (Nat.le_refl _)
    have HB2 : Hid (Below w.heap.size w wc) := below_then HB1.out hb
    have hy : y = 1 := hD.own.told.2.2
    subst hy
    clear hcut Hs hkd hD hb HV1 HB1
    obtain ⟨d0, d1, d2⟩ := HD.out.cells
    have HM : Hid (mayB [32, -1] [s, ByteArray.empty] 1 = true) := may_two (by decide) (.inr ⟨by decide, HS.out.2⟩) (.inl ⟨rfl, rfl⟩)
    have HF : Hid (Fit [32, -1] [s, ByteArray.empty]) := fit_two (by rw [HS.out.2]; exact Nat.le_refl _) (by decide)
    have HF1 : Hid (fB [32, -1] [s, ByteArray.empty] 1 35 = true ∧ fV [32, -1] [s, ByteArray.empty] 1 35 = 100) := by
      obtain ⟨h1, h2⟩ := fB_at (A := [32, -1]) (T := [s, ByteArray.empty]) (x := 1) (a := 35) (k := 0) HM.out (by decide) (by decide) (by decide) (fun j hj => by omega)
      refine ⟨h1, h2.trans ?_⟩
      rw [show ([s, ByteArray.empty] : List ByteArray).getD 0 ByteArray.empty = s from rfl, show ((35 : Int) % 16).toNat = 3 by decide, HS.out.1, lineT_at _ _ (by decide)]
      rfl
    have HF2 : Hid (fB [32, -1] [s, ByteArray.empty] 1 48 = false ∧ fV [32, -1] [s, ByteArray.empty] 1 48 = 0) := by
      have h : fB [32, -1] [s, ByteArray.empty] 1 48 = false := fB_miss rfl fun j hj => by
        rcases (show j = 0 ∨ j = 1 by omega) with rfl | rfl
        · exact .inl (by decide)
        · exact .inl (by decide)
      exact ⟨h, fV_no h⟩
    go_wp2_with fail
    refine (find_any _ _ _ _ 35 _ HD.out.own.reads HF.out (by decide)).mono ?_
    rintro e w4 ⟨rfl, b4⟩
    rw [HF1.out.1, HF1.out.2]
    have HD2 : Hid (Va W.heap.size w4 kd r1 m1 t1 r2 m2 t2 1 [32, -1] [s, ByteArray.empty] 1) := HD.out.below b4 (Nat.le_refl _)
    have HV3 : Hid (Va w.heap.size w4 cb q1 n1 p1 q2 n2 p2 0 [-1, -1] [ByteArray.empty, ByteArray.empty] 0) := HV2.out.below b4 (Nat.le_refl _)
    have HB3 : Hid (Below w.heap.size w w4) := below_then HB2.out b4
    clear HD HV2 HB2 b4 d0 d1 d2
    obtain ⟨d0, d1, d2⟩ := HD2.out.cells
    go_wp2_with fail
    refine (find_any _ _ _ _ 48 _ HD2.out.own.reads HF.out (by decide)).mono ?_
    rintro e w5 ⟨rfl, b5⟩
    rw [HF2.out.1, HF2.out.2]
    have HD3 : Hid (Va W.heap.size w5 kd r1 m1 t1 r2 m2 t2 1 [32, -1] [s, ByteArray.empty] 1) := HD2.out.below b5 (Nat.le_refl _)
    have HV4 : Hid (Va w.heap.size w5 cb q1 n1 p1 q2 n2 p2 0 [-1, -1] [ByteArray.empty, ByteArray.empty] 0) := HV3.out.below b5 (Nat.le_refl _)
    have HB4 : Hid (Below w.heap.size w w5) := below_then HB3.out b5
    clear HD2 HV3 HB3 b5 d0 d1 d2
    go_upto_region 5 with fail
    obtain ⟨V0, hV0⟩ : ∃ V0, V0 = W := ⟨_, rfl⟩
    rw [← hV0] at HD3
    clear hV0
    clear W
    obtain ⟨W, hW⟩ : ∃ W, W = w5 := ⟨_, rfl⟩
    subst hW
    go_cut [8, 9] from 29 (fun _ f z => Hid (f = .int .i64 1200 ∧ Below W.heap.size W z))
    case first => as_aux_lemma =>
      have K0 : Below W.heap.size W W.drew := (Below.refl W.heap.size W).drew
      have K1 : Below W.heap.size W (W.alloc (.cells #[.slice none 0 0, .slice none 0 0, .int .i64 0] 25)).drew := (below_new W (.cells #[.slice none 0 0, .slice none 0 0, .int .i64 0] 25)).drew
      have HZ1 : Blk (W.alloc (.cells #[.slice none 0 0, .slice none 0 0, .int .i64 0] 25)).drew W.heap.size 25 [.slice none 0 0, .slice none 0 0, .int .i64 0] := (Blk.new W 25 [.slice none 0 0, .slice none 0 0, .int .i64 0] _ rfl).drew
      have S0 := (HV4.out.below K0 (Nat.le_refl _)).cells
      have S1 := (HV4.out.below K1 (Nat.le_refl _)).cells
      go_region_held3 (fun z => z.cell? ⟨cb, 0, none⟩ = some (.slice q1 n1 p1) ∧ z.cell? ⟨cb, 1, none⟩ = some (.slice q2 n2 p2) ∧ z.cell? ⟨cb, 2, none⟩ = some (.int .i64 0)) (first | with_reducible exact S0 | with_reducible exact S1 | with_reducible exact s1 | with_reducible exact s2 | with_reducible exact s3 | with_reducible exact s4 | with_reducible exact s5 | with_reducible exact s6)
        (first | (go_at_call 21; refine (text_num 97 97 (by rfl) _).mono ?_; rintro e w2 ⟨R, rfl, HR, b2⟩; (first | (with_reducible have BW2 := below_then K0 b2) | ((with_reducible have BW2 := below_then K1 b2); (have Z2 := HZ1.below b2))); (have s1 := (HV4.out.below BW2 (Nat.le_refl _)).cells); (have s2 := (HV4.out.below (below_then BW2 (below_new w2 (.cells #[.slice none 0 0, .slice none 0 0, .int .i64 0] 25))) (Nat.le_refl _)).cells)) | (go_at_call 9; refine (keep_no _ _ _ _ _ R _ (by first | with_reducible exact (HV4.out.below BW2 (Nat.le_refl _)).own.reads | with_reducible exact (HV4.out.below (below_then BW2 (below_new w2 (.cells #[.slice none 0 0, .slice none 0 0, .int .i64 0] 25))) (Nat.le_refl _)).own.reads) (fit_two (by decide) (by decide)) (by have := HR.out.2; unfold maxLen; omega) (by unfold kB whB; rw [show atB 33 = false by decide]; simp)).mono ?_; rintro e w3 ⟨rfl, b3⟩; (first | ((with_reducible have BW3 := below_then BW2 b3); (try have Z3 := Z2.below b3)) | ((with_reducible have BW3 := below_then (below_then BW2 (below_new w2 (.cells #[.slice none 0 0, .slice none 0 0, .int .i64 0] 25))) b3); (have Z3 := (Blk.new w2 25 [.slice none 0 0, .slice none 0 0, .int .i64 0] _ rfl).below b3))); (try (have z0 := Z3.cell 0 rfl)); (try (have z1 := Z3.cell 1 rfl)); (try (have z2 := Z3.cell 2 rfl)); (try (have f0 := Z3.frozen 0)); (try (have f1 := Z3.frozen 1)); (try (have f2 := Z3.frozen 2)); (have V3 := HV4.out.below BW3 (Nat.le_refl _)); (have s3 := V3.cells); (have s4 := (HV4.out.below (below_then BW3 (below_new w3 (.cells #[.slice none 0 0, .slice none 0 0, .int .i64 0] 25))) (Nat.le_refl _)).cells); (have s5 := (HV4.out.below (below_then BW3 (below_new w3 (.cells #[.slice none 0 0, .slice none 0 0, .int .i64 0] 25))) (Nat.le_refl _)).cells); (try (have s6 := (((V3.other Z3 (by have := HV4.out.blk.lt; first | omega | (have := BW2.size; omega)) 0 (.slice none 0 0)).other (Z3.set 0 _) (by have := HV4.out.blk.lt; first | omega | (have := BW2.size; omega)) 1 (.slice none 0 0)).other ((Z3.set 0 _).set 1 _) (by have := HV4.out.blk.lt; first | omega | (have := BW2.size; omega)) 2 (.int .i64 0)).cells))))
      all_goals go_wp2_with fail
      all_goals go_meet
      all_goals first
        | exact ⟨rfl, below_then BW3 (below_new _ _)⟩
        | exact ⟨rfl, ((BW3.setCell (by exact BW2.size) _).setCell (by exact BW2.size) _).setCell (by exact BW2.size) _⟩
        | exact ⟨rfl, ((BW3.setCell (Nat.le_refl _) _).setCell (Nat.le_refl _) _).setCell (Nat.le_refl _) _⟩
    case rest =>
      obtain ⟨hf, hb⟩ := hcut.out
      subst hf
      have HD4 : Hid (Va V0.heap.size wc kd r1 m1 t1 r2 m2 t2 1 [32, -1] [s, ByteArray.empty] 1) := HD3.out.below hb (Nat.le_refl _)
      have HV5 : Hid (Va w.heap.size wc cb q1 n1 p1 q2 n2 p2 0 [-1, -1] [ByteArray.empty, ByteArray.empty] 0) := HV4.out.below hb (Nat.le_refl _)
      have HB5 : Hid (Below w.heap.size w wc) := below_then HB4.out hb
      clear hcut hb HD3 HV4 HB4
      go_wp2_with fail
      refine (text_num 97 97 rfl _).mono ?_
      rintro e w6 ⟨R, rfl, HR, b6⟩
      have HD5 : Hid (Va V0.heap.size w6 kd r1 m1 t1 r2 m2 t2 1 [32, -1] [s, ByteArray.empty] 1) := HD4.out.below b6 (Nat.le_refl _)
      have HV6 : Hid (Va w.heap.size w6 cb q1 n1 p1 q2 n2 p2 0 [-1, -1] [ByteArray.empty, ByteArray.empty] 0) := HV5.out.below b6 (Nat.le_refl _)
      have HB6 : Hid (Below w.heap.size w w6) := below_then HB5.out b6
      clear HD4 HV5 HB5 b6
      go_wp2_with fail
      refine (keep_no _ [] [] 0 _ R _ (nil_reads _) fit_none (by have := HR.out.2; unfold maxLen; omega) (by unfold kB; rw [may_none]; rfl)).mono ?_
      rintro e w7 ⟨rfl, b7⟩
      have hb := below_then b7 (below_new w7 (.cells #[.slice none 0 0, .slice none 0 0, .int .i64 0] 25))
      have HD6 : Hid (Va V0.heap.size (w7.alloc (.cells #[.slice none 0 0, .slice none 0 0, .int .i64 0] 25)) kd r1 m1 t1 r2 m2 t2 1 [32, -1] [s, ByteArray.empty] 1) := HD5.out.below hb (Nat.le_refl _)
      have HV7 : Hid (Va w.heap.size (w7.alloc (.cells #[.slice none 0 0, .slice none 0 0, .int .i64 0] 25)) cb q1 n1 p1 q2 n2 p2 0 [-1, -1] [ByteArray.empty, ByteArray.empty] 0) := HV6.out.below hb (Nat.le_refl _)
      have HB7 : Hid (Below w.heap.size w (w7.alloc (.cells #[.slice none 0 0, .slice none 0 0, .int .i64 0] 25))) := below_then HB6.out hb
      clear HD5 HV6 HB6 b7 hb HR
      go_upto_region 7 with fail
      generalize w7.alloc (.cells #[.slice none 0 0, .slice none 0 0, .int .i64 0] 25) = w8 at HD6 HV7 HB7 ⊢
      obtain ⟨c0, c1, c2⟩ := HV7.out.cells
      go_wp2_with fail
      refine (may_any _ _ _ _ _ HV7.out.own.reads (fit_two (by decide) (by decide))).mono ?_
      rintro e w9 ⟨rfl, b9⟩
      rw [may_two (by decide) (.inl ⟨rfl, rfl⟩) (.inl ⟨rfl, rfl⟩)]
      have HD7 : Hid (Va V0.heap.size w9 kd r1 m1 t1 r2 m2 t2 1 [32, -1] [s, ByteArray.empty] 1) := HD6.out.below b9 (Nat.le_refl _)
      have HB8 : Hid (Below w.heap.size w w9) := below_then HB7.out b9
      clear HD6 HV7 HB7 b9 c0 c1 c2
      obtain ⟨d0, d1, d2⟩ := HD7.out.cells
      go_wp2_with fail
      refine (may_any _ _ _ _ _ HD7.out.own.reads HF.out).mono ?_
      rintro e w10 ⟨rfl, b10⟩
      rw [HM.out]
      have HD8 := (HD7.out.below b10 (Nat.le_refl _)).cells
      have HB9 : Hid (Below w.heap.size w w10) := below_then HB8.out b10
      clear HD7 HB8 b10 d0 d1 d2
      obtain ⟨d0, d1, d2⟩ := HD8
      go_wp2_with (go_at_call 14; refine (num_any _ _).mono ?_; rintro e w' ⟨rfl, rfl⟩)
      refine (may_any _ [] [] 0 _ (nil_reads _) fit_none).mono ?_
      rintro e w11 ⟨rfl, b11⟩
      rw [may_none]
      go_wp2_with fail
      go_ret
      exact ⟨rfl, below_then HB9.out b11⟩
end Go.Proofs.Ytbcdfobclliboaa
