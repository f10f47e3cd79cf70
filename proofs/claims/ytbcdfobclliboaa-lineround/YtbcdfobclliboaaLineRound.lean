/-
  LineRound: lines go round: the one that came first goes first, one that is kept anew stays where it is. No conditions.
-/
import Derived.Test.YtbcdfobclliboaaRows
import Derived.Test.YtbcdfobclliboaaTurns
import Derived.Test.YtbcdfobclliboaaMask
import Derived.WalkKit
import Derived.ProofKit
import Derived.OpenShut
import Derived.ShutString
import Derived.ChangeOld
import Derived.Below
namespace Go.Proofs.Ytbcdfobclliboaa.lineRound
open Go.Proofs.Ytbcdfobclliboaa.Plain
open Go.ChangeShapes Go.WideShapes Go.ChangeAt Go.RowKit
open Go.ChangeMaps (open_string shut_string)
set_option linter.unusedVariables false

theorem own : ownKnob Try.prog.godebug = none := by kernel_rfl
theorem laidOut : laidOutB Try.prog = true := by kernel_rfl

set_option maxRecDepth 100000 in
set_option maxHeartbeats 2000000 in
theorem walk (a0 : Int) (a1 : Int) (a2 : Int) (w : World) (w0 : (Lit.int .i64 a0).wf = true) (w1 : (Lit.int .i64 a1).wf = true) (w2 : (Lit.int .i64 a2).wf = true) :
    Calls Try.prog 6 #[.int .i64 a0, .int .i64 a1, .int .i64 a2] w fun e w' => e = .returned (.bool true) ∧ Below w.heap.size w w' := by
  obtain ⟨i, hi, ei⟩ : ∃ i : Nat, i < 64 ∧ bits .and .i64 a0 63 = (i : Int) := ⟨(a0 % 64).toNat, by omega, by rw [and_63]; omega⟩
  obtain ⟨j, hj, ej⟩ : ∃ j : Nat, j < 64 ∧ bits .and .i64 a1 63 = (j : Int) := ⟨(a1 % 64).toNat, by omega, by rw [and_63]; omega⟩
  obtain ⟨k, hk, ek⟩ : ∃ k : Nat, k < 64 ∧ bits .and .i64 a2 63 = (k : Int) := ⟨(a2 % 64).toNat, by omega, by rw [and_63]; omega⟩
  obtain ⟨X, hX⟩ : ∃ X : Int, X = (i : Int) * 16 := ⟨_, rfl⟩
  obtain ⟨Y, hY⟩ : ∃ Y : Int, Y = (64 + (j : Int)) * 16 := ⟨_, rfl⟩
  obtain ⟨Z, hZ⟩ : ∃ Z : Int, Z = (128 + (k : Int)) * 16 := ⟨_, rfl⟩
  have HA : Hid (atB X = true ∧ atB Y = true ∧ atB Z = true) := by
    refine ⟨?_, ?_, ?_⟩
    · rw [show X = 16 * ((i : Nat) : Int) by omega]; exact at_16 i (by omega)
    · rw [show Y = 16 * ((64 + j : Nat) : Int) by omega]; exact at_16 (64 + j) (by omega)
    · rw [show Z = 16 * ((128 + k : Nat) : Int) by omega]; exact at_16 (128 + k) (by omega)
  have HN : Hid (X ≠ Y ∧ X ≠ Z ∧ Y ≠ Z ∧ X ≠ -1 ∧ Y ≠ -1 ∧ Z ≠ -1) := by
    rw [Hid]; omega
  have HB16 : Hid ((0 ≤ X ∧ X % 16 = 0 ∧ X < 4096) ∧ (0 ≤ Y ∧ Y % 16 = 0 ∧ Y < 4096) ∧ (0 ≤ Z ∧ Z % 16 = 0 ∧ Z < 4096)) := by
    rw [Hid]; omega
  obtain ⟨x1, y1, y2, z1, z2, z3⟩ := round_nums i j k hi hj hk X Y Z hX hY hZ
  clear hX hY hZ hi hj hk w0 w1 w2
  go_enter Try.func6, Try.ntmps6
  go_wp2_with (go_at_call 20; refine (awake_any _).mono ?_; rintro e w1 ⟨rfl, b1⟩)
  rw [x1, y2, z2]
  clear x1 y1 y2 z1 z2 ei ej ek
  have HB0 : Hid (Below w.heap.size w w1) := b1
  clear b1
  refine (new_any w1).mono ?_
  rintro e w2 ⟨q1, n1, p1, q2, n2, p2, rfl, hC, hb⟩
  have HB1 : Hid (Below w.heap.size w w2) := below_then HB0.out hb
  have HC1 : Hid (CO w.heap.size w2 (.agg #[.slice q1 n1 p1, .slice q2 n2 p2, .int .i64 0]) [-1, -1] [ByteArray.empty, ByteArray.empty] 0) := hC.below (Below.refl _ _) HB0.out.size
  clear hC hb HB0
  go_wp2_with fail
  refine (text_num 120 120 rfl _).mono ?_
  rintro e w3 ⟨R1, rfl, HR1, b3⟩
  have HB2 : Hid (Below w.heap.size w w3) := below_then HB1.out b3
  have HC2 : Hid (CO w.heap.size w3 (.agg #[.slice q1 n1 p1, .slice q2 n2 p2, .int .i64 0]) [-1, -1] [ByteArray.empty, ByteArray.empty] 0) := HC1.out.below b3 (Nat.le_refl _)
  clear b3 HB1 HC1
  go_wp2_with fail
  refine (keep_yes _ _ _ _ X R1 _ HC2.out.reads (fit_two (by decide) (by decide)) HR1.out.2 (may_two (by decide) (.inl ⟨rfl, rfl⟩) (.inl ⟨rfl, rfl⟩)) HA.out.1).mono ?_
  rintro e w4 ⟨aq1, an1, ap1, aq2, an2, ap2, ay, rfl, hC3, b4⟩
  obtain ⟨e1, e2, e3⟩ := k_new0 (-1) (-1) X ByteArray.empty ByteArray.empty R1 (Ne.symm HN.out.2.2.2.1) (Ne.symm HN.out.2.2.2.1)
  rw [e1, e2, e3] at hC3
  have HB3 : Hid (Below w.heap.size w (w4.alloc (.cells #[.slice aq1 an1 ap1, .slice aq2 an2 ap2, .int .i64 ay] 25))) := below_then (below_then HB2.out b4) (below_new _ _)
  have HV1 : Hid (Va w.heap.size (w4.alloc (.cells #[.slice aq1 an1 ap1, .slice aq2 an2 ap2, .int .i64 ay] 25)) w4.heap.size aq1 an1 ap1 aq2 an2 ap2 ay [X, -1] [R1, ByteArray.empty] 1) := Va.new (hC3.below (Below.refl _ _) HB2.out.size)
  have hay : w.heap.size ≤ w4.heap.size := (below_then HB2.out b4).size
  clear hC3 b4 HC2 HB2 e1 e2 e3
  go_upto_region 5 with fail
  generalize w4.alloc (.cells #[.slice aq1 an1 ap1, .slice aq2 an2 ap2, .int .i64 ay] 25) = W at HB3 HV1 ⊢
  obtain ⟨kb, hkb⟩ : ∃ c, c = w4.heap.size := ⟨_, rfl⟩
  rw [← hkb] at HV1 hay ⊢
  have HKB : Hid (w.heap.size ≤ kb) := hay
  clear hkb hay
  have HM1 : Hid (mayB [X, -1] [R1, ByteArray.empty] 1 = true) := may_two (by decide) (.inr ⟨HA.out.1, HR1.out.2⟩) (.inl ⟨rfl, rfl⟩)
  have HF1 : Hid (Fit [X, -1] [R1, ByteArray.empty]) := fit_two (by rw [HR1.out.2]; exact Nat.le_refl _) (by decide)
  go_cut [12] from 44 (fun f z => Hid (f = .int .i64 0 ∧ ∃ s, (s = lineT 121 ∧ s.size = 16) ∧ ∃ r1 m1 t1 r2 m2 t2 y, Va w.heap.size z kb r1 m1 t1 r2 m2 t2 y [X, Y] [R1, s] 0 ∧ Only kb W z))
  case first => as_aux_lemma =>
    have K0 : Below W.heap.size W W.drew := (Below.refl W.heap.size W).drew
    obtain ⟨S0a, S0b, S0c⟩ := (HV1.out.below K0 (Nat.le_refl _)).cells
    go_region_with (first | (go_at_call 21; refine (text_num 121 121 (by rfl) _).mono ?_; rintro e w2 ⟨R, rfl, HR, b2⟩; (have BW2 := below_then K0 b2); (obtain ⟨s1a, s1b, s1c⟩ := (HV1.out.below BW2 (Nat.le_refl _)).cells)) | (go_at_call 9; refine (keep_yes _ _ _ _ _ R _ (by with_reducible exact (HV1.out.below BW2 (Nat.le_refl _)).own.reads) HF1.out HR.out.2 HM1.out HA.out.2.1).mono ?_; rintro e w3 ⟨r1, m1, t1, r2, m2, t2, y3, rfl, hC3, b3⟩; (have BW3 := below_then BW2 b3); (have Z3 := (HV1.out.below BW3 (Nat.le_refl _)).blk); (have HC3 := hC3.below (B' := w.heap.size) (Below.refl _ _) (by have := BW2.size; have := HB3.out.size; omega)); (have z0 := Z3.cell 0 rfl); (have z1 := Z3.cell 1 rfl); (have z2 := Z3.cell 2 rfl); (have f0 := Z3.frozen 0); (have f1 := Z3.frozen 1); (have f2 := Z3.frozen 2)))
    all_goals go_wp2_with fail
    all_goals go_meet
    all_goals (have HC4 := HC3; rw [(k_new1 X (-1) Y R1 ByteArray.empty R HN.out.1 (Ne.symm HN.out.2.2.2.2.1)).1, (k_new1 X (-1) Y R1 ByteArray.empty R HN.out.1 (Ne.symm HN.out.2.2.2.2.1)).2.1, (k_new1 X (-1) Y R1 ByteArray.empty R HN.out.1 (Ne.symm HN.out.2.2.2.2.1)).2.2] at HC4)
    all_goals refine ⟨rfl, R, ⟨HR.out.1, HR.out.2⟩, ?_⟩
    all_goals exact ⟨_, _, _, _, _, _, _, Va.put Z3 rfl HC4, (((Only.of_below BW3).set 0 _).set 1 _).set 2 _⟩
  case rest =>
    obtain ⟨hf, R2, Hs, bq1, bn1, bp1, bq2, bn2, bp2, b_y, hD, ho⟩ := hcut.out
    subst hf
    have HR2 : Hid (R2 = lineT 121 ∧ R2.size = 16) := Hs
    have HV2 : Hid (Va w.heap.size wc kb bq1 bn1 bp1 bq2 bn2 bp2 b_y [X, Y] [R1, R2] 0) := hD
    have HB4 : Hid (Below w.heap.size w wc) := HB3.out.trans (ho.old HKB.out HB3.out.size)
    clear hcut Hs hD ho HV1 HB3 HM1 HF1
    clear W
    obtain ⟨W, hW⟩ : ∃ W, W = wc := ⟨_, rfl⟩
    subst hW
    have HM2 : Hid (mayB [X, Y] [R1, R2] 0 = true) := may_two (by decide) (.inr ⟨HA.out.1, HR1.out.2⟩) (.inr ⟨HA.out.2.1, HR2.out.2, Ne.symm HN.out.1⟩)
    have HF2 : Hid (Fit [X, Y] [R1, R2]) := fit_two (by rw [HR1.out.2]; exact Nat.le_refl _) (by rw [HR2.out.2]; exact Nat.le_refl _)
    go_upto_region 6 with fail
    go_cut [13, 14] from 51 (fun v f z => Hid (f = .int .i64 0 ∧ ∃ s, (s = lineT 119 ∧ s.size = 16) ∧ KeptAt W [X, Y] [s, R2] 0 v z))
    case first => as_aux_lemma =>
      have K0 : Below W.heap.size W W.drew := (Below.refl W.heap.size W).drew
      have K1 : Below W.heap.size W (W.alloc (.cells #[.slice none 0 0, .slice none 0 0, .int .i64 0] 25)).drew := (below_new W (.cells #[.slice none 0 0, .slice none 0 0, .int .i64 0] 25)).drew
      have HZ1 : Blk (W.alloc (.cells #[.slice none 0 0, .slice none 0 0, .int .i64 0] 25)).drew W.heap.size 25 [.slice none 0 0, .slice none 0 0, .int .i64 0] := (Blk.new W 25 [.slice none 0 0, .slice none 0 0, .int .i64 0] _ rfl).drew
      have S0 := (HV2.out.below K0 (Nat.le_refl _)).cells
      have S1 := (HV2.out.below K1 (Nat.le_refl _)).cells
      go_region_held3 (fun z => z.cell? ⟨kb, 0, none⟩ = some (.slice bq1 bn1 bp1) ∧ z.cell? ⟨kb, 1, none⟩ = some (.slice bq2 bn2 bp2) ∧ z.cell? ⟨kb, 2, none⟩ = some (.int .i64 b_y)) (first | with_reducible exact S0 | with_reducible exact S1 | with_reducible exact s1 | with_reducible exact s2 | with_reducible exact s3 | with_reducible exact s4 | with_reducible exact s5 | with_reducible exact s6)
        (first | (go_at_call 21; refine (text_num 119 119 (by rfl) _).mono ?_; rintro e w2 ⟨R, rfl, HR, b2⟩; (first | (with_reducible have BW2 := below_then K0 b2) | ((with_reducible have BW2 := below_then K1 b2); (have Z2 := HZ1.below b2))); (have s1 := (HV2.out.below BW2 (Nat.le_refl _)).cells); (have s2 := (HV2.out.below (below_then BW2 (below_new w2 (.cells #[.slice none 0 0, .slice none 0 0, .int .i64 0] 25))) (Nat.le_refl _)).cells)) | (go_at_call 9; refine (keep_yes _ _ _ _ _ R _ (by first | with_reducible exact (HV2.out.below BW2 (Nat.le_refl _)).own.reads | with_reducible exact (HV2.out.below (below_then BW2 (below_new w2 (.cells #[.slice none 0 0, .slice none 0 0, .int .i64 0] 25))) (Nat.le_refl _)).own.reads) HF2.out HR.out.2 HM2.out HA.out.1).mono ?_; rintro e w3 ⟨r1, m1, t1, r2, m2, t2, y3, rfl, hC3, b3⟩; (first | ((with_reducible have BW3 := below_then BW2 b3); (try have Z3 := Z2.below b3); (have HC3 := hC3.below (Below.refl _ _) BW2.size)) | ((with_reducible have BW3 := below_then (below_then BW2 (below_new w2 (.cells #[.slice none 0 0, .slice none 0 0, .int .i64 0] 25))) b3); (have Z3 := (Blk.new w2 25 [.slice none 0 0, .slice none 0 0, .int .i64 0] _ rfl).below b3); (have HC3 := hC3.below (Below.refl _ _) (below_then BW2 (below_new w2 (.cells #[.slice none 0 0, .slice none 0 0, .int .i64 0] 25))).size))); (try (have z0 := Z3.cell 0 rfl)); (try (have z1 := Z3.cell 1 rfl)); (try (have z2 := Z3.cell 2 rfl)); (try (have f0 := Z3.frozen 0)); (try (have f1 := Z3.frozen 1)); (try (have f2 := Z3.frozen 2)); (have V3 := HV2.out.below BW3 (Nat.le_refl _)); (have s3 := V3.cells); (have s4 := (HV2.out.below (below_then BW3 (below_new w3 (.cells #[.slice none 0 0, .slice none 0 0, .int .i64 0] 25))) (Nat.le_refl _)).cells); (have s5 := (HV2.out.below (below_then BW3 (below_new w3 (.cells #[.slice r1 m1 t1, .slice r2 m2 t2, .int .i64 y3] 25))) (Nat.le_refl _)).cells); (try (have s6 := (((V3.other Z3 (by have := HV2.out.blk.lt; first | omega | (have := BW2.size; omega)) 0 (.slice r1 m1 t1)).other (Z3.set 0 _) (by have := HV2.out.blk.lt; first | omega | (have := BW2.size; omega)) 1 (.slice r2 m2 t2)).other ((Z3.set 0 _).set 1 _) (by have := HV2.out.blk.lt; first | omega | (have := BW2.size; omega)) 2 (.int .i64 y3)).cells))))
      all_goals go_wp2_with fail
      all_goals go_meet
      all_goals (have HC4 := HC3; rw [(k_hit0 X Y R1 R2 R 0).1, (k_hit0 X Y R1 R2 R 0).2.1, (k_hit0 X Y R1 R2 R 0).2.2] at HC4)
      all_goals refine ⟨rfl, R, ⟨HR.out.1, HR.out.2⟩, ?_⟩
      all_goals first
        | exact ⟨_, _, _, _, _, _, _, _, rfl, BW3.size, Va.new HC4, below_then BW3 (below_new _ _)⟩
        | exact ⟨_, _, _, _, _, _, _, _, rfl, BW2.size, Va.put Z3 rfl HC4, ((BW3.setCell (by exact BW2.size) _).setCell (by exact BW2.size) _).setCell (by exact BW2.size) _⟩
        | exact ⟨_, _, _, _, _, _, _, _, rfl, Nat.le_refl _, Va.put Z3 rfl HC4, ((BW3.setCell (Nat.le_refl _) _).setCell (Nat.le_refl _) _).setCell (Nat.le_refl _) _⟩
    case rest =>
      obtain ⟨hf, R3, Hs, sb, cq1, cn1, cp1, cq2, cn2, cp2, cy, hv, hsb, hD, hb⟩ := hcut.out
      subst hf hv
      have HR3 : Hid (R3 = lineT 119 ∧ R3.size = 16) := Hs
      have HS1 : Hid (Va w.heap.size wc sb cq1 cn1 cp1 cq2 cn2 cp2 cy [X, Y] [R3, R2] 0) := hD.below (Below.refl _ _) HB4.out.size
      have HV3 : Hid (Va w.heap.size wc kb bq1 bn1 bp1 bq2 bn2 bp2 b_y [X, Y] [R1, R2] 0) := HV2.out.below hb (Nat.le_refl _)
      have HNE : Hid (kb ≠ sb) := by
        have := HV2.out.blk.lt
        rw [Hid]; omega
      have HB5 : Hid (Below w.heap.size w wc) := below_then HB4.out hb
      clear hcut Hs hD hb HV2 HB4 HM2 HF2 hsb
      clear W
      obtain ⟨W, hW⟩ : ∃ W, W = wc := ⟨_, rfl⟩
      subst hW
      have HM3 : Hid (mayB [X, Y] [R3, R2] 0 = true) := may_two (by decide) (.inr ⟨HA.out.1, HR3.out.2⟩) (.inr ⟨HA.out.2.1, HR2.out.2, Ne.symm HN.out.1⟩)
      have HF3 : Hid (Fit [X, Y] [R3, R2]) := fit_two (by rw [HR3.out.2]; exact Nat.le_refl _) (by rw [HR2.out.2]; exact Nat.le_refl _)
      go_upto_region 7 with fail
      go_cut [15] from 58 (fun f z => Hid (f = .int .i64 0 ∧ ∃ s, (s = lineT 122 ∧ s.size = 16) ∧ ∃ r1 m1 t1 r2 m2 t2 y, Va w.heap.size z kb r1 m1 t1 r2 m2 t2 y [Z, Y] [s, R2] 1 ∧ Only kb W z))
      case first => as_aux_lemma =>
        have K0 : Below W.heap.size W W.drew := (Below.refl W.heap.size W).drew
        obtain ⟨S0a, S0b, S0c⟩ := (HS1.out.below K0 (Nat.le_refl _)).cells
        go_region_with (first | (go_at_call 21; refine (text_num 122 122 (by rfl) _).mono ?_; rintro e w2 ⟨R, rfl, HR, b2⟩; (have BW2 := below_then K0 b2); (obtain ⟨s1a, s1b, s1c⟩ := (HS1.out.below BW2 (Nat.le_refl _)).cells)) | (go_at_call 9; refine (keep_yes _ _ _ _ _ R _ (by with_reducible exact (HS1.out.below BW2 (Nat.le_refl _)).own.reads) HF3.out HR.out.2 HM3.out HA.out.2.2).mono ?_; rintro e w3 ⟨r1, m1, t1, r2, m2, t2, y3, rfl, hC3, b3⟩; (have BW3 := below_then BW2 b3); (have Z3 := (HV3.out.below BW3 (Nat.le_refl _)).blk); (have HC3 := hC3.below (B' := w.heap.size) (Below.refl _ _) (by have := BW2.size; have := HB5.out.size; omega)); (have z0 := Z3.cell 0 rfl); (have z1 := Z3.cell 1 rfl); (have z2 := Z3.cell 2 rfl); (have f0 := Z3.frozen 0); (have f1 := Z3.frozen 1); (have f2 := Z3.frozen 2)))
        all_goals go_wp2_with fail
        all_goals go_meet
        all_goals (have HC4 := HC3; rw [(k_new0 X Y Z R3 R2 R HN.out.2.1 HN.out.2.2.1).1, (k_new0 X Y Z R3 R2 R HN.out.2.1 HN.out.2.2.1).2.1, (k_new0 X Y Z R3 R2 R HN.out.2.1 HN.out.2.2.1).2.2] at HC4)
        all_goals refine ⟨rfl, R, ⟨HR.out.1, HR.out.2⟩, ?_⟩
        all_goals exact ⟨_, _, _, _, _, _, _, Va.put Z3 rfl HC4, (((Only.of_below BW3).set 0 _).set 1 _).set 2 _⟩
      case rest =>
        obtain ⟨hf, R4, Hs, dq1, dn1, dp1, dq2, dn2, dp2, dy, hD, ho⟩ := hcut.out
        subst hf
        have HR4 : Hid (R4 = lineT 122 ∧ R4.size = 16) := Hs
        have HV4 : Hid (Va w.heap.size wc kb dq1 dn1 dp1 dq2 dn2 dp2 dy [Z, Y] [R4, R2] 1) := hD
        have HS2 : Hid (Va w.heap.size wc sb cq1 cn1 cp1 cq2 cn2 cp2 cy [X, Y] [R3, R2] 0) := HS1.out.only ho HV3.out.blk HNE.out
        have HB6 : Hid (Below w.heap.size w wc) := HB5.out.trans (ho.old HKB.out HB5.out.size)
        clear hcut Hs hD ho HV3 HS1 HB5
        have HM4 : Hid (mayB [Z, Y] [R4, R2] 1 = true) := may_two (by decide) (.inr ⟨HA.out.2.2, HR4.out.2⟩) (.inr ⟨HA.out.2.1, HR2.out.2, HN.out.2.2.1⟩)
        have HF4 : Hid (Fit [Z, Y] [R4, R2]) := fit_two (by rw [HR4.out.2]; exact Nat.le_refl _) (by rw [HR2.out.2]; exact Nat.le_refl _)
        have HX : Hid (fB [X, Y] [R3, R2] 0 X = true ∧ fV [X, Y] [R3, R2] 0 X = 119) := by
          have h := f_hit0 HM3.out 0 (by omega) HB16.out.1.1 HB16.out.1.2.1
          rw [show X + ((0 : Nat) : Int) = X by omega] at h
          refine ⟨h.1, h.2.trans ?_⟩
          rw [HR3.out.1, lineT_at _ _ (by omega)]; rfl
        have HX2 : Hid (fB [Z, Y] [R4, R2] 1 X = false ∧ fV [Z, Y] [R4, R2] 1 X = 0) := by
          have h16 := HB16.out.1.2.1
          exact f_miss (by rw [h16]; have := HN.out.2.1; omega) (by rw [h16]; have := HN.out.1; omega)
        have HY : Hid (fB [Z, Y] [R4, R2] 1 Y = true ∧ fV [Z, Y] [R4, R2] 1 Y = 121) := by
          have h := f_hit1 HM4.out 0 (by omega) HB16.out.2.1.1 HB16.out.2.1.2.1 (Ne.symm HN.out.2.2.1)
          rw [show Y + ((0 : Nat) : Int) = Y by omega] at h
          refine ⟨h.1, h.2.trans ?_⟩
          rw [HR2.out.1, lineT_at _ _ (by omega)]; rfl
        have HZ : Hid (fB [Z, Y] [R4, R2] 1 (Z + 1) = true ∧ fV [Z, Y] [R4, R2] 1 (Z + 1) = 123) := by
          have h := f_hit0 HM4.out 1 (by omega) HB16.out.2.2.1 HB16.out.2.2.2.1
          rw [show Z + ((1 : Nat) : Int) = Z + 1 by omega] at h
          refine ⟨h.1, h.2.trans ?_⟩
          rw [HR4.out.1, lineT_at _ _ (by omega)]; rfl
        have HRg : Hid ((-9223372036854775808 ≤ X ∧ X < 9223372036854775808) ∧ (-9223372036854775808 ≤ Y ∧ Y < 9223372036854775808) ∧ (-9223372036854775808 ≤ Z + 1 ∧ Z + 1 < 9223372036854775808)) := by
          have h := HB16.out
          rw [Hid]; omega
        have hcy : cy = 0 := HS2.out.own.told.2.2
        subst hcy
        clear W
        obtain ⟨s0, s1, s2⟩ := HS2.out.cells
        go_wp2_with fail
        refine (find_any _ _ _ _ X _ HS2.out.own.reads HF3.out HRg.out.1).mono ?_
        rintro e w5 ⟨rfl, b5⟩
        rw [HX.out.1, HX.out.2]
        have HV5 : Hid (Va w.heap.size w5 kb dq1 dn1 dp1 dq2 dn2 dp2 dy [Z, Y] [R4, R2] 1) := HV4.out.below b5 (Nat.le_refl _)
        have HS3 : Hid (Va w.heap.size w5 sb cq1 cn1 cp1 cq2 cn2 cp2 0 [X, Y] [R3, R2] 0) := HS2.out.below b5 (Nat.le_refl _)
        have HB7 : Hid (Below w.heap.size w w5) := below_then HB6.out b5
        clear s0 s1 s2 HV4 HS2 HB6 b5
        obtain ⟨d0, d1, d2⟩ := HV5.out.cells
        go_wp2_with fail
        refine (find_any _ _ _ _ X _ HV5.out.own.reads HF4.out HRg.out.1).mono ?_
        rintro e w6 ⟨rfl, b6⟩
        rw [HX2.out.1, HX2.out.2]
        have HV6 : Hid (Va w.heap.size w6 kb dq1 dn1 dp1 dq2 dn2 dp2 dy [Z, Y] [R4, R2] 1) := HV5.out.below b6 (Nat.le_refl _)
        have HS4 : Hid (Va w.heap.size w6 sb cq1 cn1 cp1 cq2 cn2 cp2 0 [X, Y] [R3, R2] 0) := HS3.out.below b6 (Nat.le_refl _)
        have HB8 : Hid (Below w.heap.size w w6) := below_then HB7.out b6
        clear d0 d1 d2 HV5 HS3 HB7 b6
        obtain ⟨d0, d1, d2⟩ := HV6.out.cells
        go_wp2_with fail
        refine (find_any _ _ _ _ Y _ HV6.out.own.reads HF4.out HRg.out.2.1).mono ?_
        rintro e w7 ⟨rfl, b7⟩
        rw [HY.out.1, HY.out.2]
        have HV7 : Hid (Va w.heap.size w7 kb dq1 dn1 dp1 dq2 dn2 dp2 dy [Z, Y] [R4, R2] 1) := HV6.out.below b7 (Nat.le_refl _)
        have HS5 : Hid (Va w.heap.size w7 sb cq1 cn1 cp1 cq2 cn2 cp2 0 [X, Y] [R3, R2] 0) := HS4.out.below b7 (Nat.le_refl _)
        have HB9 : Hid (Below w.heap.size w w7) := below_then HB8.out b7
        clear d0 d1 d2 HV6 HS4 HB8 b7
        obtain ⟨d0, d1, d2⟩ := HV7.out.cells
        have hz3 := z3.out
        go_wp2_with fail
        rw [hz3]
        refine (find_any _ _ _ _ (Z + 1) _ HV7.out.own.reads HF4.out HRg.out.2.2).mono ?_
        rintro e w8 ⟨rfl, b8⟩
        rw [HZ.out.1, HZ.out.2]
        have HS6 := (HS5.out.below b8 (Nat.le_refl _)).cells
        have HB10 : Hid (Below w.heap.size w w8) := below_then HB9.out b8
        clear d0 d1 d2 HV7 HS5 HB9 b8 hz3
        obtain ⟨s0, s1, s2⟩ := HS6
        go_wp2_with (go_at_call 14; refine (num_any _ _).mono ?_; rintro e w' ⟨rfl, rfl⟩)
        go_ret
        exact ⟨rfl, HB10.out⟩

set_option maxRecDepth 100000 in
theorem lifted (os : Os) (started : os.Started) (H : Type) (enc : TypeId × Value → H) :
    ReturnsInHanded {} Try.checked os 6 .any (Rows.lineRoundSpec.pre6 enc Try.prog Try.f6 Rows.lineRoundRow.domain false) (Rows.lineRoundSpec.post enc Try.prog Try.f6 false true false false) := by
  refine returnsInHanded_of_change (C := Try.checked) own started (by kernel_rfl) Try.func6
    (ChangeSpec.witness6 (enc := enc) (C := Try.checked) false ⟨#[], #[.int .i64 0, .int .i64 0, .int .i64 0], []⟩ 8 (by kernel_rfl) (by kernel_rfl) (by kernel_rfl) (by kernel_rfl)) ?_
  intro W base args ds gs before hval0 hW hcnd _
  have hval : ∀ (j : Nat) t v, Try.f6.params[j]? = some t → args[j]? = some v → Value.okWide Try.prog W .any base t v := hval0
  have hW' := hW
  obtain ⟨p, q, hA0, hV, rfl, hfz, hnd⟩ := hW
  have hA : DataW.TrodAll enc Try.prog W 0 (fun _ => true) true Try.f6.params.toList args.toList ds p := hA0
  rw [Try.params6] at hA hval
  obtain ⟨v0, vs0, d0, ds0, p0, q0, hargs, rfl, rfl, h0, r0⟩ := trodAll_cons hA
  obtain ⟨v1, vs1, d1, ds1, p1, q1, rfl, rfl, rfl, h1, r1⟩ := trodAll_cons r0
  obtain ⟨v2, vs2, d2, ds2, p2, q2, rfl, rfl, rfl, h2, r2⟩ := trodAll_cons r1
  obtain ⟨rfl, rfl, rfl⟩ := trodAll_nil r2
  obtain rfl : args = #[v0, v1, v2] := by cases args; simp_all
  obtain ⟨rfl, rfl⟩ := trodVars_none hV
  obtain ⟨a0, rfl, rfl, rfl, w0⟩ := open_int Try.underlying3 (hval 0 3 v0 rfl rfl) h0
  obtain ⟨a1, rfl, rfl, rfl, w1⟩ := open_int Try.underlying3 (hval 1 3 v1 rfl rfl) h1
  obtain ⟨a2, rfl, rfl, rfl, w2⟩ := open_int Try.underlying3 (hval 2 3 v2 rfl rfl) h2
  clear hA0 hval0
  refine (walk a0 a1 a2 W w0 w1 w2).mono fun e W' ⟨he, bel⟩ => ?_
  subst he
  exact ⟨_, rfl, _, _, _, [], _, [], hW', trodAll_mk1 (shut_bool Try.underlying4 _), (trodAll_cons_mk (shut_int Try.underlying3 w0) (trodAll_cons_mk (shut_int Try.underlying3 w1) (trodAll_cons_mk (shut_int Try.underlying3 w2) trodAll_mk0))), rfl, bel.frame _, fun h => by cases h⟩

theorem over : Rows.lineRoundRow.holds Try.pinned (OpenSpec.ofChange Rows.lineRoundSpec) :=
  OpenClaim.holds_of_wide 6 Try.f6 rfl rfl rfl rfl rfl rfl rfl ⟨rfl, rfl, rfl, rfl, rfl⟩ rfl rfl rfl rfl rfl (by kernel_rfl) Try.func6 (by kernel_rfl)
    (of_decide_eq_true (by kernel_rfl)) (by unfold Func.isWrapper; first | (rw [if_pos (by decide +kernel)]; kernel_rfl) | (rw [if_neg (by decide +kernel)]; exact ⟨rfl, rfl⟩))
    (fun os started H enc _ => lifted os started H enc)

theorem proved : Rows.LineRoundSaid := over
#print axioms proved
end Go.Proofs.Ytbcdfobclliboaa.lineRound
