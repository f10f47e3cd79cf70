/-
  LineLast: what was kept last is there; what is found is what was kept last of that line. No conditions.
-/
import Derived.Test.YtbcdfobclliboaaRows
import Derived.Test.YtbcdfobclliboaaWant
import Derived.WalkKit
import Derived.ProofKit
import Derived.OpenShut
import Derived.ShutString
import Derived.ChangeOld
import Derived.Below
namespace Go.Proofs.Ytbcdfobclliboaa.lineLast
open Go.Proofs.Ytbcdfobclliboaa.Plain
open Go.ChangeShapes Go.WideShapes Go.ChangeAt Go.RowKit
open Go.ChangeMaps (open_string shut_string)
set_option linter.unusedVariables false

theorem own : ownKnob Try.prog.godebug = none := by kernel_rfl
theorem laidOut : laidOutB Try.prog = true := by kernel_rfl

set_option maxRecDepth 100000 in
set_option maxHeartbeats 2000000 in
theorem walk (a0 : Option Addr) (len0 cap0 : Nat) (z0 : List Int) (w : World) (w0 : Came w a0 len0 cap0 z0) (s0 : len0 * 8 ≤ 140737488351232) :
    Calls Try.prog 4 #[.slice a0 len0 cap0] w fun e w' => e = .returned (.bool true) ∧ Below w.heap.size w w' := by
  have HC : Hid (Came w a0 len0 cap0 z0) := w0
  have hl8 : len0 * 8 ≤ 140737488351232 := s0
  clear w0 s0
  obtain ⟨cs, hcs, hz41⟩ := zero41
  have HCS : Hid (cs = _) := hcs
  clear hcs
  go_enter Try.func4, Try.ntmps4
  go_wp2_with (go_at_call 20; refine (awake_any _).mono ?_; rintro e w1 ⟨rfl, b1⟩)
  have HB0 : Hid (Below w.heap.size w w1) := b1
  clear b1
  refine (new_any w1).mono ?_
  rintro e w2 ⟨q1, n1, p1, q2, n2, p2, rfl, hC, hb⟩
  have HB1 : Hid (Below w.heap.size w (w2.alloc (.cells #[.slice q1 n1 p1, .slice q2 n2 p2, .int .i64 0] 25))) := below_then (below_then HB0.out hb) (below_new _ _)
  have HV1 : Hid (Va w.heap.size (w2.alloc (.cells #[.slice q1 n1 p1, .slice q2 n2 p2, .int .i64 0] 25)) w2.heap.size q1 n1 p1 q2 n2 p2 0 S2.none.A S2.none.T S2.none.x) := Va.new (hC.below (Below.refl _ _) HB0.out.size)
  have hcb : w.heap.size ≤ w2.heap.size := (below_then HB0.out hb).size
  clear hC hb HB0
  go_upto_region 4 with fail
  generalize w2.alloc (.cells #[.slice q1 n1 p1, .slice q2 n2 p2, .int .i64 0] 25) = W1 at HB1 HV1 ⊢
  obtain ⟨cb, hcb2⟩ : ∃ c, c = w2.heap.size := ⟨_, rfl⟩
  rw [← hcb2] at HV1 hcb ⊢
  have HCB : Hid (w.heap.size ≤ cb) := hcb
  clear hcb2 hcb
  go_upto_region 5 with fail
  have HV2 : Hid (Va w.heap.size (W1.alloc (.cells cs 41)) cb q1 n1 p1 q2 n2 p2 0 S2.none.A S2.none.T S2.none.x) := HV1.out.below (below_new _ _) (Nat.le_refl _)
  have HW2 : Hid (Wan (W1.alloc (.cells cs 41)) W1.heap.size (List.replicate 256 0)) := Wan.new W1 cs HCS.out
  have HB2 : Hid (Below w.heap.size w (W1.alloc (.cells cs 41))) := below_then HB1.out (below_new _ _)
  have hne : cb ≠ W1.heap.size ∧ w.heap.size ≤ W1.heap.size := by
    have h1 := HV1.out.blk.lt
    have h2 := HB1.out.size
    omega
  generalize W1.alloc (.cells cs 41) = W2 at HV2 HW2 HB2 ⊢
  obtain ⟨wb, hwb⟩ : ∃ c, c = W1.heap.size := ⟨_, rfl⟩
  rw [← hwb] at hne HW2 ⊢
  have HNE : Hid (cb ≠ wb ∧ w.heap.size ≤ wb) := hne
  clear HV1 HB1 hz41 HCS hwb hne
  go_wp2_with fail
  go_loopw [5, 6, 7, 8, 9, 10, 11, 12] (fun l i _ _ _ _ _ _ wr => ∃ (n : Nat) (L : Int) (s : S2) (WL : List Int) (q1 : Option Addr) (n1 p1 : Nat) (q2 : Option Addr) (n2 p2 : Nat) (y : Int), n ≤ 40 ∧ n ≤ len0 ∧ i = .int .i64 n ∧ l = .int .i64 L ∧ Hid s.ok ∧ Hid (Wok s WL) ∧ Hid (Va w.heap.size wr cb q1 n1 p1 q2 n2 p2 y s.A s.T s.x) ∧ Hid (Wan wr wb WL) ∧ Hid (Below w.heap.size w wr)) (fun _ i _ _ _ _ _ _ _ => 40 - (intOf i).toNat)
  case atStart => exact ⟨0, -1, S2.none, _, q1, n1, p1, q2, n2, p2, 0, by omega, by omega, rfl, rfl, S2.none_ok, Wok.none, HV2, HW2, HB2⟩
  case round =>
    obtain ⟨n, L, s, WL, aq1, an1, ap1, aq2, an2, ap2, ay, hn40, hnl, rfl, rfl, HS, HO, HV, HW, HB⟩ := hrel
    clear HV2 HW2 HB2
    by_cases hlt : n < len0 ∧ n < 40
    · obtain ⟨hlt1, hlt2⟩ := hlt
      obtain ⟨g, o, hg, hc⟩ := HC.out.cells (by omega)
      subst hg
      obtain ⟨z, hz⟩ : ∃ z, z = z0.getD n 0 := ⟨_, rfl⟩
      have cz : wr.cell? ⟨g, o + n, none⟩ = some (.int .i64 z) := by
        rw [hz, ← hc n hlt1]
        exact HB.out.cell (by exact cell_lt (hc n hlt1))
      obtain ⟨k, hk, hu⟩ := umod z
      obtain ⟨X, hX⟩ : ∃ X : Int, X = 16 * (k : Int) := ⟨_, rfl⟩
      obtain ⟨G1, G2, -, -, GA, -⟩ := line_nums k hk X hX
      obtain ⟨-, -, G3, G4, -, -⟩ := line_nums n (by omega) _ rfl
      have HX : Hid (X = 16 * (k : Int)) := hX
      have hn0 : (0 : Int) ≤ n := by omega
      have hni : (n : Int) < len0 := by omega
      have hn9 : (n : Int) < 40 := by omega
      have hk0 : (0 : Int) ≤ k := by omega
      have hki : (k : Int) < 256 := by omega
      have HN : Hid (n < 40) := hlt2
      have HK : Hid (k < 256) := hk
      have HSK : Hid ((s.keep k (UInt8.ofNat n)).ok) := S2.keep_ok HS.out k hk _
      have HOK : Hid (Wok (s.keep k (UInt8.ofNat n)) (WL.set k (n : Int))) := HO.out.keep HS.out k hk n hlt2
      have HIS : Hid (isK (s.keep k (UInt8.ofNat n)).l0 k = true ∨ isK (s.keep k (UInt8.ofNat n)).l1 k = true) := S2.keep_is s k _
      clear hz hc hX hk
      go_upto_region 10 with fail
      rw [hu]
      clear cz hu
      obtain ⟨W, hW⟩ : ∃ W, W = wr := ⟨_, rfl⟩
      subst hW
      go_cut [8, 9] from 33 to 92 (fun v f z => Hid (f = .int .i64 0 ∧ KeptAt W (s.keep k (UInt8.ofNat n)).A (s.keep k (UInt8.ofNat n)).T (s.keep k (UInt8.ofNat n)).x v z))
      case first => as_aux_lemma =>
        have g1 := G1.out
        have g2 := G2.out
        have g3 := G3.out
        have K0 : Below W.heap.size W W.drew := (Below.refl W.heap.size W).drew
        have K1 : Below W.heap.size W (W.alloc (.cells #[.slice none 0 0, .slice none 0 0, .int .i64 0] 25)).drew := (below_new W (.cells #[.slice none 0 0, .slice none 0 0, .int .i64 0] 25)).drew
        have HZ1 : Blk (W.alloc (.cells #[.slice none 0 0, .slice none 0 0, .int .i64 0] 25)).drew W.heap.size 25 [.slice none 0 0, .slice none 0 0, .int .i64 0] := (Blk.new W 25 [.slice none 0 0, .slice none 0 0, .int .i64 0] _ rfl).drew
        have S0 := (HV.out.below K0 (Nat.le_refl _)).cells
        have S1 := (HV.out.below K1 (Nat.le_refl _)).cells
        go_region_held3 (fun z => z.cell? ⟨cb, 0, none⟩ = some (.slice aq1 an1 ap1) ∧ z.cell? ⟨cb, 1, none⟩ = some (.slice aq2 an2 ap2) ∧ z.cell? ⟨cb, 2, none⟩ = some (.int .i64 ay)) (first | with_reducible exact S0 | with_reducible exact S1 | with_reducible exact s1 | with_reducible exact s2 | with_reducible exact s3 | with_reducible exact s4 | with_reducible exact s5 | with_reducible exact s6)
          (first | (go_at_call 21; refine (text_num (n : Int) (UInt8.ofNat n) G4.out _).mono ?_; rintro e w2 ⟨R, rfl, HR, b2⟩; (first | (with_reducible have BW2 := below_then K0 b2) | ((with_reducible have BW2 := below_then K1 b2); (have Z2 := HZ1.below b2))); (have s1 := (HV.out.below BW2 (Nat.le_refl _)).cells); (have s2 := (HV.out.below (below_then BW2 (below_new w2 (.cells #[.slice none 0 0, .slice none 0 0, .int .i64 0] 25))) (Nat.le_refl _)).cells)) | (go_at_call 9; refine (keep_yes _ _ _ _ X R _ (by first | with_reducible exact (HV.out.below BW2 (Nat.le_refl _)).own.reads | with_reducible exact (HV.out.below (below_then BW2 (below_new w2 (.cells #[.slice none 0 0, .slice none 0 0, .int .i64 0] 25))) (Nat.le_refl _)).own.reads) s.fit HR.out.2 (S2.may HS.out) GA.out).mono ?_; rintro e w3 ⟨r1, m1, t1, r2, m2, t2, y3, rfl, hC3, b3⟩; (first | ((with_reducible have BW3 := below_then BW2 b3); (try have Z3 := Z2.below b3); (have HC3 := hC3.below (Below.refl _ _) BW2.size)) | ((with_reducible have BW3 := below_then (below_then BW2 (below_new w2 (.cells #[.slice none 0 0, .slice none 0 0, .int .i64 0] 25))) b3); (have Z3 := (Blk.new w2 25 [.slice none 0 0, .slice none 0 0, .int .i64 0] _ rfl).below b3); (have HC3 := hC3.below (Below.refl _ _) (below_then BW2 (below_new w2 (.cells #[.slice none 0 0, .slice none 0 0, .int .i64 0] 25))).size))); (try (have z0 := Z3.cell 0 rfl)); (try (have z1 := Z3.cell 1 rfl)); (try (have z2 := Z3.cell 2 rfl)); (try (have f0 := Z3.frozen 0)); (try (have f1 := Z3.frozen 1)); (try (have f2 := Z3.frozen 2)); (have V3 := HV.out.below BW3 (Nat.le_refl _)); (have s3 := V3.cells); (have s4 := (HV.out.below (below_then BW3 (below_new w3 (.cells #[.slice none 0 0, .slice none 0 0, .int .i64 0] 25))) (Nat.le_refl _)).cells); (have s5 := (HV.out.below (below_then BW3 (below_new w3 (.cells #[.slice r1 m1 t1, .slice r2 m2 t2, .int .i64 y3] 25))) (Nat.le_refl _)).cells); (try (have s6 := (((V3.other Z3 (by have := HV.out.blk.lt; first | omega | (have := BW2.size; omega)) 0 (.slice r1 m1 t1)).other (Z3.set 0 _) (by have := HV.out.blk.lt; first | omega | (have := BW2.size; omega)) 1 (.slice r2 m2 t2)).other ((Z3.set 0 _).set 1 _) (by have := HV.out.blk.lt; first | omega | (have := BW2.size; omega)) 2 (.int .i64 y3)).cells))))
        all_goals go_wp2_with fail
        all_goals go_meet
        all_goals (have HC4 := HC3; rw [HX.out, HR.out.1, (S2.kept s k (UInt8.ofNat n)).1, (S2.kept s k (UInt8.ofNat n)).2.1, (S2.kept s k (UInt8.ofNat n)).2.2] at HC4)
        all_goals refine ⟨rfl, ?_⟩
        all_goals first
          | exact ⟨_, _, _, _, _, _, _, _, rfl, BW3.size, Va.new HC4, below_then BW3 (below_new _ _)⟩
          | exact ⟨_, _, _, _, _, _, _, _, rfl, BW2.size, Va.put Z3 rfl HC4, ((BW3.setCell (by exact BW2.size) _).setCell (by exact BW2.size) _).setCell (by exact BW2.size) _⟩
          | exact ⟨_, _, _, _, _, _, _, _, rfl, Nat.le_refl _, Va.put Z3 rfl HC4, ((BW3.setCell (Nat.le_refl _) _).setCell (Nat.le_refl _) _).setCell (Nat.le_refl _) _⟩
      case rest =>
        obtain ⟨hf, db, bq1, bn1, bp1, bq2, bn2, bp2, b_y, hv, hdb, hD, hb⟩ := hcut.out
        subst hf hv
        obtain ⟨t, ht⟩ : ∃ t, t = s.keep k (UInt8.ofNat n) := ⟨_, rfl⟩
        rw [← ht] at HSK HOK HIS hD
        clear ht
        obtain ⟨WM, hWM⟩ : ∃ WM, WM = WL.set k (n : Int) := ⟨_, rfl⟩
        have HWM : Hid (WM = WL.set k (n : Int)) := hWM
        rw [← hWM] at HOK
        clear hWM
        have HD : Hid (Va w.heap.size wc db bq1 bn1 bp1 bq2 bn2 bp2 b_y t.A t.T t.x) := hD.below (Below.refl _ _) HB.out.size
        have HV2 : Hid (Blk wc cb 25 [.slice aq1 an1 ap1, .slice aq2 an2 ap2, .int .i64 ay]) := HV.out.blk.below hb
        have HW3 : Hid (Wan wc wb WL) := HW.out.below hb
        have HB2 : Hid (Below w.heap.size w wc) := below_then HB.out hb
        have HLW : Hid (WL.length = 256) := HO.out.1
        clear hcut hdb hD hb HV HB HS HO HW
        clear W
        obtain ⟨d0, d1, d2⟩ := HD.out.cells
        go_wp2_with (go_at_call 14; refine (num_any _ _).mono ?_; rintro e w' ⟨rfl, rfl⟩)
        refine (may_any _ _ _ _ _ HD.out.own.reads t.fit).mono ?_
        rintro e w5 ⟨rfl, b5⟩
        rw [S2.may HSK.out]
        have HD3 : Hid (Va w.heap.size w5 db bq1 bn1 bp1 bq2 bn2 bp2 b_y t.A t.T t.x) := HD.out.below b5 (Nat.le_refl _)
        have HV4 : Hid (Blk w5 cb 25 [.slice aq1 an1 ap1, .slice aq2 an2 ap2, .int .i64 ay]) := HV2.out.below b5
        have HW5 : Hid (Wan w5 wb WL) := HW3.out.below b5
        have HB4 : Hid (Below w.heap.size w w5) := below_then HB2.out b5
        clear HD HV2 HW3 HB2 b5 d0 d1 d2
        have HF : Hid (Va w.heap.size (((w5.setCell ⟨cb, 0, none⟩ (.slice bq1 bn1 bp1)).setCell ⟨cb, 1, none⟩ (.slice bq2 bn2 bp2)).setCell ⟨cb, 2, none⟩ (.int .i64 b_y)) cb bq1 bn1 bp1 bq2 bn2 bp2 b_y t.A t.T t.x) := Va.put HV4.out rfl HD3.out.own
        have HWF : Hid (Wan (((w5.setCell ⟨cb, 0, none⟩ (.slice bq1 bn1 bp1)).setCell ⟨cb, 1, none⟩ (.slice bq2 bn2 bp2)).setCell ⟨cb, 2, none⟩ (.int .i64 b_y)) wb WL) := ((Blk.other HW5.out _ _ _ HNE.out.1).other _ _ _ HNE.out.1).other _ _ _ HNE.out.1
        have HB5 : Hid (Below w.heap.size w (((w5.setCell ⟨cb, 0, none⟩ (.slice bq1 bn1 bp1)).setCell ⟨cb, 1, none⟩ (.slice bq2 bn2 bp2)).setCell ⟨cb, 2, none⟩ (.int .i64 b_y))) := ((HB4.out.setCell (by exact HCB.out) _).setCell (by exact HCB.out) _).setCell (by exact HCB.out) _
        obtain ⟨d0, d1, d2⟩ := HD3.out.cells
        have v0 := HV4.out.cell 0 rfl
        have v1 := HV4.out.cell 1 rfl
        have v2 := HV4.out.cell 2 rfl
        have f0 := HV4.out.frozen 0
        have f1 := HV4.out.frozen 1
        have f2 := HV4.out.frozen 2
        clear HD3 HV4 HB4 HW5
        go_upto_region 14 with fail
        generalize (((w5.setCell ⟨cb, 0, none⟩ (.slice bq1 bn1 bp1)).setCell ⟨cb, 1, none⟩ (.slice bq2 bn2 bp2)).setCell ⟨cb, 2, none⟩ (.int .i64 b_y)) = W6 at HF HWF HB5 ⊢
        clear d0 d1 d2 v0 v1 v2 f0 f1 f2
        have HF2 : Hid (Va w.heap.size (W6.setCell ⟨wb, k, none⟩ (.int .i64 n)) cb bq1 bn1 bp1 bq2 bn2 bp2 b_y t.A t.T t.x) := HF.out.want HWF.out (Ne.symm HNE.out.1) _ _
        have HWG : Hid (Wan (W6.setCell ⟨wb, k, none⟩ (.int .i64 n)) wb WM) := by
          rw [HWM.out]; exact HWF.out.set k n
        have HB6 : Hid (Below w.heap.size w (W6.setCell ⟨wb, k, none⟩ (.int .i64 n))) := HB5.out.setCell (by exact HNE.out.2) _
        have k0 := HWF.out.cell k (by rw [HLW.out]; exact HK.out)
        have kf := Blk.frozen HWF.out k
        clear HF HWF HB5
        go_upto_region 15 with fail
        generalize W6.setCell ⟨wb, k, none⟩ (.int .i64 n) = W7 at HF2 HWG HB6 ⊢
        clear k0 kf
        obtain ⟨i15, hi15, ei15⟩ : ∃ i : Nat, i < 16 ∧ bits .and .i64 (n : Int) 15 = (i : Int) := ⟨n % 16, by omega, by rw [and_15]; omega⟩
        have HI15 : Hid (i15 < 16) := hi15
        clear hi15
        go_wp2_with fail
        go_loopw [10, 11, 12] (fun jj _ _ wr => ∃ j : Nat, j ≤ 256 ∧ jj = .int .i64 j ∧ Hid (Below W7.heap.size W7 wr)) (fun jj _ _ _ => 256 - (intOf jj).toNat)
        case atStart => exact ⟨0, by omega, rfl, Below.refl _ _⟩
        case round =>
          obtain ⟨j, hj, rfl, HWr⟩ := hrel
          by_cases hlt : j < 256
          · obtain ⟨P, hP⟩ : ∃ P : Int, P = 16 * (j : Int) + (i15 : Int) := ⟨_, rfl⟩
            obtain ⟨p1, p2, PR⟩ := place_nums j i15 hlt HI15.out P hP
            have HFo := S2.found HSK.out j i15 HI15.out
            rw [← hP] at HFo
            have HV8 : Hid (Va w.heap.size wr cb bq1 bn1 bp1 bq2 bn2 bp2 b_y t.A t.T t.x) := HF2.out.below HWr.out (Nat.le_refl _)
            have HW8 : Hid (Wan wr wb WM) := HWG.out.below HWr.out
            obtain ⟨V, hV⟩ : ∃ V, V = fV t.A t.T t.x P := ⟨_, rfl⟩
            obtain ⟨B, hB⟩ : ∃ B, B = fB t.A t.T t.x P := ⟨_, rfl⟩
            rw [← hV, ← hB] at HFo
            have HVV : Hid (fV t.A t.T t.x P = V) := hV.symm
            have HBV : Hid (fB t.A t.T t.x P = B) := hB.symm
            have HFO : Hid ((B = false ∧ V = 0 ∧ isK t.l0 j = false ∧ isK t.l1 j = false) ∨ ∃ c : UInt8, (t.l0 = some (j, c) ∨ t.l1 = some (j, c)) ∧ B = true ∧ V = ((c + UInt8.ofNat i15).toNat : Int)) := HFo
            have HJ : Hid (j < 256) := hlt
            have hj0 : (0 : Int) ≤ j := by omega
            have hji : (j : Int) < 256 := by omega
            clear HFo hV hB hP hj hlt
            obtain ⟨d0, d1, d2⟩ := HV8.out.cells
            go_upto_region 19 with fail
            go_wp2_with fail
            (try rw [p2])
            refine (find_any _ _ _ _ P _ HV8.out.own.reads t.fit PR.out).mono ?_
            rintro e w9 ⟨rfl, b9⟩
            rw [HVV.out, HBV.out]
            have HWr2 : Hid (Below W7.heap.size W7 w9) := below_then HWr.out b9
            have HW9 : Hid (Wan w9 wb WM) := HW8.out.below b9
            clear HV8 HW8 b9 d0 d1 d2 HWr p1 p2
            rcases HFO.out with ⟨rfl, rfl, h3, h4⟩ | ⟨c, h1, rfl, h2⟩
            · have hne : ((j : Int) == (k : Int)) = false := by
                rw [beq_eq_false_iff_ne]
                intro e
                have e' : j = k := by omega
                subst e'
                rcases HIS.out with h | h
                · rw [h] at h3; cases h3
                · rw [h] at h4; cases h4
              clear h3 h4
              as_aux_lemma =>
                go_wp2_with fail
                go_roundw
                case rel => exact ⟨j + 1, by have := HJ.out; omega, by go_num, HWr2⟩
                case measure =>
                  have := HJ.out
                  simp [intOf]; omega
            · obtain ⟨m, hm, hWm, hc⟩ := HOK.out.2.2 j c h1
              have hsum := u8_sum m i15 hm HI15.out
              rw [← hc] at hsum
              obtain ⟨r1, r2, r3, r4⟩ := last_nums m i15 hm HI15.out V (h2.trans hsum)
              have cw := HW9.out.cell j (by rw [HOK.out.1]; exact HJ.out)
              rw [hWm] at cw
              clear h1 h2 hc hsum hWm hm
              as_aux_lemma =>
                go_wp2_with fail
                all_goals go_roundw
                case rel => exact ⟨j + 1, by have := HJ.out; omega, by go_num, HWr2⟩
                case measure =>
                  have := HJ.out
                  simp [intOf]; omega
          · as_aux_lemma =>
            go_wp2_with fail
            go_roundw
            case rel => exact ⟨n + 1, (k : Int), t, WM, _, _, _, _, _, _, _, by have := HN.out; omega, by omega, by go_num, rfl, HSK, HOK, HF2.out.below HWr.out (Nat.le_refl _), HWG.out.below HWr.out, below_then HB6.out HWr.out⟩
            case measure =>
              have := HN.out
              simp [intOf]; omega
    · have HEnd : Hid (¬ (n < len0 ∧ n < 40)) := hlt
      clear hlt
      rcases (show ¬ n < len0 ∨ (n < len0 ∧ ¬ n < 40) by have := HEnd.out; omega) with h1 | ⟨h1, h2⟩
      · go_wp2_with fail
        go_ret
        exact ⟨rfl, HB.out⟩
      · go_wp2_with fail
        go_ret
        exact ⟨rfl, HB.out⟩

set_option maxRecDepth 100000 in
theorem lifted (os : Os) (started : os.Started) (H : Type) (enc : TypeId × Value → H) :
    ReturnsInHanded {} Try.checked os 4 .any (Rows.lineLastSpec.pre6 enc Try.prog Try.f4 Rows.lineLastRow.domain false) (Rows.lineLastSpec.post enc Try.prog Try.f4 false true false false) := by
  refine returnsInHanded_of_change_sized (C := Try.checked) own started (by kernel_rfl) Try.func4
    (ChangeSpec.witness6 (enc := enc) (C := Try.checked) false ⟨#[], #[.slice none 0 0], []⟩ 8 (by kernel_rfl) (by kernel_rfl) (by kernel_rfl) (by kernel_rfl)) ?_
  intro W base args ds gs before hval0 hW hcnd hsz0 _
  have hsz : (DataW.weightsEach Try.prog (Try.f4.params.toList ++ Rows.lineLastSpec.plain.varTypes Try.prog) (ds ++ gs)).all (· ≤ reachBytes) = true := hsz0
  clear hsz0
  have hval : ∀ (j : Nat) t v, Try.f4.params[j]? = some t → args[j]? = some v → Value.okWide Try.prog W .any base t v := hval0
  have hW' := hW
  obtain ⟨p, q, hA0, hV, rfl, hfz, hnd⟩ := hW
  have hA : DataW.TrodAll enc Try.prog W 0 (fun _ => true) true Try.f4.params.toList args.toList ds p := hA0
  rw [Try.params4] at hA hval hsz
  obtain ⟨v0, vs0, d0, ds0, p0, q0, hargs, rfl, rfl, h0, r0⟩ := trodAll_cons hA
  obtain ⟨rfl, rfl, rfl⟩ := trodAll_nil r0
  obtain rfl : args = #[v0] := by cases args; simp_all
  obtain ⟨rfl, rfl⟩ := trodVars_none hV
  obtain ⟨a0, len0, cap0, rfl⟩ := okWide_slice Try.underlying22 (hval 0 22 v0 rfl rfl)
  have k0 := h0
  have lt0 : ∀ x ∈ p0, x.block < W.heap.size := by obtain ⟨m, hm⟩ := k0; exact DataW.trod_lt m _ _ _ hm
  obtain ⟨z0, w0, s0⟩ : ∃ zs, Came W a0 len0 cap0 zs ∧ len0 * 8 ≤ 140737488351232 := by
    obtain ⟨fuel, hf⟩ := h0
    rcases open_ints Try.underlying22 Try.underlying3 (by kernel_rfl) hf with ⟨hcs, _⟩ | ⟨x, l, c, zs, hcs, _, hl, hm, hz, hx, hcell, hwz⟩
    · simp [Value.cells] at hcs
      obtain ⟨rfl, rfl, rfl⟩ := hcs
      exact ⟨[], ⟨rfl, .inl ⟨rfl, rfl, rfl⟩⟩, by omega⟩
    · simp [Value.cells] at hcs
      obtain ⟨rfl, rfl, rfl⟩ := hcs
      simp only [Prod.mk.injEq] at hx
      obtain ⟨rfl, -⟩ := hx
      have hzl : zs.length = cap0 := by simpa using hz
      have hreach := sized_slice hsz (j := 0) (t := 22) (e := 3) rfl rfl Try.underlying22
      rw [show Try.prog.bytesOf 3 = 8 from by kernel_rfl] at hreach
      simp only [lits, List.length_map, List.length_take, List.length_drop, reachBytes] at hreach
      exact ⟨zs.take len0, came_of hl hzl hcell, by omega⟩
  clear hA0 hval0
  refine (walk a0 len0 cap0 z0 W w0 s0).mono fun e W' ⟨he, bel⟩ => ?_
  subst he
  exact ⟨_, rfl, _, _, _, [], _, [], hW', trodAll_mk1 (shut_bool Try.underlying4 _), (trodAll_cons_mk (Below.trod laidOut (by kernel_rfl) (of_decide_eq_true (by kernel_rfl)) k0 bel lt0) trodAll_mk0), rfl, bel.frame _, fun h => by cases h⟩

theorem over : Rows.lineLastRow.holds Try.pinned (OpenSpec.ofChange Rows.lineLastSpec) :=
  OpenClaim.holds_of_wide 4 Try.f4 rfl rfl rfl rfl rfl rfl rfl ⟨rfl, rfl, rfl, rfl, rfl⟩ rfl rfl rfl rfl rfl (by kernel_rfl) Try.func4 (by kernel_rfl)
    (of_decide_eq_true (by kernel_rfl)) (by unfold Func.isWrapper; first | (rw [if_pos (by decide +kernel)]; kernel_rfl) | (rw [if_neg (by decide +kernel)]; exact ⟨rfl, rfl⟩))
    (fun os started H enc _ => lifted os started H enc)

theorem proved : Rows.LineLastSaid := over
#print axioms proved
end Go.Proofs.Ytbcdfobclliboaa.lineLast
