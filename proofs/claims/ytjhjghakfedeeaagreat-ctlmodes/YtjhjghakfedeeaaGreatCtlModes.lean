/-
  CtlModes: reads of whichever sort tell the chip's bytes. Conditions: the text is no longer than a text may be, the row no longer than memory bears.
-/
import Derived.Test.YtjhjghakfedeeaaGreatRows
import Derived.Test.YtjhjghakfedeeaaGreatCtlModesF
import Derived.BigQuiet
import Derived.Deep.QuietTactic
import Derived.SizedLaws
import Derived.WalkKit
import Derived.ProofKit
import Derived.OpenShut
import Derived.ShutString
import Derived.ChangeOld
import Derived.Below
namespace Go.Proofs.YtjhjghakfedeeaaGreat.ctlModes
open Go.Proofs.YtjhjghakfedeeaaGreat.Plain
open Go.ChangeShapes Go.WideShapes Go.ChangeAt Go.RowKit
open Go.ChangeMaps (open_string shut_string)
set_option linter.unusedVariables false

theorem own : ownKnob Tryz.prog.godebug = none := by kernel_rfl
theorem laidOut : laidOutB Tryz.prog = true := by kernel_rfl

set_option maxRecDepth 100000 in
set_option maxHeartbeats 16000000 in
theorem walk (a0 : ByteArray) (a1 : Int) (a2 : Int) (a3 : Option Addr) (len3 cap3 : Nat) (z3 : List Int) (w : World) (w0 : a0.size ≤ maxLen) (w1 : (Lit.int .i64 a1).wf = true) (w2 : (Lit.int .i64 a2).wf = true) (w3 : Came w a3 len3 cap3 z3) (s3 : len3 * 8 ≤ 140737488351232) :
    Calls Tryz.prog 7 #[.string a0, .int .i64 a1, .int .i64 a2, .slice a3 len3 cap3] w fun e w' => e = .returned (.bool true) ∧ Below w.heap.size w w' := by
  have HCm : Hid (Reads w (.slice a3 len3 cap3) z3) := w3.reads
  have HZl : Hid (z3.length = len3) := w3.1
  clear w3
  obtain ⟨Mk, hMk, eM, -⟩ := mask_31 a2
  obtain ⟨m, hm⟩ : ∃ m, 1 + Mk = m := ⟨_, rfl⟩
  have HM : Hid (m ≤ 32) := by unfold Hid; omega
  have HE1 : Hid (bits .and .i64 a2 31 = (Mk : Int)) := eM
  have HE2 : Hid (1 + (Mk : Int) = (m : Int)) := by unfold Hid; omega
  have HE3 : Hid (wrap64 (m : Int) = (m : Int)) := IntWalk.wrap64_in _ (by omega)
  clear eM hMk hm
  go_enter Tryz.func7, Tryz.ntmps7
  go_wp2_with fail
  refine (cawake_any _).mono ?_
  rintro e u1 ⟨rfl, b1⟩
  go_wp2_with fail
  refine (ctwins_mine _ u1 w0).mono ?_
  rintro e w1 ⟨bp, b, rfl, hbp, HL, hbw⟩
  have HB0 : Hid (Below w.heap.size w w1) := below_then b1 hbw
  have hwb : w.heap.size ≤ bp := Nat.le_trans b1.size hbp
  clear hbw hbp b1
  go_wp2_with fail
  refine (kr_new HL.out rfl HB0.out hwb (Nat.le_refl _)).mono ?_
  rintro e w2 ⟨kb, rfl, H2⟩
  clear HL HB0 hwb
  obtain ⟨s2, HQ, XA, XB⟩ := kq_start (wide a0)
  have XA : Hid (_ = _) := XA
  have XB : Hid (_ = _) := XB
  have HQ : Hid (St.Quads s2 _ false) := HQ
  rw [kq_new] at H2
  go_wp2_with (go_at_call 19; refine (num_any _ _).mono ?_; rintro e w3 ⟨rfl, rfl⟩)
  refine (kr_run_nil H2 XA (by decide)).mono ?_
  rintro e w3 ⟨ua, uc, rfl, -, H3, -⟩
  clear H2 XA
  go_wp2_with fail
  refine (kr_run_lit H3 XB #[.int .i64 0, .int .i64 2] 2 rfl rfl (by decide) (by decide)).mono ?_
  rintro e w4 ⟨va, vc, rfl, -, H4, -⟩
  clear H3 XB
  obtain ⟨A, HA⟩ : ∃ A, Hid (wide a0 = A) := ⟨_, rfl⟩
  have HAs : Hid (A.size = 4096) := by rw [← HA.out]; exact wide_size a0
  rw [HA.out] at HQ
  have hA4 : A.size = 4096 := HAs.out
  go_wp2_with fail
  refine (kr_cells H4 HQ.out.A).mono ?_
  rintro e w5 ⟨rfl, rfl⟩
  have e1 := HE1.out
  have e2 := HE2.out
  have e3 := HE3.out
  have HG0 : Hid (∃ t g c md, St.Quads t A g ∧ Hid (KR w.heap.size (60000 + 30000 * 0) kb bp w w4 (kq t c g md))) := ⟨s2, false, 32, false, HQ.out, H4.out⟩
  clear H4 HQ
  go_wp2_with fail
  rw [e3]
  clear e1 e2 e3
  go_loopw [15] (fun i wr => ∃ j : Nat, j ≤ 20 ∧ j ≤ len3 ∧ i = .int .i64 j ∧ Hid (∃ t g c md, St.Quads t A g ∧ Hid (KR w.heap.size (60000 + 30000 * j) kb bp w wr (kq t c g md)))) (fun i _ => 20 - (intOf i).toNat)
  case atStart => exact ⟨0, by omega, Nat.zero_le _, rfl, HG0.out⟩
  case round =>
    obtain ⟨j, hj, hjl, rfl, HGr⟩ := hrel
    clear HG0
    obtain ⟨t, g, c, md, hQt, HKR⟩ := HGr.out
    have HQt : Hid (St.Quads t A g) := hQt
    clear hQt HGr
    by_cases hlt : j < len3 ∧ j < 20
    · obtain ⟨hl1, hl2⟩ := hlt
      have HJ : Hid (j < len3 ∧ j < 20) := ⟨hl1, hl2⟩
      obtain ⟨gr, o, ha, hc⟩ := reads_at (HCm.out.below HKR.out.below) HZl.out j hl1
      subst ha
      obtain ⟨z, Hz⟩ : ∃ z, Hid (z3.getD j 0 = z) := ⟨_, rfl⟩
      rw [Hz.out] at hc
      obtain ⟨K, hK, eK0, -⟩ := mask_3 z
      obtain ⟨F, hF, eF, -⟩ := mask_4095 (wrap64 (a1 + z))
      have HF : Hid (F < 4096) := hF
      have HEK : Hid (bits .and .i64 z 3 = (K : Int)) := eK0
      clear Hz eK0 hF
      rcases (show K = 0 ∨ K = 1 ∨ K = 2 ∨ K = 3 by omega) with rfl | rfl | rfl | rfl
      · as_aux_lemma =>
        have eK : bits .and .i64 z 3 = 0 := HEK.out
        have hKR := HKR
        obtain ⟨t', g', c', md', hq', hX⟩ := modes_read HQt.out c md F m HF.out (by have := HM.out; omega)
        have HQ' : Hid (t'.Quads A g') := hq'
        have hvl : (numI (bytesOf A F m)).length = m := modes_V A F m
        obtain ⟨V, HV⟩ : ∃ V, Hid (numI (bytesOf A F m) = V) := ⟨_, rfl⟩
        rw [HV.out] at hX hvl
        have HX : Hid (_ = _) := hX
        have HVL : Hid (V.length = m) := hvl
        have hnn : 60000 + 30000 * j ≤ 999999999900000 := by omega
        have HNN : Hid (60000 + 30000 * j ≤ 999999999900000) := hnn
        clear hq' hX hKR HQt hvl hnn
        go_wp2_with fail
        refine (kr_run_nil HKR HX HNN.out).mono ?_
        rintro e w6 ⟨ua, uc, rfl, U6, H6, -⟩
        have hl6 := kr_lt H6
        have HU6 : Hid (kb < w6.heap.size ∧ bp < w6.heap.size) := hl6
        rw [HVL.out] at U6 ⊢
        clear HKR HX hl6 eF eK hj hjl hl1 hl2 hc hA4
        go_wp2_with (go_at_call 19; refine (num_any _ _).mono ?_; rintro e w7 ⟨rfl, rfl⟩)
        go_loopw [21] (fun i wr => ∃ l : Nat, l ≤ m ∧ i = .int .i64 l ∧ Hid (KR w.heap.size (60000 + 30000 * (j + 1)) kb bp w wr (kq t' c' g' md')) ∧ Hid (Owns 0 wr (.slice ua m uc) V)) (fun i _ => m - (intOf i).toNat)
        case atStart => exact ⟨0, Nat.zero_le _, rfl, kr_more H6 (by omega), owns_down U6.out (Nat.zero_le _)⟩
        case round =>
          obtain ⟨l, hl, rfl, HK7, HU7⟩ := hrel
          clear H6 U6
          by_cases hlm : l < m
          · have hvl : V.length = m := by rw [← HV.out]; exact modes_V A F m
            obtain ⟨gx, rfl, hnc⟩ := owns_some HU7 hvl (by omega)
            have cx := reads_cell HU7.out.reads l (by rw [hvl]; exact hlm)
            obtain ⟨S, tt, X, q1, q2, q3, q4, ⟨q5, q6⟩, q7⟩ := modes_at A HAs.out F m l HF.out hlm HM.out
            rw [HV.out] at q4
            rw [q4] at cx
            have HL : Hid (l < m) := hlm
            have hl0 : (0 : Int) ≤ (l : Int) := by omega
            have hlI : (l : Int) < (m : Int) := by omega
            clear q4 hvl hnc hl
            go_upto_region 33 with fail
            go_quiet (fail)
            clear cx q1 q2 q3 q5 q6 q7 hl0 hlI
            have hlb : l < 32 := by have := HL.out; have := HM.out; omega
            go_wp2_with fail
            go_roundw
            case rel => exact ⟨l + 1, (by have := HL.out; omega), (by go_num), kr_below HK7 (below_drewN (Below.refl _ _) _), owns_below HU7 (below_drewN (Below.refl _ _) _)⟩
            case measure => have := HL.out; simp [intOf]; omega
          · have HG : Hid (∃ t g c md, St.Quads t A g ∧ Hid (KR w.heap.size (60000 + 30000 * (j + 1)) kb bp w wr (kq t c g md))) := ⟨t', g', c', md', HQ'.out, HK7.out⟩
            have hlm' : ¬ ((l : Int) < (m : Int)) := by omega
            clear HK7 HU7 hl
            go_wp2_with fail
            obtain ⟨b1, b2⟩ := HJ.out
            go_roundw
            case rel => exact ⟨j + 1, by omega, by omega, by go_num, HG.out⟩
            case measure => simp [intOf]; omega
      · as_aux_lemma =>
        have eK : bits .and .i64 z 3 = 1 := HEK.out
        have hKR := HKR
        obtain ⟨t', g', c', md', hq', hX⟩ := modes_out HQt.out c md F m HF.out (by have := HM.out; omega)
        have HQ' : Hid (t'.Quads A g') := hq'
        have hvl : (numI (bytesOf A F m)).length = m := modes_V A F m
        obtain ⟨V, HV⟩ : ∃ V, Hid (numI (bytesOf A F m) = V) := ⟨_, rfl⟩
        rw [HV.out] at hX hvl
        have HX : Hid (_ = _) := hX
        have HVL : Hid (V.length = m) := hvl
        have hnn : 60000 + 30000 * j ≤ 999999999900000 := by omega
        have HNN : Hid (60000 + 30000 * j ≤ 999999999900000) := hnn
        clear hq' hX hKR HQt hvl hnn
        go_wp2_with fail
        refine (kr_run_nil HKR HX HNN.out).mono ?_
        rintro e w6 ⟨ua, uc, rfl, U6, H6, -⟩
        have hl6 := kr_lt H6
        have HU6 : Hid (kb < w6.heap.size ∧ bp < w6.heap.size) := hl6
        rw [HVL.out] at U6 ⊢
        clear HKR HX hl6 eF eK hj hjl hl1 hl2 hc hA4
        go_wp2_with (go_at_call 19; refine (num_any _ _).mono ?_; rintro e w7 ⟨rfl, rfl⟩)
        go_loopw [21] (fun i wr => ∃ l : Nat, l ≤ m ∧ i = .int .i64 l ∧ Hid (KR w.heap.size (60000 + 30000 * (j + 1)) kb bp w wr (kq t' c' g' md')) ∧ Hid (Owns 0 wr (.slice ua m uc) V)) (fun i _ => m - (intOf i).toNat)
        case atStart => exact ⟨0, Nat.zero_le _, rfl, kr_more H6 (by omega), owns_down U6.out (Nat.zero_le _)⟩
        case round =>
          obtain ⟨l, hl, rfl, HK7, HU7⟩ := hrel
          clear H6 U6
          by_cases hlm : l < m
          · have hvl : V.length = m := by rw [← HV.out]; exact modes_V A F m
            obtain ⟨gx, rfl, hnc⟩ := owns_some HU7 hvl (by omega)
            have cx := reads_cell HU7.out.reads l (by rw [hvl]; exact hlm)
            obtain ⟨S, tt, X, q1, q2, q3, q4, ⟨q5, q6⟩, q7⟩ := modes_at A HAs.out F m l HF.out hlm HM.out
            rw [HV.out] at q4
            rw [q4] at cx
            have HL : Hid (l < m) := hlm
            have hl0 : (0 : Int) ≤ (l : Int) := by omega
            have hlI : (l : Int) < (m : Int) := by omega
            clear q4 hvl hnc hl
            go_upto_region 33 with fail
            go_quiet (fail)
            clear cx q1 q2 q3 q5 q6 q7 hl0 hlI
            have hlb : l < 32 := by have := HL.out; have := HM.out; omega
            go_wp2_with fail
            go_roundw
            case rel => exact ⟨l + 1, (by have := HL.out; omega), (by go_num), kr_below HK7 (below_drewN (Below.refl _ _) _), owns_below HU7 (below_drewN (Below.refl _ _) _)⟩
            case measure => have := HL.out; simp [intOf]; omega
          · have HG : Hid (∃ t g c md, St.Quads t A g ∧ Hid (KR w.heap.size (60000 + 30000 * (j + 1)) kb bp w wr (kq t c g md))) := ⟨t', g', c', md', HQ'.out, HK7.out⟩
            have hlm' : ¬ ((l : Int) < (m : Int)) := by omega
            clear HK7 HU7 hl
            go_wp2_with fail
            obtain ⟨b1, b2⟩ := HJ.out
            go_roundw
            case rel => exact ⟨j + 1, by omega, by omega, by go_num, HG.out⟩
            case measure => simp [intOf]; omega
      · as_aux_lemma =>
        have eK : bits .and .i64 z 3 = 2 := HEK.out
        have hKR := HKR
        obtain ⟨t', g', c', md', hq', hX⟩ := modes_io HQt.out c md F 160 m HF.out (by decide) (by have := HM.out; omega)
        have HQ' : Hid (t'.Quads A g') := hq'
        have hvl : (numI (bytesOf A F m)).length = m := modes_V A F m
        obtain ⟨V, HV⟩ : ∃ V, Hid (numI (bytesOf A F m) = V) := ⟨_, rfl⟩
        rw [HV.out] at hX hvl
        have HX : Hid (_ = _) := hX
        have HVL : Hid (V.length = m) := hvl
        have hnn : 60000 + 30000 * j ≤ 999999999900000 := by omega
        have HNN : Hid (60000 + 30000 * j ≤ 999999999900000) := hnn
        clear hq' hX hKR HQt hvl hnn
        go_wp2_with fail
        refine (kr_run_lit HKR HX #[.int .i64 160] 1 rfl rfl (by decide) HNN.out).mono ?_
        rintro e w6 ⟨ua, uc, rfl, U6, H6, -⟩
        have hl6 := kr_lt H6
        have HU6 : Hid (kb < w6.heap.size ∧ bp < w6.heap.size) := hl6
        rw [HVL.out] at U6 ⊢
        clear HKR HX hl6 eF eK hj hjl hl1 hl2 hc hA4
        go_wp2_with (go_at_call 19; refine (num_any _ _).mono ?_; rintro e w7 ⟨rfl, rfl⟩)
        go_loopw [21] (fun i wr => ∃ l : Nat, l ≤ m ∧ i = .int .i64 l ∧ Hid (KR w.heap.size (60000 + 30000 * (j + 1)) kb bp w wr (kq t' c' g' md')) ∧ Hid (Owns 0 wr (.slice ua m uc) V)) (fun i _ => m - (intOf i).toNat)
        case atStart => exact ⟨0, Nat.zero_le _, rfl, kr_more H6 (by omega), owns_down U6.out (Nat.zero_le _)⟩
        case round =>
          obtain ⟨l, hl, rfl, HK7, HU7⟩ := hrel
          clear H6 U6
          by_cases hlm : l < m
          · have hvl : V.length = m := by rw [← HV.out]; exact modes_V A F m
            obtain ⟨gx, rfl, hnc⟩ := owns_some HU7 hvl (by omega)
            have cx := reads_cell HU7.out.reads l (by rw [hvl]; exact hlm)
            obtain ⟨S, tt, X, q1, q2, q3, q4, ⟨q5, q6⟩, q7⟩ := modes_at A HAs.out F m l HF.out hlm HM.out
            rw [HV.out] at q4
            rw [q4] at cx
            have HL : Hid (l < m) := hlm
            have hl0 : (0 : Int) ≤ (l : Int) := by omega
            have hlI : (l : Int) < (m : Int) := by omega
            clear q4 hvl hnc hl
            go_upto_region 33 with fail
            go_quiet (fail)
            clear cx q1 q2 q3 q5 q6 q7 hl0 hlI
            have hlb : l < 32 := by have := HL.out; have := HM.out; omega
            go_wp2_with fail
            go_roundw
            case rel => exact ⟨l + 1, (by have := HL.out; omega), (by go_num), kr_below HK7 (below_drewN (Below.refl _ _) _), owns_below HU7 (below_drewN (Below.refl _ _) _)⟩
            case measure => have := HL.out; simp [intOf]; omega
          · have HG : Hid (∃ t g c md, St.Quads t A g ∧ Hid (KR w.heap.size (60000 + 30000 * (j + 1)) kb bp w wr (kq t c g md))) := ⟨t', g', c', md', HQ'.out, HK7.out⟩
            have hlm' : ¬ ((l : Int) < (m : Int)) := by omega
            clear HK7 HU7 hl
            go_wp2_with fail
            obtain ⟨b1, b2⟩ := HJ.out
            go_roundw
            case rel => exact ⟨j + 1, by omega, by omega, by go_num, HG.out⟩
            case measure => simp [intOf]; omega
      · as_aux_lemma =>
        have eK : bits .and .i64 z 3 = 3 := HEK.out
        have hKR := HKR
        obtain ⟨t', g', c', md', hq', hX⟩ := modes_io HQt.out c md F 0 m HF.out (by decide) (by have := HM.out; omega)
        have HQ' : Hid (t'.Quads A g') := hq'
        have hvl : (numI (bytesOf A F m)).length = m := modes_V A F m
        obtain ⟨V, HV⟩ : ∃ V, Hid (numI (bytesOf A F m) = V) := ⟨_, rfl⟩
        rw [HV.out] at hX hvl
        have HX : Hid (_ = _) := hX
        have HVL : Hid (V.length = m) := hvl
        have hnn : 60000 + 30000 * j ≤ 999999999900000 := by omega
        have HNN : Hid (60000 + 30000 * j ≤ 999999999900000) := hnn
        clear hq' hX hKR HQt hvl hnn
        go_wp2_with fail
        refine (kr_run_lit HKR HX #[.int .i64 0] 1 rfl rfl (by decide) HNN.out).mono ?_
        rintro e w6 ⟨ua, uc, rfl, U6, H6, -⟩
        have hl6 := kr_lt H6
        have HU6 : Hid (kb < w6.heap.size ∧ bp < w6.heap.size) := hl6
        rw [HVL.out] at U6 ⊢
        clear HKR HX hl6 eF eK hj hjl hl1 hl2 hc hA4
        go_wp2_with (go_at_call 19; refine (num_any _ _).mono ?_; rintro e w7 ⟨rfl, rfl⟩)
        go_loopw [21] (fun i wr => ∃ l : Nat, l ≤ m ∧ i = .int .i64 l ∧ Hid (KR w.heap.size (60000 + 30000 * (j + 1)) kb bp w wr (kq t' c' g' md')) ∧ Hid (Owns 0 wr (.slice ua m uc) V)) (fun i _ => m - (intOf i).toNat)
        case atStart => exact ⟨0, Nat.zero_le _, rfl, kr_more H6 (by omega), owns_down U6.out (Nat.zero_le _)⟩
        case round =>
          obtain ⟨l, hl, rfl, HK7, HU7⟩ := hrel
          clear H6 U6
          by_cases hlm : l < m
          · have hvl : V.length = m := by rw [← HV.out]; exact modes_V A F m
            obtain ⟨gx, rfl, hnc⟩ := owns_some HU7 hvl (by omega)
            have cx := reads_cell HU7.out.reads l (by rw [hvl]; exact hlm)
            obtain ⟨S, tt, X, q1, q2, q3, q4, ⟨q5, q6⟩, q7⟩ := modes_at A HAs.out F m l HF.out hlm HM.out
            rw [HV.out] at q4
            rw [q4] at cx
            have HL : Hid (l < m) := hlm
            have hl0 : (0 : Int) ≤ (l : Int) := by omega
            have hlI : (l : Int) < (m : Int) := by omega
            clear q4 hvl hnc hl
            go_upto_region 33 with fail
            go_quiet (fail)
            clear cx q1 q2 q3 q5 q6 q7 hl0 hlI
            have hlb : l < 32 := by have := HL.out; have := HM.out; omega
            go_wp2_with fail
            go_roundw
            case rel => exact ⟨l + 1, (by have := HL.out; omega), (by go_num), kr_below HK7 (below_drewN (Below.refl _ _) _), owns_below HU7 (below_drewN (Below.refl _ _) _)⟩
            case measure => have := HL.out; simp [intOf]; omega
          · have HG : Hid (∃ t g c md, St.Quads t A g ∧ Hid (KR w.heap.size (60000 + 30000 * (j + 1)) kb bp w wr (kq t c g md))) := ⟨t', g', c', md', HQ'.out, HK7.out⟩
            have hlm' : ¬ ((l : Int) < (m : Int)) := by omega
            clear HK7 HU7 hl
            go_wp2_with fail
            obtain ⟨b1, b2⟩ := HJ.out
            go_roundw
            case rel => exact ⟨j + 1, by omega, by omega, by go_num, HG.out⟩
            case measure => simp [intOf]; omega
    · rcases Nat.lt_or_ge j len3 with h1 | h1
      · have h2 : ¬ (j < 20) := by omega
        go_wp2_with fail
        go_ret
        exact ⟨rfl, HKR.out.below⟩
      · have h2 : ¬ (j < len3) := by omega
        go_wp2_with fail
        go_ret
        exact ⟨rfl, HKR.out.below⟩

set_option maxRecDepth 100000 in
theorem lifted (os : Os) (started : os.Started) (H : Type) (enc : TypeId × Value → H) :
    ReturnsInHanded {} Tryz.checked os 7 .any (Rows.ctlModesSpec.pre6 enc Tryz.prog Tryz.f7 Rows.ctlModesRow.domain false) (Rows.ctlModesSpec.post enc Tryz.prog Tryz.f7 false true false false) := by
  refine returnsInHanded_of_change_sized (C := Tryz.checked) own started (by kernel_rfl) Tryz.func7
    (ChangeSpec.witness6 (enc := enc) (C := Tryz.checked) false ⟨#[], #[.string ByteArray.empty, .int .i64 0, .int .i64 0, .slice none 0 0], []⟩ 8 (by kernel_rfl) (by kernel_rfl) (by kernel_rfl) (by kernel_rfl)) ?_
  intro W base args ds gs before hval0 hW hcnd hsz0 _
  have hsz : (DataW.weightsEach Tryz.prog (Tryz.f7.params.toList ++ Rows.ctlModesSpec.plain.varTypes Tryz.prog) (ds ++ gs)).all (· ≤ reachBytes) = true := hsz0
  clear hsz0
  have hval : ∀ (j : Nat) t v, Tryz.f7.params[j]? = some t → args[j]? = some v → Value.okWide Tryz.prog W .any base t v := hval0
  have hW' := hW
  obtain ⟨p, q, hA0, hV, rfl, hfz, hnd⟩ := hW
  have hA : DataW.TrodAll enc Tryz.prog W 0 (fun _ => true) true Tryz.f7.params.toList args.toList ds p := hA0
  rw [Tryz.params7] at hA hval hsz
  obtain ⟨v0, vs0, d0, ds0, p0, q0, hargs, rfl, rfl, h0, r0⟩ := trodAll_cons hA
  obtain ⟨v1, vs1, d1, ds1, p1, q1, rfl, rfl, rfl, h1, r1⟩ := trodAll_cons r0
  obtain ⟨v2, vs2, d2, ds2, p2, q2, rfl, rfl, rfl, h2, r2⟩ := trodAll_cons r1
  obtain ⟨v3, vs3, d3, ds3, p3, q3, rfl, rfl, rfl, h3, r3⟩ := trodAll_cons r2
  obtain ⟨rfl, rfl, rfl⟩ := trodAll_nil r3
  obtain rfl : args = #[v0, v1, v2, v3] := by cases args; simp_all
  obtain ⟨rfl, rfl⟩ := trodVars_none hV
  obtain ⟨a0, rfl, rfl, rfl, w0⟩ := open_string Tryz.underlying9 (hval 0 9 v0 rfl rfl) h0
  obtain ⟨a1, rfl, rfl, rfl, w1⟩ := open_int Tryz.underlying3 (hval 1 3 v1 rfl rfl) h1
  obtain ⟨a2, rfl, rfl, rfl, w2⟩ := open_int Tryz.underlying3 (hval 2 3 v2 rfl rfl) h2
  obtain ⟨a3, len3, cap3, rfl⟩ := okWide_slice Tryz.underlying23 (hval 3 23 v3 rfl rfl)
  have k3 := h3
  have lt3 : ∀ x ∈ p3, x.block < W.heap.size := by obtain ⟨m, hm⟩ := k3; exact DataW.trod_lt m _ _ _ hm
  obtain ⟨z3, w3, s3⟩ : ∃ zs, Came W a3 len3 cap3 zs ∧ len3 * 8 ≤ 140737488351232 := by
    obtain ⟨fuel, hf⟩ := h3
    rcases open_ints Tryz.underlying23 Tryz.underlying3 (by kernel_rfl) hf with ⟨hcs, _⟩ | ⟨x, l, c, zs, hcs, _, hl, hm, hz, hx, hcell, hwz⟩
    · simp [Value.cells] at hcs
      obtain ⟨rfl, rfl, rfl⟩ := hcs
      exact ⟨[], ⟨rfl, .inl ⟨rfl, rfl, rfl⟩⟩, by omega⟩
    · simp [Value.cells] at hcs
      obtain ⟨rfl, rfl, rfl⟩ := hcs
      simp only [Prod.mk.injEq] at hx
      obtain ⟨rfl, -⟩ := hx
      have hzl : zs.length = cap3 := by simpa using hz
      have hreach := sized_slice hsz (j := 3) (t := 23) (e := 3) rfl rfl Tryz.underlying23
      rw [show Tryz.prog.bytesOf 3 = 8 from by kernel_rfl] at hreach
      simp only [lits, List.length_map, List.length_take, List.length_drop, reachBytes] at hreach
      exact ⟨zs.take len3, came_of hl hzl hcell, by omega⟩
  clear hA0 hval0
  refine (walk a0 a1 a2 a3 len3 cap3 z3 W w0 w1 w2 w3 s3).mono fun e W' ⟨he, bel⟩ => ?_
  subst he
  exact ⟨_, rfl, _, _, _, [], _, [], hW', trodAll_mk1 (shut_bool Tryz.underlying4 _), (trodAll_cons_mk (shut_string Tryz.underlying9 w0) (trodAll_cons_mk (shut_int Tryz.underlying3 w1) (trodAll_cons_mk (shut_int Tryz.underlying3 w2) (trodAll_cons_mk (Below.trod laidOut (by kernel_rfl) (of_decide_eq_true (by kernel_rfl)) k3 bel lt3) trodAll_mk0)))), rfl, bel.frame _, fun h => by cases h⟩

theorem over : Rows.ctlModesRow.holds Tryz.pinned (OpenSpec.ofChange Rows.ctlModesSpec) :=
  OpenClaim.holds_of_wide 7 Tryz.f7 rfl rfl rfl rfl rfl rfl rfl ⟨rfl, rfl, rfl, rfl, rfl⟩ rfl rfl rfl rfl rfl (by kernel_rfl) Tryz.func7 (by kernel_rfl)
    (of_decide_eq_true (by kernel_rfl)) (by unfold Func.isWrapper; first | (rw [if_pos (by decide +kernel)]; kernel_rfl) | (rw [if_neg (by decide +kernel)]; exact ⟨rfl, rfl⟩))
    (fun os started H enc _ => lifted os started H enc)

theorem proved : Rows.CtlModesSaid := over
#print axioms proved
end Go.Proofs.YtjhjghakfedeeaaGreat.ctlModes
