/-
  CtlGoes: what is run by registers and queues is what is run at once. Condition: the text is no longer than a text may be.
-/
import Derived.Test.YtjhjghakfedeeaaGreatRows
import Derived.Test.YtjhjghakfedeeaaGreatCtlGoesF
import Derived.WalkKit
import Derived.ProofKit
import Derived.OpenShut
import Derived.ShutString
import Derived.ChangeOld
import Derived.Below
namespace Go.Proofs.YtjhjghakfedeeaaGreat.ctlGoes
open Go.Proofs.YtjhjghakfedeeaaGreat.Plain
open Go.ChangeShapes Go.WideShapes Go.ChangeAt Go.RowKit
open Go.ChangeMaps (open_string shut_string)
set_option linter.unusedVariables false

theorem own : ownKnob Tryz.prog.godebug = none := by kernel_rfl
theorem laidOut : laidOutB Tryz.prog = true := by kernel_rfl

set_option maxRecDepth 100000 in
set_option maxHeartbeats 16000000 in
theorem walk (a0 : ByteArray) (a1 : Int) (a2 : Int) (a3 : Int) (w : World) (w0 : a0.size ≤ maxLen) (w1 : (Lit.int .i64 a1).wf = true) (w2 : (Lit.int .i64 a2).wf = true) (w3 : (Lit.int .i64 a3).wf = true) :
    Calls Tryz.prog 9 #[.string a0, .int .i64 a1, .int .i64 a2, .int .i64 a3] w fun e w' => e = .returned (.bool true) ∧ Below w.heap.size w w' := by
  obtain ⟨I, hI, eI⟩ := umod a3 5 (by decide) (by decide)
  obtain ⟨k, hk, eK⟩ := umod a1 4096 (by decide) (by decide)
  obtain ⟨m, hm, eM, -⟩ := mask_15 a2
  obtain ⟨ob, z, P, V, N, C2, s1, s2, hb, hz, hV, X1, X2, X3, X4, X5, X6, X7, X8, X9, X10⟩ := goes_all (wide a0) I hI k m hk hm
  have HEI : Hid (wrap64 ((IntKind.u64.wrap a3).tmod 5) = (I : Int)) := eI
  have HEK : Hid (wrap64 ((IntKind.u64.wrap a1).tmod 4096) = (k : Int)) := eK
  have HEM : Hid (bits .and .i64 a2 15 = (m : Int)) := eM
  have HV0 : Hid (V.length = m) := hV
  have HZ : Hid (z = (if ob = 3 ∨ ob = 90 then (k : Int) else 0)) := hz
  have HBb : Hid (ob = [159, 3, 5, 90, 53].getD I 0) := hb
  have HI : Hid (I < 5) := hI
  have HM : Hid (m < 16) := hm
  clear eI eK eM hV hz hb hI hk hm
  go_enter Tryz.func9, Tryz.ntmps9
  go_wp2_with fail
  refine (cawake_any _).mono ?_
  rintro e u1 ⟨rfl, b1⟩
  go_wp2_with fail
  refine (ctwins_mine _ u1 w0).mono ?_
  rintro e w1 ⟨bp, b, rfl, hbp, HL, hbw⟩
  have HB0 : Hid (Below w.heap.size w w1) := below_then b1 hbw
  have hwb : w.heap.size ≤ bp := Nat.le_trans b1.size hbp
  clear hbw hbp b1
  go_wp2_with fail
  refine (kr_new HL.out rfl HB0.out hwb (Nat.le_refl _)).mono ?_
  rintro e w2 ⟨kb, rfl, H2⟩
  clear HL HB0 hwb
  have hb3 := below_new w2 (.cells #[.int .i64 159, .int .i64 3, .int .i64 5, .int .i64 90, .int .i64 53] 3)
  have H3 := kr_below H2 hb3
  have c3 := cell_lit (heap_alloc_new w2 (.cells #[.int .i64 159, .int .i64 3, .int .i64 5, .int .i64 90, .int .i64 53] 3)) (L := [159, 3, 5, 90, 53]) rfl I (by exact HI.out)
  rw [← HBb.out] at c3
  clear hb3 H2
  have eI := HEI.out
  go_upto_region 8 with (go_at_call 19; refine (num_any _ _).mono ?_; rintro e w3 ⟨rfl, rfl⟩)
  generalize hW3 : (w2.alloc (.cells #[.int .i64 159, .int .i64 3, .int .i64 5, .int .i64 90, .int .i64 53] 3)) = W3 at H3 c3 ⊢
  obtain ⟨gb, Hgb⟩ : ∃ gb, Hid (w2.heap.size = gb) := ⟨_, rfl⟩
  rw [Hgb.out] at c3
  try rw [Hgb.out]
  clear hW3
  have eM := HEM.out
  have hI0 : (0 : Int) ≤ (I : Int) := by omega
  have hI4 : (I : Int) < 5 := by have := HI.out; omega
  have hV := HV0.out
  by_cases h3 : ob = 3
  · as_aux_lemma =>
    have hzk : z = (k : Int) := by have h := HZ.out; rw [if_pos (Or.inl h3)] at h; exact h
    subst h3
    subst hzk
    have eK := HEK.out
    go_wp2_with fail
    refine (kr_run_nil H3 X1 (by decide)).mono ?_
    rintro e w4 ⟨ua, uc, rfl, U4, H4, -⟩
    rw [hV] at U4 ⊢
    have hl4 := kr_lt H3
    clear H3 X1 c3 eI eM eK
    go_wp2_with (go_at_call 47; refine (kr_clocks (c := N) H4 rfl).mono ?_; rintro e w5 ⟨rfl, rfl⟩)
    refine (kr_write H4 X2).mono ?_
    rintro e w5 ⟨rfl, H5, T5⟩
    have U5 := owns_turns U4 T5 hl4.1 hl4.2
    clear H4 X2 T5 U4
    go_wp2_with fail
    refine (kr_write H5 X3).mono ?_
    rintro e w6 ⟨rfl, H6, T6⟩
    have U6 := owns_turns U5 T6 hl4.1 hl4.2
    clear H5 X3 T6 U5
    go_wp2_with fail
    refine (kr_write H6 X4).mono ?_
    rintro e w7 ⟨rfl, H7, T7⟩
    have U7 := owns_turns U6 T7 hl4.1 hl4.2
    clear H6 X4 T7 U6
    go_wp2_with fail
    refine (kr_go H7 X5 (by show (0 : Int) ≤ (m : Int) ∧ (m : Int) ≤ 1000; have := HM.out; omega) (by decide)).mono ?_
    rintro e w8 ⟨rfl, H8, T8⟩
    have U8 := owns_turns U7 T8 hl4.1 hl4.2
    clear H7 X5 T8 U7
    go_wp2_with fail
    refine (kr_read H8 X6).mono ?_
    rintro e w9 ⟨rfl, H9, T9⟩
    have U9 := owns_turns U8 T9 hl4.1 hl4.2
    clear H8 X6 T9 U8
    have p1 := X7.out
    have p2 := X8.out
    go_wp2_with (first | (go_at_call 19; refine (num_any _ _).mono ?_; rintro e w10 ⟨rfl, rfl⟩) | (go_at_call 47; refine (kr_clocks (c := C2) H9 rfl).mono ?_; rintro e w10 ⟨rfl, rfl⟩))
    clear p1 p2
    have HV : Hid (V.length = m) := hV
    clear hV
    go_loopw [23] (fun i wr => ∃ j : Nat, j ≤ m ∧ i = .int .i64 j ∧ Hid (KR w.heap.size (0 + 30000 + 30000) kb bp w wr (kg s2 3 (k : Int) m (V.drop j) C2)) ∧ Hid (Owns W3.heap.size wr (.slice ua m uc) V)) (fun i _ => m - (intOf i).toNat)
    case atStart => exact ⟨0, Nat.zero_le _, rfl, H9.out, U9.out⟩
    case round =>
      obtain ⟨j, hj, rfl, HK, HU⟩ := hrel
      clear H9 U9
      by_cases hlt : j < m
      · obtain ⟨x, Hx⟩ : ∃ x, Hid (V.getD j 0 = x) := ⟨_, rfl⟩
        obtain ⟨g, rfl, hnc⟩ := owns_some HU HV.out (by omega)
        have XR : Hid ((kg s2 3 (k : Int) m (V.drop j) C2).rd 4 = (kg s2 3 (k : Int) m (V.drop (j + 1)) C2, x, 0)) := by
          rw [drop_cons' V j (by rw [HV.out]; exact hlt), Hx.out]; rfl
        go_wp2_with fail
        refine (kr_read HK XR).mono ?_
        rintro e w11 ⟨rfl, H11, T11⟩
        have U11 := owns_turns HU T11 hl4.1 hl4.2
        have cj := reads_cell U11.out.reads j (by rw [HV.out]; exact hlt)
        rw [Hx.out] at cj
        clear HK XR T11 HU
        have hm16 : m < 16 := HM.out
        go_wp2_with (go_at_call 19; refine (num_any _ _).mono ?_; rintro e w12 ⟨rfl, rfl⟩)
        go_roundw
        case rel => exact ⟨j + 1, by omega, by go_num, H11.out, U11.out⟩
        case measure => simp [intOf]; omega
      · have hjm : m = j := by omega
        subst hjm
        have HKe : Hid (KR w.heap.size (60000 + 30000 * 0) kb bp w wr (kg s2 3 (k : Int) m [] C2)) := by
          have := HK.out
          rw [← HV.out, List.drop_length] at this
          rw [← HV.out]
          exact this
        have HVm := HV
        clear HK HU HV hj hlt
        by_cases hm0 : 0 < m
        · have HG : Hid (∃ s rx c, P s ∧ rx.length = 0 ∧ Hid (KR w.heap.size (60000 + 30000 * 0) kb bp w wr (kg s 3 (k : Int) m rx c))) := ⟨s2, [], C2, X9.out, rfl, HKe.out⟩
          clear HKe
          go_wp2_with fail
          go_loopw [26] (fun i wr => ∃ j : Nat, j ≤ 16 ∧ i = .int .i64 j ∧ Hid (∃ s rx c, P s ∧ rx.length = j ∧ Hid (KR w.heap.size (60000 + 30000 * j) kb bp w wr (kg s 3 (k : Int) m rx c)))) (fun i _ => 16 - (intOf i).toNat)
          case atStart => exact ⟨0, by omega, rfl, HG.out⟩
          case round =>
            obtain ⟨j, hj, rfl, HKj⟩ := hrel
            clear HG
            obtain ⟨s, rx, c, hP, hrx, HK⟩ := HKj.out
            have HM16 : m < 16 := HM.out
            have wS : wrap64 ((j : Int) + (m : Int)) = (j : Int) + (m : Int) := IntWalk.wrap64_in _ (by omega)
            by_cases hle : j + m ≤ 16
            · obtain ⟨s', c', hP', e⟩ := X10.out s rx c hP (by rw [hrx]; exact hle)
              have hd : (j : Int) + (m : Int) ≤ 16 := by omega
              go_wp2_with fail
              refine (kr_go HK (show Hid ((kg s 3 (k : Int) m rx c).go = (kg s' 3 (k : Int) m (rx ++ V) c', 0)) from e) (by show (0 : Int) ≤ (m : Int) ∧ (m : Int) ≤ 1000; omega) (by omega)).mono ?_
              rintro e w14 ⟨rfl, H14, -⟩
              have HR : Hid (∃ s rx c, P s ∧ rx.length = j + m ∧ Hid (KR w.heap.size (60000 + 30000 * (j + m)) kb bp w w14 (kg s 3 (k : Int) m rx c))) := ⟨s', rx ++ V, c', hP', by rw [List.length_append, hrx, HVm.out], kr_more H14 (by omega)⟩
              clear HK H14 HKj hP hrx e hP'
              go_wp2_with fail
              go_roundw
              case rel => exact ⟨j + m, hle, by push_cast; rfl, HR.out⟩
              case measure => simp [intOf]; omega
            · have hd : ¬ ((j : Int) + (m : Int) ≤ 16) := by omega
              have XF : Hid ((kg s 3 (k : Int) m rx c).go = (kg s 3 (k : Int) m rx c, 801)) := go_full rfl (by show (16 : Int) < ((rx.length : Nat) : Int) + (m : Int); omega)
              go_wp2_with fail
              refine (kr_go HK XF (by show (0 : Int) ≤ (m : Int) ∧ (m : Int) ≤ 1000; omega) (by omega)).mono ?_
              rintro e w14 ⟨rfl, H14, -⟩
              clear HK HKj
              go_wp2_with (go_at_call 19; refine (num_any _ _).mono ?_; rintro e w15 ⟨rfl, rfl⟩)
              go_ret
              exact ⟨rfl, H14.out.below⟩
        · have hm0' : m = 0 := by omega
          subst hm0'
          go_wp2_with fail
          go_ret
          exact ⟨rfl, HKe.out.below⟩
  · by_cases h90 : ob = 90
    · as_aux_lemma =>
      have hzk : z = (k : Int) := by have h := HZ.out; rw [if_pos (Or.inr h90)] at h; exact h
      subst h90
      subst hzk
      have eK := HEK.out
      go_wp2_with fail
      refine (kr_run_nil H3 X1 (by decide)).mono ?_
      rintro e w4 ⟨ua, uc, rfl, U4, H4, -⟩
      rw [hV] at U4 ⊢
      have hl4 := kr_lt H3
      clear H3 X1 c3 eI eM eK
      go_wp2_with (go_at_call 47; refine (kr_clocks (c := N) H4 rfl).mono ?_; rintro e w5 ⟨rfl, rfl⟩)
      refine (kr_write H4 X2).mono ?_
      rintro e w5 ⟨rfl, H5, T5⟩
      have U5 := owns_turns U4 T5 hl4.1 hl4.2
      clear H4 X2 T5 U4
      go_wp2_with fail
      refine (kr_write H5 X3).mono ?_
      rintro e w6 ⟨rfl, H6, T6⟩
      have U6 := owns_turns U5 T6 hl4.1 hl4.2
      clear H5 X3 T6 U5
      go_wp2_with fail
      refine (kr_write H6 X4).mono ?_
      rintro e w7 ⟨rfl, H7, T7⟩
      have U7 := owns_turns U6 T7 hl4.1 hl4.2
      clear H6 X4 T7 U6
      go_wp2_with fail
      refine (kr_go H7 X5 (by show (0 : Int) ≤ (m : Int) ∧ (m : Int) ≤ 1000; have := HM.out; omega) (by decide)).mono ?_
      rintro e w8 ⟨rfl, H8, T8⟩
      have U8 := owns_turns U7 T8 hl4.1 hl4.2
      clear H7 X5 T8 U7
      go_wp2_with fail
      refine (kr_read H8 X6).mono ?_
      rintro e w9 ⟨rfl, H9, T9⟩
      have U9 := owns_turns U8 T9 hl4.1 hl4.2
      clear H8 X6 T9 U8
      have p1 := X7.out
      have p2 := X8.out
      go_wp2_with (first | (go_at_call 19; refine (num_any _ _).mono ?_; rintro e w10 ⟨rfl, rfl⟩) | (go_at_call 47; refine (kr_clocks (c := C2) H9 rfl).mono ?_; rintro e w10 ⟨rfl, rfl⟩))
      clear p1 p2
      have HV : Hid (V.length = m) := hV
      clear hV
      go_loopw [23] (fun i wr => ∃ j : Nat, j ≤ m ∧ i = .int .i64 j ∧ Hid (KR w.heap.size (0 + 30000 + 30000) kb bp w wr (kg s2 90 (k : Int) m (V.drop j) C2)) ∧ Hid (Owns W3.heap.size wr (.slice ua m uc) V)) (fun i _ => m - (intOf i).toNat)
      case atStart => exact ⟨0, Nat.zero_le _, rfl, H9.out, U9.out⟩
      case round =>
        obtain ⟨j, hj, rfl, HK, HU⟩ := hrel
        clear H9 U9
        by_cases hlt : j < m
        · obtain ⟨x, Hx⟩ : ∃ x, Hid (V.getD j 0 = x) := ⟨_, rfl⟩
          obtain ⟨g, rfl, hnc⟩ := owns_some HU HV.out (by omega)
          have XR : Hid ((kg s2 90 (k : Int) m (V.drop j) C2).rd 4 = (kg s2 90 (k : Int) m (V.drop (j + 1)) C2, x, 0)) := by
            rw [drop_cons' V j (by rw [HV.out]; exact hlt), Hx.out]; rfl
          go_wp2_with fail
          refine (kr_read HK XR).mono ?_
          rintro e w11 ⟨rfl, H11, T11⟩
          have U11 := owns_turns HU T11 hl4.1 hl4.2
          have cj := reads_cell U11.out.reads j (by rw [HV.out]; exact hlt)
          rw [Hx.out] at cj
          clear HK XR T11 HU
          have hm16 : m < 16 := HM.out
          go_wp2_with (go_at_call 19; refine (num_any _ _).mono ?_; rintro e w12 ⟨rfl, rfl⟩)
          go_roundw
          case rel => exact ⟨j + 1, by omega, by go_num, H11.out, U11.out⟩
          case measure => simp [intOf]; omega
        · have hjm : m = j := by omega
          subst hjm
          have HKe : Hid (KR w.heap.size (60000 + 30000 * 0) kb bp w wr (kg s2 90 (k : Int) m [] C2)) := by
            have := HK.out
            rw [← HV.out, List.drop_length] at this
            rw [← HV.out]
            exact this
          have HVm := HV
          clear HK HU HV hj hlt
          by_cases hm0 : 0 < m
          · have HG : Hid (∃ s rx c, P s ∧ rx.length = 0 ∧ Hid (KR w.heap.size (60000 + 30000 * 0) kb bp w wr (kg s 90 (k : Int) m rx c))) := ⟨s2, [], C2, X9.out, rfl, HKe.out⟩
            clear HKe
            go_wp2_with fail
            go_loopw [26] (fun i wr => ∃ j : Nat, j ≤ 16 ∧ i = .int .i64 j ∧ Hid (∃ s rx c, P s ∧ rx.length = j ∧ Hid (KR w.heap.size (60000 + 30000 * j) kb bp w wr (kg s 90 (k : Int) m rx c)))) (fun i _ => 16 - (intOf i).toNat)
            case atStart => exact ⟨0, by omega, rfl, HG.out⟩
            case round =>
              obtain ⟨j, hj, rfl, HKj⟩ := hrel
              clear HG
              obtain ⟨s, rx, c, hP, hrx, HK⟩ := HKj.out
              have HM16 : m < 16 := HM.out
              have wS : wrap64 ((j : Int) + (m : Int)) = (j : Int) + (m : Int) := IntWalk.wrap64_in _ (by omega)
              by_cases hle : j + m ≤ 16
              · obtain ⟨s', c', hP', e⟩ := X10.out s rx c hP (by rw [hrx]; exact hle)
                have hd : (j : Int) + (m : Int) ≤ 16 := by omega
                go_wp2_with fail
                refine (kr_go HK (show Hid ((kg s 90 (k : Int) m rx c).go = (kg s' 90 (k : Int) m (rx ++ V) c', 0)) from e) (by show (0 : Int) ≤ (m : Int) ∧ (m : Int) ≤ 1000; omega) (by omega)).mono ?_
                rintro e w14 ⟨rfl, H14, -⟩
                have HR : Hid (∃ s rx c, P s ∧ rx.length = j + m ∧ Hid (KR w.heap.size (60000 + 30000 * (j + m)) kb bp w w14 (kg s 90 (k : Int) m rx c))) := ⟨s', rx ++ V, c', hP', by rw [List.length_append, hrx, HVm.out], kr_more H14 (by omega)⟩
                clear HK H14 HKj hP hrx e hP'
                go_wp2_with fail
                go_roundw
                case rel => exact ⟨j + m, hle, by push_cast; rfl, HR.out⟩
                case measure => simp [intOf]; omega
              · have hd : ¬ ((j : Int) + (m : Int) ≤ 16) := by omega
                have XF : Hid ((kg s 90 (k : Int) m rx c).go = (kg s 90 (k : Int) m rx c, 801)) := go_full rfl (by show (16 : Int) < ((rx.length : Nat) : Int) + (m : Int); omega)
                go_wp2_with fail
                refine (kr_go HK XF (by show (0 : Int) ≤ (m : Int) ∧ (m : Int) ≤ 1000; omega) (by omega)).mono ?_
                rintro e w14 ⟨rfl, H14, -⟩
                clear HK HKj
                go_wp2_with (go_at_call 19; refine (num_any _ _).mono ?_; rintro e w15 ⟨rfl, rfl⟩)
                go_ret
                exact ⟨rfl, H14.out.below⟩
          · have hm0' : m = 0 := by omega
            subst hm0'
            go_wp2_with fail
            go_ret
            exact ⟨rfl, HKe.out.below⟩
    · as_aux_lemma =>
      have hz0 : z = 0 := by have h := HZ.out; rw [if_neg (by omega)] at h; exact h
      subst hz0
      have eK : True := trivial
      have d3 : (ob == 3) = false := beq_eq_false_iff_ne.2 h3
      have d90 : (ob == 90) = false := beq_eq_false_iff_ne.2 h90
      go_wp2_with fail
      refine (kr_run_nil H3 X1 (by decide)).mono ?_
      rintro e w4 ⟨ua, uc, rfl, U4, H4, -⟩
      rw [hV] at U4 ⊢
      have hl4 := kr_lt H3
      clear H3 X1 c3 eI eM eK
      go_wp2_with (go_at_call 47; refine (kr_clocks (c := N) H4 rfl).mono ?_; rintro e w5 ⟨rfl, rfl⟩)
      refine (kr_write H4 X2).mono ?_
      rintro e w5 ⟨rfl, H5, T5⟩
      have U5 := owns_turns U4 T5 hl4.1 hl4.2
      clear H4 X2 T5 U4
      go_wp2_with fail
      refine (kr_write H5 X3).mono ?_
      rintro e w6 ⟨rfl, H6, T6⟩
      have U6 := owns_turns U5 T6 hl4.1 hl4.2
      clear H5 X3 T6 U5
      go_wp2_with fail
      refine (kr_write H6 X4).mono ?_
      rintro e w7 ⟨rfl, H7, T7⟩
      have U7 := owns_turns U6 T7 hl4.1 hl4.2
      clear H6 X4 T7 U6
      go_wp2_with fail
      refine (kr_go H7 X5 (by show (0 : Int) ≤ (m : Int) ∧ (m : Int) ≤ 1000; have := HM.out; omega) (by decide)).mono ?_
      rintro e w8 ⟨rfl, H8, T8⟩
      have U8 := owns_turns U7 T8 hl4.1 hl4.2
      clear H7 X5 T8 U7
      go_wp2_with fail
      refine (kr_read H8 X6).mono ?_
      rintro e w9 ⟨rfl, H9, T9⟩
      have U9 := owns_turns U8 T9 hl4.1 hl4.2
      clear H8 X6 T9 U8
      have p1 := X7.out
      have p2 := X8.out
      go_wp2_with (first | (go_at_call 19; refine (num_any _ _).mono ?_; rintro e w10 ⟨rfl, rfl⟩) | (go_at_call 47; refine (kr_clocks (c := C2) H9 rfl).mono ?_; rintro e w10 ⟨rfl, rfl⟩))
      clear p1 p2
      have HV : Hid (V.length = m) := hV
      clear hV
      go_loopw [23] (fun i wr => ∃ j : Nat, j ≤ m ∧ i = .int .i64 j ∧ Hid (KR w.heap.size (0 + 30000 + 30000) kb bp w wr (kg s2 ob 0 m (V.drop j) C2)) ∧ Hid (Owns W3.heap.size wr (.slice ua m uc) V)) (fun i _ => m - (intOf i).toNat)
      case atStart => exact ⟨0, Nat.zero_le _, rfl, H9.out, U9.out⟩
      case round =>
        obtain ⟨j, hj, rfl, HK, HU⟩ := hrel
        clear H9 U9
        by_cases hlt : j < m
        · obtain ⟨x, Hx⟩ : ∃ x, Hid (V.getD j 0 = x) := ⟨_, rfl⟩
          obtain ⟨g, rfl, hnc⟩ := owns_some HU HV.out (by omega)
          have XR : Hid ((kg s2 ob 0 m (V.drop j) C2).rd 4 = (kg s2 ob 0 m (V.drop (j + 1)) C2, x, 0)) := by
            rw [drop_cons' V j (by rw [HV.out]; exact hlt), Hx.out]; rfl
          go_wp2_with fail
          refine (kr_read HK XR).mono ?_
          rintro e w11 ⟨rfl, H11, T11⟩
          have U11 := owns_turns HU T11 hl4.1 hl4.2
          have cj := reads_cell U11.out.reads j (by rw [HV.out]; exact hlt)
          rw [Hx.out] at cj
          clear HK XR T11 HU
          have hm16 : m < 16 := HM.out
          go_wp2_with (go_at_call 19; refine (num_any _ _).mono ?_; rintro e w12 ⟨rfl, rfl⟩)
          go_roundw
          case rel => exact ⟨j + 1, by omega, by go_num, H11.out, U11.out⟩
          case measure => simp [intOf]; omega
        · have hjm : m = j := by omega
          subst hjm
          have HKe : Hid (KR w.heap.size (60000 + 30000 * 0) kb bp w wr (kg s2 ob 0 m [] C2)) := by
            have := HK.out
            rw [← HV.out, List.drop_length] at this
            rw [← HV.out]
            exact this
          have HVm := HV
          clear HK HU HV hj hlt
          by_cases hm0 : 0 < m
          · have HG : Hid (∃ s rx c, P s ∧ rx.length = 0 ∧ Hid (KR w.heap.size (60000 + 30000 * 0) kb bp w wr (kg s ob 0 m rx c))) := ⟨s2, [], C2, X9.out, rfl, HKe.out⟩
            clear HKe
            go_wp2_with fail
            go_loopw [26] (fun i wr => ∃ j : Nat, j ≤ 16 ∧ i = .int .i64 j ∧ Hid (∃ s rx c, P s ∧ rx.length = j ∧ Hid (KR w.heap.size (60000 + 30000 * j) kb bp w wr (kg s ob 0 m rx c)))) (fun i _ => 16 - (intOf i).toNat)
            case atStart => exact ⟨0, by omega, rfl, HG.out⟩
            case round =>
              obtain ⟨j, hj, rfl, HKj⟩ := hrel
              clear HG
              obtain ⟨s, rx, c, hP, hrx, HK⟩ := HKj.out
              have HM16 : m < 16 := HM.out
              have wS : wrap64 ((j : Int) + (m : Int)) = (j : Int) + (m : Int) := IntWalk.wrap64_in _ (by omega)
              by_cases hle : j + m ≤ 16
              · obtain ⟨s', c', hP', e⟩ := X10.out s rx c hP (by rw [hrx]; exact hle)
                have hd : (j : Int) + (m : Int) ≤ 16 := by omega
                go_wp2_with fail
                refine (kr_go HK (show Hid ((kg s ob 0 m rx c).go = (kg s' ob 0 m (rx ++ V) c', 0)) from e) (by show (0 : Int) ≤ (m : Int) ∧ (m : Int) ≤ 1000; omega) (by omega)).mono ?_
                rintro e w14 ⟨rfl, H14, -⟩
                have HR : Hid (∃ s rx c, P s ∧ rx.length = j + m ∧ Hid (KR w.heap.size (60000 + 30000 * (j + m)) kb bp w w14 (kg s ob 0 m rx c))) := ⟨s', rx ++ V, c', hP', by rw [List.length_append, hrx, HVm.out], kr_more H14 (by omega)⟩
                clear HK H14 HKj hP hrx e hP'
                go_wp2_with fail
                go_roundw
                case rel => exact ⟨j + m, hle, by push_cast; rfl, HR.out⟩
                case measure => simp [intOf]; omega
              · have hd : ¬ ((j : Int) + (m : Int) ≤ 16) := by omega
                have XF : Hid ((kg s ob 0 m rx c).go = (kg s ob 0 m rx c, 801)) := go_full rfl (by show (16 : Int) < ((rx.length : Nat) : Int) + (m : Int); omega)
                go_wp2_with fail
                refine (kr_go HK XF (by show (0 : Int) ≤ (m : Int) ∧ (m : Int) ≤ 1000; omega) (by omega)).mono ?_
                rintro e w14 ⟨rfl, H14, -⟩
                clear HK HKj
                go_wp2_with (go_at_call 19; refine (num_any _ _).mono ?_; rintro e w15 ⟨rfl, rfl⟩)
                go_ret
                exact ⟨rfl, H14.out.below⟩
          · have hm0' : m = 0 := by omega
            subst hm0'
            go_wp2_with fail
            go_ret
            exact ⟨rfl, HKe.out.below⟩

set_option maxRecDepth 100000 in
theorem lifted (os : Os) (started : os.Started) (H : Type) (enc : TypeId × Value → H) :
    ReturnsInHanded {} Tryz.checked os 9 .any (Rows.ctlGoesSpec.pre6 enc Tryz.prog Tryz.f9 Rows.ctlGoesRow.domain false) (Rows.ctlGoesSpec.post enc Tryz.prog Tryz.f9 false true false false) := by
  refine returnsInHanded_of_change (C := Tryz.checked) own started (by kernel_rfl) Tryz.func9
    (ChangeSpec.witness6 (enc := enc) (C := Tryz.checked) false ⟨#[], #[.string ByteArray.empty, .int .i64 0, .int .i64 0, .int .i64 0], []⟩ 8 (by kernel_rfl) (by kernel_rfl) (by kernel_rfl) (by kernel_rfl)) ?_
  intro W base args ds gs before hval0 hW hcnd _
  have hval : ∀ (j : Nat) t v, Tryz.f9.params[j]? = some t → args[j]? = some v → Value.okWide Tryz.prog W .any base t v := hval0
  have hW' := hW
  obtain ⟨p, q, hA0, hV, rfl, hfz, hnd⟩ := hW
  have hA : DataW.TrodAll enc Tryz.prog W 0 (fun _ => true) true Tryz.f9.params.toList args.toList ds p := hA0
  rw [Tryz.params9] at hA hval
  obtain ⟨v0, vs0, d0, ds0, p0, q0, hargs, rfl, rfl, h0, r0⟩ := trodAll_cons hA
  obtain ⟨v1, vs1, d1, ds1, p1, q1, rfl, rfl, rfl, h1, r1⟩ := trodAll_cons r0
  obtain ⟨v2, vs2, d2, ds2, p2, q2, rfl, rfl, rfl, h2, r2⟩ := trodAll_cons r1
  obtain ⟨v3, vs3, d3, ds3, p3, q3, rfl, rfl, rfl, h3, r3⟩ := trodAll_cons r2
  obtain ⟨rfl, rfl, rfl⟩ := trodAll_nil r3
  obtain rfl : args = #[v0, v1, v2, v3] := by cases args; simp_all
  obtain ⟨rfl, rfl⟩ := trodVars_none hV
  obtain ⟨a0, rfl, rfl, rfl, w0⟩ := open_string Tryz.underlying9 (hval 0 9 v0 rfl rfl) h0
  obtain ⟨a1, rfl, rfl, rfl, w1⟩ := open_int Tryz.underlying3 (hval 1 3 v1 rfl rfl) h1
  obtain ⟨a2, rfl, rfl, rfl, w2⟩ := open_int Tryz.underlying3 (hval 2 3 v2 rfl rfl) h2
  obtain ⟨a3, rfl, rfl, rfl, w3⟩ := open_int Tryz.underlying3 (hval 3 3 v3 rfl rfl) h3
  clear hA0 hval0
  refine (walk a0 a1 a2 a3 W w0 w1 w2 w3).mono fun e W' ⟨he, bel⟩ => ?_
  subst he
  exact ⟨_, rfl, _, _, _, [], _, [], hW', trodAll_mk1 (shut_bool Tryz.underlying4 _), (trodAll_cons_mk (shut_string Tryz.underlying9 w0) (trodAll_cons_mk (shut_int Tryz.underlying3 w1) (trodAll_cons_mk (shut_int Tryz.underlying3 w2) (trodAll_cons_mk (shut_int Tryz.underlying3 w3) trodAll_mk0)))), rfl, bel.frame _, fun h => by cases h⟩

theorem over : Rows.ctlGoesRow.holds Tryz.pinned (OpenSpec.ofChange Rows.ctlGoesSpec) :=
  OpenClaim.holds_of_wide 9 Tryz.f9 rfl rfl rfl rfl rfl rfl rfl ⟨rfl, rfl, rfl, rfl, rfl⟩ rfl rfl rfl rfl rfl (by kernel_rfl) Tryz.func9 (by kernel_rfl)
    (of_decide_eq_true (by kernel_rfl)) (by unfold Func.isWrapper; first | (rw [if_pos (by decide +kernel)]; kernel_rfl) | (rw [if_neg (by decide +kernel)]; exact ⟨rfl, rfl⟩))
    (fun os started H enc _ => lifted os started H enc)

theorem proved : Rows.CtlGoesSaid := over
#print axioms proved
end Go.Proofs.YtjhjghakfedeeaaGreat.ctlGoes
