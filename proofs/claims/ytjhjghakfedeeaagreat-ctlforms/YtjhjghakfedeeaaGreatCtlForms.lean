/-
  CtlForms: registers, numbers, commands that are none are refused, and a nil controller answers so. No conditions.
-/
import Derived.Test.YtjhjghakfedeeaaGreatRows
import Derived.Test.YtjhjghakfedeeaaGreatCtlNil
import Derived.BigQuiet
import Derived.Deep.QuietTactic
import Derived.WalkKit
import Derived.ProofKit
import Derived.OpenShut
import Derived.ShutString
import Derived.ChangeOld
import Derived.Below
namespace Go.Proofs.YtjhjghakfedeeaaGreat.ctlForms
open Go.Proofs.YtjhjghakfedeeaaGreat.Plain
open Go.ChangeShapes Go.WideShapes Go.ChangeAt Go.RowKit
open Go.ChangeMaps (open_string shut_string)
set_option linter.unusedVariables false

theorem own : ownKnob Tryz.prog.godebug = none := by kernel_rfl
theorem laidOut : laidOutB Tryz.prog = true := by kernel_rfl

set_option maxRecDepth 100000 in
set_option maxHeartbeats 16000000 in
theorem walk (a0 : Int) (a1 : Int) (w : World) (w0 : (Lit.int .i64 a0).wf = true) (w1 : (Lit.int .i64 a1).wf = true) :
    Calls Tryz.prog 8 #[.int .i64 a0, .int .i64 a1] w fun e w' => e = .returned (.bool true) ∧ Below w.heap.size w w' := by
  obtain ⟨X, hX, eX, -⟩ : ∃ X : Nat, X < 1024 ∧ bits .and .i64 a1 1023 = (X : Int) ∧ (X : Int) = a1 % 1024 := mask_nat a1 10 (by decide)
  obtain ⟨I, hI, eI⟩ := umod a0 8 (by decide) (by decide)
  have HEI : Hid (wrap64 ((IntKind.u64.wrap a0).tmod 8) = (I : Int)) := eI
  clear eI
  obtain ⟨J, hJ, eJ, -⟩ : ∃ J : Nat, J < 2 ∧ bits .and .i64 a0 1 = (J : Int) ∧ (J : Int) = a0 % 2 := mask_nat a0 1 (by decide)
  have HEJ : Hid (bits .and .i64 a0 1 = (J : Int)) := eJ
  clear eJ
  obtain ⟨D, hD⟩ : ∃ D, 1 + X = D := ⟨_, rfl⟩
  have hD1 : 1 ≤ D := by omega
  have hD2 : D ≤ 1024 := by omega
  have eD : 1 + (X : Int) = (D : Int) := by omega
  obtain ⟨reg, x, z, HR1, HR2, HR3, HX, HZ⟩ := forms_facts I hI D hD1 hD2 J hJ
  have HF : Hid (∀ s, _) := fun s => forms_runs s D hD1 hD2
  have wD : wrap64 (D : Int) = (D : Int) := IntWalk.wrap64_in _ (by omega)
  have HwN : Hid (wrap64 (-(D : Int)) = -(D : Int)) := IntWalk.wrap64_in _ (by omega)
  have Hw4' : Hid (wrap64 (4 + (D : Int)) = 4 + (D : Int)) := IntWalk.wrap64_in _ (by omega)
  have Hw5' : Hid (wrap64 (4095 + (D : Int)) = 4095 + (D : Int)) := IntWalk.wrap64_in _ (by omega)
  have Hw6' : Hid (wrap64 (16 + (D : Int)) = 16 + (D : Int)) := IntWalk.wrap64_in _ (by omega)
  have Hw7' : Hid (wrap64 (255 + (D : Int)) = 255 + (D : Int)) := IntWalk.wrap64_in _ (by omega)
  have HI8 : Hid (I < 8) := hI
  have HJ2 : Hid (J < 2) := hJ
  have HBn : Hid (D ≤ 1024 ∧ 1 ≤ D) := ⟨hD2, hD1⟩
  clear hX hD hI hJ hD1 hD2
  go_enter Tryz.func8, Tryz.ntmps8
  go_wp2_with fail
  refine (cawake_any _).mono ?_
  rintro e u1 ⟨rfl, b1⟩
  go_wp2_with fail
  refine (ctwins_mine _ u1 (by unfold maxLen; decide)).mono ?_
  rintro e w1 ⟨bp, b, rfl, hbp, HL, hbw⟩
  have HB0 : Hid (Below w.heap.size w w1) := below_then b1 hbw
  have hwb : w.heap.size ≤ bp := Nat.le_trans b1.size hbp
  clear hbw hbp b1
  go_wp2_with fail
  refine (kr_new HL.out rfl HB0.out hwb (Nat.le_refl _)).mono ?_
  rintro e w2 ⟨kb, rfl, H2⟩
  clear HL HB0 hwb
  obtain ⟨s, Hs⟩ : ∃ s, Hid (newSt (wide ⟨#[97]⟩) = s) := ⟨_, rfl⟩
  rw [Hs.out] at H2
  obtain ⟨X5, X6, X7, X8, X9, X10, X11⟩ := HF.out s
  have X5 : Hid (_ = _) := X5
  have X6 : Hid (_ = _) := X6
  have X7 : Hid (_ = _) := X7
  have X8 : Hid (_ = _) := X8
  have X9 : Hid (_ = _) := X9
  have X10 : Hid (_ = _) := X10
  have X11 : Hid (newK s = kfull s 0) := X11
  clear HF Hs eX eD
  have eI := HEI.out
  have wN := HwN.out
  have w4' := Hw4'.out
  have w5' := Hw5'.out
  have w6' := Hw6'.out
  have w7' := Hw7'.out
  have hb3 := below_then (below_new w2 (.cells #[.int .i64 (-(D : Int)), .int .i64 (4 + (D : Int)), .int .i64 3, .int .i64 0, .int .i64 1, .int .i64 2, .int .i64 4, .int .i64 4] 3)) (below_new (w2.alloc (.cells #[.int .i64 (-(D : Int)), .int .i64 (4 + (D : Int)), .int .i64 3, .int .i64 0, .int .i64 1, .int .i64 2, .int .i64 4, .int .i64 4] 3)) (.cells #[.int .i64 0, .int .i64 0, .int .i64 0, .int .i64 (-(D : Int)), .int .i64 (4095 + (D : Int)), .int .i64 (16 + (D : Int)), .int .i64 (255 + (D : Int)), .int .i64 (-(D : Int))] 3))
  have H3 := kr_below H2 hb3
  have c1 := cell_lit (heap_two w2 (.cells #[.int .i64 (-(D : Int)), .int .i64 (4 + (D : Int)), .int .i64 3, .int .i64 0, .int .i64 1, .int .i64 2, .int .i64 4, .int .i64 4] 3) (.cells #[.int .i64 0, .int .i64 0, .int .i64 0, .int .i64 (-(D : Int)), .int .i64 (4095 + (D : Int)), .int .i64 (16 + (D : Int)), .int .i64 (255 + (D : Int)), .int .i64 (-(D : Int))] 3)) (L := [-(D : Int), 4 + (D : Int), 3, 0, 1, 2, 4, 4]) rfl I (by exact HI8.out)
  have c2 := cell_lit (heap_last w2 (.cells #[.int .i64 (-(D : Int)), .int .i64 (4 + (D : Int)), .int .i64 3, .int .i64 0, .int .i64 1, .int .i64 2, .int .i64 4, .int .i64 4] 3) (.cells #[.int .i64 0, .int .i64 0, .int .i64 0, .int .i64 (-(D : Int)), .int .i64 (4095 + (D : Int)), .int .i64 (16 + (D : Int)), .int .i64 (255 + (D : Int)), .int .i64 (-(D : Int))] 3)) (L := [0, 0, 0, -(D : Int), 4095 + (D : Int), 16 + (D : Int), 255 + (D : Int), -(D : Int)]) rfl I (by exact HI8.out)
  rw [HR1.out] at c1
  rw [HR2.out] at c2
  clear hb3 H2
  go_upto_region 11 with (go_at_call 19; refine (num_any _ _).mono ?_; rintro e w3 ⟨rfl, rfl⟩)
  generalize hW3 : ((w2.alloc (.cells #[.int .i64 (-(D : Int)), .int .i64 (4 + (D : Int)), .int .i64 3, .int .i64 0, .int .i64 1, .int .i64 2, .int .i64 4, .int .i64 4] 3)).alloc (.cells #[.int .i64 0, .int .i64 0, .int .i64 0, .int .i64 (-(D : Int)), .int .i64 (4095 + (D : Int)), .int .i64 (16 + (D : Int)), .int .i64 (255 + (D : Int)), .int .i64 (-(D : Int))] 3)) = W3 at H3 c1 c2 ⊢
  have HW : Hid (∀ c, Calls Tryz.prog 37 #[.pointer (some ⟨kb, 0, none⟩), .int .i64 reg, .int .i64 x] (W3.drewN c) fun e w' => e = .returned (.int .i64 1100) ∧ w' = W3.drewN c) := fun c => cwrite_form 0 kb bp (newK s) reg x _ (H3.out.lies.below (below_drewN (Below.refl _ _) c)) rfl HX.out
  clear hW3
  have hI0 : (0 : Int) ≤ (I : Int) := by omega
  have hI7 : (I : Int) < 8 := by have := HI8.out; omega
  go_quiet (first | (go_at_call 37; exact Calls.quiet_of_same (HW.out _)))
  obtain ⟨W4, hW4⟩ : ∃ W4, W4 = W3.drewN nq := ⟨_, rfl⟩
  have H4 : Hid (KR w.heap.size 0 kb bp w W4 (newK s)) := by rw [hW4]; exact kr_below H3 (below_drewN (Below.refl _ _) _)
  rw [← hW4]
  clear hW4 H3 c1 c2 HW HX eI w5' w6' w7' hI0 hI7
  have eJ := HEJ.out
  have H5 := kr_below H4 (below_new W4 (.cells #[.int .i64 (-(D : Int)), .int .i64 (4 + (D : Int))] 3))
  have c3 := cell_lit (heap_alloc_new W4 (.cells #[.int .i64 (-(D : Int)), .int .i64 (4 + (D : Int))] 3)) (L := [-(D : Int), 4 + (D : Int)]) rfl J (by exact HJ2.out)
  rw [HR3.out] at c3
  have hJ0 : (0 : Int) ≤ (J : Int) := by omega
  have hJ1 : (J : Int) < 2 := by have := HJ2.out; omega
  clear H4
  go_wp2_with fail
  refine (kr_read H5 (show Hid ((newK s).rd z = (newK s, 0, 1100)) from rd_none s z HZ.out)).mono ?_
  rintro e w6 ⟨rfl, H6, -⟩
  clear H5 c3 HZ eJ hJ0 hJ1 w4'
  go_wp2_with fail
  refine (kr_read H6 X9).mono ?_
  rintro e w7 ⟨rfl, H7, -⟩
  clear H6 X9
  go_wp2_with fail
  refine (kr_cut H7 X8 (by have := HBn.out; omega)).mono ?_
  rintro e w8 ⟨rfl, H8, -⟩
  clear H7 X8 wN
  have w7' := Hw7'.out
  go_wp2_with fail
  refine (kr_run_nil H8 X5 (by decide)).mono ?_
  rintro e w9 ⟨ua9, uc9, rfl, -, H9, -⟩
  clear H8 X5 w7'
  have w5' := Hw5'.out
  go_wp2_with fail
  refine (kr_run_nil H9 X6 (by decide)).mono ?_
  rintro e w10 ⟨ua10, uc10, rfl, -, H10, -⟩
  clear H9 X6 w5' wD
  go_wp2_with fail
  refine (kr_go H10 X7 (by show (0 : Int) ≤ 0 ∧ (0 : Int) ≤ 1000; decide) (by decide)).mono ?_
  rintro e w11 ⟨rfl, H11, -⟩
  rw [X11.out] at H11
  clear H10 X7
  go_wp2_with fail
  go_loopw [24] (fun i wr => ∃ j : Nat, j ≤ 16 ∧ i = .int .i64 j ∧ Hid (KR w.heap.size 90000 kb bp w wr (kfull s j))) (fun i _ => 16 - (intOf i).toNat)
  case atStart => exact ⟨0, by omega, rfl, H11.out⟩
  case round =>
    obtain ⟨j, hj, rfl, HK⟩ := hrel
    clear H11
    by_cases hlt : j < 16
    · go_wp2_with fail
      refine (kr_write HK (show Hid ((kfull s j).wr 4 (j : Int) = (kfull s (j + 1), 0)) from kfull_more s j hlt)).mono ?_
      rintro e w12 ⟨rfl, H12, -⟩
      clear HK
      go_wp2_with fail
      go_roundw
      case rel => exact ⟨j + 1, by omega, by go_num, H12.out⟩
      case measure => simp [intOf]; omega
    · have hj16 : j = 16 := by omega
      subst hj16
      clear hlt hj
      go_wp2_with fail
      refine (kr_write HK (show Hid ((kfull s 16).wr 4 1 = (kfull s 16, 801)) from kfull_full s)).mono ?_
      rintro e w12 ⟨rfl, H12, -⟩
      clear HK
      go_wp2_with fail
      refine (kr_read H12 X10).mono ?_
      rintro e w13 ⟨rfl, H13, -⟩
      clear H12 X10
      go_wp2_with (first | (go_at_call 34; refine (crun_nilptr _ _ _ _).mono ?_; rintro e w14 ⟨rfl, rfl⟩) | (go_at_call 39; refine (cread_nil _ _).mono ?_; rintro e w14 ⟨rfl, rfl⟩) | (go_at_call 19; refine (num_any _ _).mono ?_; rintro e w14 ⟨rfl, rfl⟩))
      refine (kr_clocks (c := 0) H13 rfl).mono ?_
      rintro e w14 ⟨rfl, rfl⟩
      go_wp2_with fail
      refine (kr_lost (l := false) H13 rfl).mono ?_
      rintro e w14 ⟨rfl, rfl⟩
      go_wp2_with (first | (go_at_call 37; refine (cwrite_nil _ _ _).mono ?_; rintro e w14 ⟨rfl, rfl⟩) | (go_at_call 43; refine (ccut_nil _ _).mono ?_; rintro e w14 ⟨rfl, rfl⟩) | (go_at_call 19; refine (num_any _ _).mono ?_; rintro e w14 ⟨rfl, rfl⟩))
      refine (cclocks_nil _).mono ?_
      rintro e w14 ⟨rfl, rfl⟩
      go_wp2_with fail
      refine (clost_nil _).mono ?_
      rintro e w14 ⟨rfl, rfl⟩
      go_wp2_with fail
      go_ret
      exact ⟨rfl, H13.out.below⟩

set_option maxRecDepth 100000 in
theorem lifted (os : Os) (started : os.Started) (H : Type) (enc : TypeId × Value → H) :
    ReturnsInHanded {} Tryz.checked os 8 .any (Rows.ctlFormsSpec.pre6 enc Tryz.prog Tryz.f8 Rows.ctlFormsRow.domain false) (Rows.ctlFormsSpec.post enc Tryz.prog Tryz.f8 false true false false) := by
  refine returnsInHanded_of_change (C := Tryz.checked) own started (by kernel_rfl) Tryz.func8
    (ChangeSpec.witness6 (enc := enc) (C := Tryz.checked) false ⟨#[], #[.int .i64 0, .int .i64 0], []⟩ 8 (by kernel_rfl) (by kernel_rfl) (by kernel_rfl) (by kernel_rfl)) ?_
  intro W base args ds gs before hval0 hW hcnd _
  have hval : ∀ (j : Nat) t v, Tryz.f8.params[j]? = some t → args[j]? = some v → Value.okWide Tryz.prog W .any base t v := hval0
  have hW' := hW
  obtain ⟨p, q, hA0, hV, rfl, hfz, hnd⟩ := hW
  have hA : DataW.TrodAll enc Tryz.prog W 0 (fun _ => true) true Tryz.f8.params.toList args.toList ds p := hA0
  rw [Tryz.params8] at hA hval
  obtain ⟨v0, vs0, d0, ds0, p0, q0, hargs, rfl, rfl, h0, r0⟩ := trodAll_cons hA
  obtain ⟨v1, vs1, d1, ds1, p1, q1, rfl, rfl, rfl, h1, r1⟩ := trodAll_cons r0
  obtain ⟨rfl, rfl, rfl⟩ := trodAll_nil r1
  obtain rfl : args = #[v0, v1] := by cases args; simp_all
  obtain ⟨rfl, rfl⟩ := trodVars_none hV
  obtain ⟨a0, rfl, rfl, rfl, w0⟩ := open_int Tryz.underlying3 (hval 0 3 v0 rfl rfl) h0
  obtain ⟨a1, rfl, rfl, rfl, w1⟩ := open_int Tryz.underlying3 (hval 1 3 v1 rfl rfl) h1
  clear hA0 hval0
  refine (walk a0 a1 W w0 w1).mono fun e W' ⟨he, bel⟩ => ?_
  subst he
  exact ⟨_, rfl, _, _, _, [], _, [], hW', trodAll_mk1 (shut_bool Tryz.underlying4 _), (trodAll_cons_mk (shut_int Tryz.underlying3 w0) (trodAll_cons_mk (shut_int Tryz.underlying3 w1) trodAll_mk0)), rfl, bel.frame _, fun h => by cases h⟩

theorem over : Rows.ctlFormsRow.holds Tryz.pinned (OpenSpec.ofChange Rows.ctlFormsSpec) :=
  OpenClaim.holds_of_wide 8 Tryz.f8 rfl rfl rfl rfl rfl rfl rfl ⟨rfl, rfl, rfl, rfl, rfl⟩ rfl rfl rfl rfl rfl (by kernel_rfl) Tryz.func8 (by kernel_rfl)
    (of_decide_eq_true (by kernel_rfl)) (by unfold Func.isWrapper; first | (rw [if_pos (by decide +kernel)]; kernel_rfl) | (rw [if_neg (by decide +kernel)]; exact ⟨rfl, rfl⟩))
    (fun os started H enc _ => lifted os started H enc)

theorem proved : Rows.CtlFormsSaid := over
#print axioms proved
end Go.Proofs.YtjhjghakfedeeaaGreat.ctlForms
