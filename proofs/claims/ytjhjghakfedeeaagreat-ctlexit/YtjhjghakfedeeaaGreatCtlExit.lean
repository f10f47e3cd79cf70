/-
  CtlExit: behind a read that goes on any other command is run as ever, and costs eight clocks more, once. No conditions.
-/
import Derived.Test.YtjhjghakfedeeaaGreatRows
import Derived.Test.YtjhjghakfedeeaaGreatCtlLaws
import Derived.WalkKit
import Derived.ProofKit
import Derived.OpenShut
import Derived.ShutString
import Derived.ChangeOld
import Derived.Below
namespace Go.Proofs.YtjhjghakfedeeaaGreat.ctlExit
open Go.Proofs.YtjhjghakfedeeaaGreat.Plain
open Go.ChangeShapes Go.WideShapes Go.ChangeAt Go.RowKit
open Go.ChangeMaps (open_string shut_string)
set_option linter.unusedVariables false

theorem own : ownKnob Tryz.prog.godebug = none := by kernel_rfl
theorem laidOut : laidOutB Tryz.prog = true := by kernel_rfl

set_option maxRecDepth 100000 in
set_option maxHeartbeats 8000000 in
theorem walk (a0 : Int) (a1 : Int) (w : World) (w0 : (Lit.int .i64 a0).wf = true) (w1 : (Lit.int .i64 a1).wf = true) :
    Calls Tryz.prog 11 #[.int .i64 a0, .int .i64 a1] w fun e w' => e = .returned (.bool true) ∧ Below w.heap.size w w' := by
  obtain ⟨K, hK, eK, e3⟩ := mask_3 a1
  obtain ⟨k, hk, ek, -⟩ := mask_4095 a0
  have e1 : bits .and .i64 a1 1 = ((K % 2 : Nat) : Int) := by rw [and_1]; omega
  go_enter Tryz.func11, Tryz.ntmps11
  go_wp2_with fail
  refine (cawake_any _).mono ?_
  rintro e u1 ⟨rfl, b1⟩
  go_wp2_with fail
  refine (ctwins_mine _ u1 (by unfold maxLen; decide)).mono ?_
  rintro e w1 ⟨bp, b, rfl, hbp, HL, hbw⟩
  have HB0 : Hid (Below w.heap.size w w1) := below_then b1 hbw
  have hwb : w.heap.size ≤ bp := Nat.le_trans b1.size hbp
  clear hbw hbp b1
  go_wp2_with fail
  refine (kr_new HL.out rfl HB0.out hwb (Nat.le_refl _)).mono ?_
  rintro e w2 ⟨kb, rfl, H2⟩
  clear HL HB0 hwb
  obtain ⟨s2, HQ, XA, XB⟩ := kq_start (wide ⟨#[102, 103, 104]⟩)
  have XA : Hid (_ = _) := XA
  have XB : Hid (_ = _) := XB
  have HQ : Hid (St.Quads s2 _ false) := HQ
  rw [kq_new] at H2
  go_wp2_with (go_at_call 19; refine (num_any _ _).mono ?_; rintro e w3 ⟨rfl, rfl⟩)
  refine (kr_run_nil H2 XA (by decide)).mono ?_
  rintro e w3 ⟨ua, uc, rfl, -, H3, -⟩
  clear H2 XA
  go_wp2_with fail
  refine (kr_run_lit H3 XB #[.int .i64 0, .int .i64 2] 2 rfl rfl (by decide) (by decide)).mono ?_
  rintro e w4 ⟨va, vc, rfl, -, H4, -⟩
  clear H3 XB
  obtain ⟨b, z, V, W, N, M, C1, C2, C3, C4, t, hb, hz, X4, X5, X6, X7, hVl, q1, q2, q3, q4, wN, wM⟩ := exit_all HQ.out K hK k hk
  have hb5 := below_new w4 (.cells #[.int .i64 159, .int .i64 3, .int .i64 53, .int .i64 107] 3)
  have H5 := kr_below H4 hb5
  have hlt := kr_lt H5
  clear H4 hb5 HQ
  rcases (show K = 0 ∨ K = 1 ∨ K = 2 ∨ K = 3 by omega) with rfl | rfl | rfl | rfl
  · as_aux_lemma =>
    obtain rfl : b = 159 := hb
    obtain rfl : z = 0 := hz
    have eK' : bits .and .i64 a1 3 = 0 := eK
    have e1' : bits .and .i64 a1 1 = 0 := e1
    have cK : (w4.alloc (.cells #[.int .i64 159, .int .i64 3, .int .i64 53, .int .i64 107] 3)).cell? ⟨w4.heap.size, 0, none⟩ = some (.int .i64 159) := by simp
    clear eK e1 e3
    go_wp2_with (go_at_call 47; refine (kr_clocks (c := 32) H5 rfl).mono ?_; rintro e w6 ⟨rfl, rfl⟩)
    refine (kr_run_nil H5 X4 (by decide)).mono ?_
    rintro e w6 ⟨ua6, uc6, rfl, U6, H6, T6⟩
    clear H5 X4 T6
    go_wp2_with (go_at_call 47; refine (kr_clocks (c := C1) H6 rfl).mono ?_; rintro e w7 ⟨rfl, rfl⟩)
    refine (kr_run_lit H6 X5 #[.int .i64 160] 1 rfl rfl (by decide) (by decide)).mono ?_
    rintro e w7 ⟨ua7, uc7, rfl, -, H7, T7⟩
    have U7 := owns_turns U6 T7 hlt.1 hlt.2
    clear H6 X5 T7 U6
    go_wp2_with (go_at_call 47; refine (kr_clocks (c := C2) H7 rfl).mono ?_; rintro e w8 ⟨rfl, rfl⟩)
    refine (kr_run_nil H7 X6 (by decide)).mono ?_
    rintro e w8 ⟨ua8, uc8, rfl, V8, H8, T8⟩
    have U8 := owns_turns U7 T8 hlt.1 hlt.2
    have hl8 := kr_lt H7
    clear H7 X6 T8 U7
    go_wp2_with (go_at_call 47; refine (kr_clocks (c := C3) H8 rfl).mono ?_; rintro e w9 ⟨rfl, rfl⟩)
    refine (kr_run_nil H8 X7 (by decide)).mono ?_
    rintro e w9 ⟨ua9, uc9, rfl, Z9, H9, T9⟩
    have U9 := owns_turns U8 T9 hlt.1 hlt.2
    have V9 := owns_turns V8 T9 hl8.1 hl8.2
    clear H8 X7 T9 U8 V8
    go_wp2_with (first | (go_at_call 47; refine (kr_clocks (c := C4) H9 rfl).mono ?_; rintro e w10 ⟨rfl, rfl⟩) | (go_at_call 19; refine (num_any _ _).mono ?_; rintro e w10 ⟨rfl, rfl⟩))
    refine (same_any _ _ _ _ _ U9.out.reads V9.out.reads hVl hVl).mono ?_
    rintro e w10 ⟨rfl, b10⟩
    have H10 := kr_below H9 b10
    have U10 := owns_below U9 b10
    have Z10 := owns_below Z9 b10
    clear H9 U9 V9 Z9 b10
    go_wp2_with fail
    refine (same_any _ _ _ _ _ U10.out.reads Z10.out.reads hVl hVl).mono ?_
    rintro e w11 ⟨rfl, b11⟩
    have H11 := kr_below H10 b11
    clear H10 U10 Z10 b11
    go_wp2
    go_ret
    exact ⟨rfl, H11.out.below⟩
  · as_aux_lemma =>
    obtain rfl : b = 3 := hb
    obtain rfl : z = (k : Int) := hz
    have eK' : bits .and .i64 a1 3 = 1 := eK
    have e1' : bits .and .i64 a1 1 = 1 := e1
    have cK : (w4.alloc (.cells #[.int .i64 159, .int .i64 3, .int .i64 53, .int .i64 107] 3)).cell? ⟨w4.heap.size, 1, none⟩ = some (.int .i64 3) := by simp
    clear eK e1 e3
    go_wp2_with (go_at_call 47; refine (kr_clocks (c := 32) H5 rfl).mono ?_; rintro e w6 ⟨rfl, rfl⟩)
    refine (kr_run_nil H5 X4 (by decide)).mono ?_
    rintro e w6 ⟨ua6, uc6, rfl, U6, H6, T6⟩
    clear H5 X4 T6
    go_wp2_with (go_at_call 47; refine (kr_clocks (c := C1) H6 rfl).mono ?_; rintro e w7 ⟨rfl, rfl⟩)
    refine (kr_run_lit H6 X5 #[.int .i64 160] 1 rfl rfl (by decide) (by decide)).mono ?_
    rintro e w7 ⟨ua7, uc7, rfl, -, H7, T7⟩
    have U7 := owns_turns U6 T7 hlt.1 hlt.2
    clear H6 X5 T7 U6
    go_wp2_with (go_at_call 47; refine (kr_clocks (c := C2) H7 rfl).mono ?_; rintro e w8 ⟨rfl, rfl⟩)
    refine (kr_run_nil H7 X6 (by decide)).mono ?_
    rintro e w8 ⟨ua8, uc8, rfl, V8, H8, T8⟩
    have U8 := owns_turns U7 T8 hlt.1 hlt.2
    have hl8 := kr_lt H7
    clear H7 X6 T8 U7
    go_wp2_with (go_at_call 47; refine (kr_clocks (c := C3) H8 rfl).mono ?_; rintro e w9 ⟨rfl, rfl⟩)
    refine (kr_run_nil H8 X7 (by decide)).mono ?_
    rintro e w9 ⟨ua9, uc9, rfl, Z9, H9, T9⟩
    have U9 := owns_turns U8 T9 hlt.1 hlt.2
    have V9 := owns_turns V8 T9 hl8.1 hl8.2
    clear H8 X7 T9 U8 V8
    go_wp2_with (first | (go_at_call 47; refine (kr_clocks (c := C4) H9 rfl).mono ?_; rintro e w10 ⟨rfl, rfl⟩) | (go_at_call 19; refine (num_any _ _).mono ?_; rintro e w10 ⟨rfl, rfl⟩))
    refine (same_any _ _ _ _ _ U9.out.reads V9.out.reads hVl hVl).mono ?_
    rintro e w10 ⟨rfl, b10⟩
    have H10 := kr_below H9 b10
    have U10 := owns_below U9 b10
    have Z10 := owns_below Z9 b10
    clear H9 U9 V9 Z9 b10
    go_wp2_with fail
    refine (same_any _ _ _ _ _ U10.out.reads Z10.out.reads hVl hVl).mono ?_
    rintro e w11 ⟨rfl, b11⟩
    have H11 := kr_below H10 b11
    clear H10 U10 Z10 b11
    go_wp2
    go_ret
    exact ⟨rfl, H11.out.below⟩
  · as_aux_lemma =>
    obtain rfl : b = 53 := hb
    obtain rfl : z = 0 := hz
    have eK' : bits .and .i64 a1 3 = 2 := eK
    have e1' : bits .and .i64 a1 1 = 0 := e1
    have cK : (w4.alloc (.cells #[.int .i64 159, .int .i64 3, .int .i64 53, .int .i64 107] 3)).cell? ⟨w4.heap.size, 2, none⟩ = some (.int .i64 53) := by simp
    clear eK e1 e3
    go_wp2_with (go_at_call 47; refine (kr_clocks (c := 32) H5 rfl).mono ?_; rintro e w6 ⟨rfl, rfl⟩)
    refine (kr_run_nil H5 X4 (by decide)).mono ?_
    rintro e w6 ⟨ua6, uc6, rfl, U6, H6, T6⟩
    clear H5 X4 T6
    go_wp2_with (go_at_call 47; refine (kr_clocks (c := C1) H6 rfl).mono ?_; rintro e w7 ⟨rfl, rfl⟩)
    refine (kr_run_lit H6 X5 #[.int .i64 160] 1 rfl rfl (by decide) (by decide)).mono ?_
    rintro e w7 ⟨ua7, uc7, rfl, -, H7, T7⟩
    have U7 := owns_turns U6 T7 hlt.1 hlt.2
    clear H6 X5 T7 U6
    go_wp2_with (go_at_call 47; refine (kr_clocks (c := C2) H7 rfl).mono ?_; rintro e w8 ⟨rfl, rfl⟩)
    refine (kr_run_nil H7 X6 (by decide)).mono ?_
    rintro e w8 ⟨ua8, uc8, rfl, V8, H8, T8⟩
    have U8 := owns_turns U7 T8 hlt.1 hlt.2
    have hl8 := kr_lt H7
    clear H7 X6 T8 U7
    go_wp2_with (go_at_call 47; refine (kr_clocks (c := C3) H8 rfl).mono ?_; rintro e w9 ⟨rfl, rfl⟩)
    refine (kr_run_nil H8 X7 (by decide)).mono ?_
    rintro e w9 ⟨ua9, uc9, rfl, Z9, H9, T9⟩
    have U9 := owns_turns U8 T9 hlt.1 hlt.2
    have V9 := owns_turns V8 T9 hl8.1 hl8.2
    clear H8 X7 T9 U8 V8
    go_wp2_with (first | (go_at_call 47; refine (kr_clocks (c := C4) H9 rfl).mono ?_; rintro e w10 ⟨rfl, rfl⟩) | (go_at_call 19; refine (num_any _ _).mono ?_; rintro e w10 ⟨rfl, rfl⟩))
    refine (same_any _ _ _ _ _ U9.out.reads V9.out.reads hVl hVl).mono ?_
    rintro e w10 ⟨rfl, b10⟩
    have H10 := kr_below H9 b10
    have U10 := owns_below U9 b10
    have Z10 := owns_below Z9 b10
    clear H9 U9 V9 Z9 b10
    go_wp2_with fail
    refine (same_any _ _ _ _ _ U10.out.reads Z10.out.reads hVl hVl).mono ?_
    rintro e w11 ⟨rfl, b11⟩
    have H11 := kr_below H10 b11
    clear H10 U10 Z10 b11
    go_wp2
    go_ret
    exact ⟨rfl, H11.out.below⟩
  · as_aux_lemma =>
    obtain rfl : b = 107 := hb
    obtain rfl : z = (k : Int) := hz
    have eK' : bits .and .i64 a1 3 = 3 := eK
    have e1' : bits .and .i64 a1 1 = 1 := e1
    have cK : (w4.alloc (.cells #[.int .i64 159, .int .i64 3, .int .i64 53, .int .i64 107] 3)).cell? ⟨w4.heap.size, 3, none⟩ = some (.int .i64 107) := by simp
    clear eK e1 e3
    go_wp2_with (go_at_call 47; refine (kr_clocks (c := 32) H5 rfl).mono ?_; rintro e w6 ⟨rfl, rfl⟩)
    refine (kr_run_nil H5 X4 (by decide)).mono ?_
    rintro e w6 ⟨ua6, uc6, rfl, U6, H6, T6⟩
    clear H5 X4 T6
    go_wp2_with (go_at_call 47; refine (kr_clocks (c := C1) H6 rfl).mono ?_; rintro e w7 ⟨rfl, rfl⟩)
    refine (kr_run_lit H6 X5 #[.int .i64 160] 1 rfl rfl (by decide) (by decide)).mono ?_
    rintro e w7 ⟨ua7, uc7, rfl, -, H7, T7⟩
    have U7 := owns_turns U6 T7 hlt.1 hlt.2
    clear H6 X5 T7 U6
    go_wp2_with (go_at_call 47; refine (kr_clocks (c := C2) H7 rfl).mono ?_; rintro e w8 ⟨rfl, rfl⟩)
    refine (kr_run_nil H7 X6 (by decide)).mono ?_
    rintro e w8 ⟨ua8, uc8, rfl, V8, H8, T8⟩
    have U8 := owns_turns U7 T8 hlt.1 hlt.2
    have hl8 := kr_lt H7
    clear H7 X6 T8 U7
    go_wp2_with (go_at_call 47; refine (kr_clocks (c := C3) H8 rfl).mono ?_; rintro e w9 ⟨rfl, rfl⟩)
    refine (kr_run_nil H8 X7 (by decide)).mono ?_
    rintro e w9 ⟨ua9, uc9, rfl, Z9, H9, T9⟩
    have U9 := owns_turns U8 T9 hlt.1 hlt.2
    have V9 := owns_turns V8 T9 hl8.1 hl8.2
    clear H8 X7 T9 U8 V8
    go_wp2_with (first | (go_at_call 47; refine (kr_clocks (c := C4) H9 rfl).mono ?_; rintro e w10 ⟨rfl, rfl⟩) | (go_at_call 19; refine (num_any _ _).mono ?_; rintro e w10 ⟨rfl, rfl⟩))
    refine (same_any _ _ _ _ _ U9.out.reads V9.out.reads hVl hVl).mono ?_
    rintro e w10 ⟨rfl, b10⟩
    have H10 := kr_below H9 b10
    have U10 := owns_below U9 b10
    have Z10 := owns_below Z9 b10
    clear H9 U9 V9 Z9 b10
    go_wp2_with fail
    refine (same_any _ _ _ _ _ U10.out.reads Z10.out.reads hVl hVl).mono ?_
    rintro e w11 ⟨rfl, b11⟩
    have H11 := kr_below H10 b11
    clear H10 U10 Z10 b11
    go_wp2
    go_ret
    exact ⟨rfl, H11.out.below⟩

set_option maxRecDepth 100000 in
theorem lifted (os : Os) (started : os.Started) (H : Type) (enc : TypeId × Value → H) :
    ReturnsInHanded {} Tryz.checked os 11 .any (Rows.ctlExitSpec.pre6 enc Tryz.prog Tryz.f11 Rows.ctlExitRow.domain false) (Rows.ctlExitSpec.post enc Tryz.prog Tryz.f11 false true false false) := by
  refine returnsInHanded_of_change (C := Tryz.checked) own started (by kernel_rfl) Tryz.func11
    (ChangeSpec.witness6 (enc := enc) (C := Tryz.checked) false ⟨#[], #[.int .i64 0, .int .i64 0], []⟩ 8 (by kernel_rfl) (by kernel_rfl) (by kernel_rfl) (by kernel_rfl)) ?_
  intro W base args ds gs before hval0 hW hcnd _
  have hval : ∀ (j : Nat) t v, Tryz.f11.params[j]? = some t → args[j]? = some v → Value.okWide Tryz.prog W .any base t v := hval0
  have hW' := hW
  obtain ⟨p, q, hA0, hV, rfl, hfz, hnd⟩ := hW
  have hA : DataW.TrodAll enc Tryz.prog W 0 (fun _ => true) true Tryz.f11.params.toList args.toList ds p := hA0
  rw [Tryz.params11] at hA hval
  obtain ⟨v0, vs0, d0, ds0, p0, q0, hargs, rfl, rfl, h0, r0⟩ := trodAll_cons hA
  obtain ⟨v1, vs1, d1, ds1, p1, q1, rfl, rfl, rfl, h1, r1⟩ := trodAll_cons r0
  obtain ⟨rfl, rfl, rfl⟩ := trodAll_nil r1
  obtain rfl : args = #[v0, v1] := by cases args; simp_all
  obtain ⟨rfl, rfl⟩ := trodVars_none hV
  obtain ⟨a0, rfl, rfl, rfl, w0⟩ := open_int Tryz.underlying3 (hval 0 3 v0 rfl rfl) h0
  obtain ⟨a1, rfl, rfl, rfl, w1⟩ := open_int Tryz.underlying3 (hval 1 3 v1 rfl rfl) h1
  clear hA0 hval0
  refine (walk a0 a1 W w0 w1).mono fun e W' ⟨he, bel⟩ => ?_
  subst he
  exact ⟨_, rfl, _, _, _, [], _, [], hW', trodAll_mk1 (shut_bool Tryz.underlying4 _), (trodAll_cons_mk (shut_int Tryz.underlying3 w0) (trodAll_cons_mk (shut_int Tryz.underlying3 w1) trodAll_mk0)), rfl, bel.frame _, fun h => by cases h⟩

theorem over : Rows.ctlExitRow.holds Tryz.pinned (OpenSpec.ofChange Rows.ctlExitSpec) :=
  OpenClaim.holds_of_wide 11 Tryz.f11 rfl rfl rfl rfl rfl rfl rfl ⟨rfl, rfl, rfl, rfl, rfl⟩ rfl rfl rfl rfl rfl (by kernel_rfl) Tryz.func11 (by kernel_rfl)
    (of_decide_eq_true (by kernel_rfl)) (by unfold Func.isWrapper; first | (rw [if_pos (by decide +kernel)]; kernel_rfl) | (rw [if_neg (by decide +kernel)]; exact ⟨rfl, rfl⟩))
    (fun os started H enc _ => lifted os started H enc)

theorem proved : Rows.CtlExitSaid := over
#print axioms proved
end Go.Proofs.YtjhjghakfedeeaaGreat.ctlExit
