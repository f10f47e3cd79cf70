/-
  CtlSaves: a read that goes on costs eight clocks less, and tells the same bytes. No conditions.
-/
import Derived.Test.YtjhjghakfedeeaaGreatRows
import Derived.Test.YtjhjghakfedeeaaGreatCtlLaws
import Derived.WalkKit
import Derived.ProofKit
import Derived.OpenShut
import Derived.ShutString
import Derived.ChangeOld
import Derived.Below
namespace Go.Proofs.YtjhjghakfedeeaaGreat.ctlSaves
open Go.Proofs.YtjhjghakfedeeaaGreat.Plain
open Go.ChangeShapes Go.WideShapes Go.ChangeAt Go.RowKit
open Go.ChangeMaps (open_string shut_string)
set_option linter.unusedVariables false

theorem own : ownKnob Tryz.prog.godebug = none := by kernel_rfl
theorem laidOut : laidOutB Tryz.prog = true := by kernel_rfl

set_option maxRecDepth 100000 in
set_option maxHeartbeats 8000000 in
theorem walk (a0 : Int) (a1 : Int) (w : World) (w0 : (Lit.int .i64 a0).wf = true) (w1 : (Lit.int .i64 a1).wf = true) :
    Calls Tryz.prog 12 #[.int .i64 a0, .int .i64 a1] w fun e w' => e = .returned (.bool true) ∧ Below w.heap.size w w' := by
  obtain ⟨K, hK, eK, e3⟩ := mask_31 a1
  obtain ⟨k, hk, ek, -⟩ := mask_4095 a0
  clear e3
  go_enter Tryz.func12, Tryz.ntmps12
  go_wp2_with fail
  refine (cawake_any _).mono ?_
  rintro e u1 ⟨rfl, b1⟩
  go_wp2_with fail
  refine (ctwins_mine _ u1 (by unfold maxLen; decide)).mono ?_
  rintro e w1 ⟨bp, b, rfl, hbp, HL, hbw⟩
  have HB0 : Hid (Below w.heap.size w w1) := below_then b1 hbw
  have hwb : w.heap.size ≤ bp := Nat.le_trans b1.size hbp
  clear hbw hbp b1
  go_wp2_with fail
  refine (kr_new HL.out rfl HB0.out hwb (Nat.le_refl _)).mono ?_
  rintro e w2 ⟨kb, rfl, H2⟩
  clear HL HB0 hwb
  obtain ⟨s2, HQ, XA, XB⟩ := kq_start (wide ⟨#[102, 103, 104]⟩)
  have XA : Hid (_ = _) := XA
  have XB : Hid (_ = _) := XB
  have HQ : Hid (St.Quads s2 _ false) := HQ
  rw [kq_new] at H2
  go_wp2_with (go_at_call 19; refine (num_any _ _).mono ?_; rintro e w3 ⟨rfl, rfl⟩)
  refine (kr_run_nil H2 XA (by decide)).mono ?_
  rintro e w3 ⟨ua, uc, rfl, -, H3, -⟩
  clear H2 XA
  go_wp2_with fail
  refine (kr_run_lit H3 XB #[.int .i64 0, .int .i64 2] 2 rfl rfl (by decide) (by decide)).mono ?_
  rintro e w4 ⟨va, vc, rfl, -, H4, -⟩
  clear H3 XB
  have hlt := kr_lt H4
  obtain ⟨V, m, M2, F, S, C1, C2, C3, t, t', X5, X6, X7, hVl, q1, q2, q3, q4, q5, q6, q7, v1, v2, v3, v4⟩ := saves_all HQ.out K hK k hk
  clear HQ
  have p1 := q1.out
  have p2 := v1.out
  go_wp2_with (go_at_call 47; refine (kr_clocks (c := 32) H4 rfl).mono ?_; rintro e w5 ⟨rfl, rfl⟩)
  refine (kr_run_lit H4 X5 #[.int .i64 160] 1 rfl rfl (by decide) (by decide)).mono ?_
  rintro e w5 ⟨ua5, uc5, rfl, U5, H5, -⟩
  have hl5 := kr_lt H5
  clear H4 X5 p1 p2 eK
  have p5 := q5.out
  have p6 := v3.out
  go_wp2_with (go_at_call 47; refine (kr_clocks (c := C1) H5 rfl).mono ?_; rintro e w6 ⟨rfl, rfl⟩)
  refine (kr_run_lit H5 X6 #[.int .i64 0] 1 rfl rfl (by decide) (by decide)).mono ?_
  rintro e w6 ⟨ua6, uc6, rfl, V6, H6, T6⟩
  have U6 := owns_turns U5 T6 hlt.1 hlt.2
  have hl6 := kr_lt H6
  clear H5 X6 T6 U5 p5 p6
  have p5 := q6.out
  have p6 := v4.out
  go_wp2_with (go_at_call 47; refine (kr_clocks (c := C2) H6 rfl).mono ?_; rintro e w7 ⟨rfl, rfl⟩)
  refine (kr_run_lit H6 X7 #[.int .i64 0] 1 rfl rfl (by decide) (by decide)).mono ?_
  rintro e w7 ⟨ua7, uc7, rfl, Z7, H7, T7⟩
  have U7 := owns_turns U6 T7 hlt.1 hlt.2
  have V7 := owns_turns V6 T7 hl5.1 hl5.2
  clear H6 X7 T7 U6 V6 p5 p6
  have p5 := q7.out
  have p6 := v3.out
  go_wp2_with (first | (go_at_call 47; refine (kr_clocks (c := C3) H7 rfl).mono ?_; rintro e w8 ⟨rfl, rfl⟩) | (go_at_call 19; refine (num_any _ _).mono ?_; rintro e w8 ⟨rfl, rfl⟩))
  refine (same_any _ _ _ _ _ U7.out.reads V7.out.reads hVl hVl).mono ?_
  rintro e w8 ⟨rfl, b8⟩
  have H8 := kr_below H7 b8
  have U8 := owns_below U7 b8
  have Z8 := owns_below Z7 b8
  clear H7 U7 V7 Z7 b8
  go_wp2_with fail
  refine (same_any _ _ _ _ _ U8.out.reads Z8.out.reads hVl hVl).mono ?_
  rintro e w9 ⟨rfl, b9⟩
  have H9 := kr_below H8 b9
  clear H8 U8 Z8 b9 p5 p6
  have p1 := q2.out
  have p2 := v2.out
  have p3 := q3.out
  have p4 := v3.out
  have p5 := q4.out
  have p6 := v4.out
  go_wp2
  go_ret
  exact ⟨rfl, H9.out.below⟩

set_option maxRecDepth 100000 in
theorem lifted (os : Os) (started : os.Started) (H : Type) (enc : TypeId × Value → H) :
    ReturnsInHanded {} Tryz.checked os 12 .any (Rows.ctlSavesSpec.pre6 enc Tryz.prog Tryz.f12 Rows.ctlSavesRow.domain false) (Rows.ctlSavesSpec.post enc Tryz.prog Tryz.f12 false true false false) := by
  refine returnsInHanded_of_change (C := Tryz.checked) own started (by kernel_rfl) Tryz.func12
    (ChangeSpec.witness6 (enc := enc) (C := Tryz.checked) false ⟨#[], #[.int .i64 0, .int .i64 0], []⟩ 8 (by kernel_rfl) (by kernel_rfl) (by kernel_rfl) (by kernel_rfl)) ?_
  intro W base args ds gs before hval0 hW hcnd _
  have hval : ∀ (j : Nat) t v, Tryz.f12.params[j]? = some t → args[j]? = some v → Value.okWide Tryz.prog W .any base t v := hval0
  have hW' := hW
  obtain ⟨p, q, hA0, hV, rfl, hfz, hnd⟩ := hW
  have hA : DataW.TrodAll enc Tryz.prog W 0 (fun _ => true) true Tryz.f12.params.toList args.toList ds p := hA0
  rw [Tryz.params12] at hA hval
  obtain ⟨v0, vs0, d0, ds0, p0, q0, hargs, rfl, rfl, h0, r0⟩ := trodAll_cons hA
  obtain ⟨v1, vs1, d1, ds1, p1, q1, rfl, rfl, rfl, h1, r1⟩ := trodAll_cons r0
  obtain ⟨rfl, rfl, rfl⟩ := trodAll_nil r1
  obtain rfl : args = #[v0, v1] := by cases args; simp_all
  obtain ⟨rfl, rfl⟩ := trodVars_none hV
  obtain ⟨a0, rfl, rfl, rfl, w0⟩ := open_int Tryz.underlying3 (hval 0 3 v0 rfl rfl) h0
  obtain ⟨a1, rfl, rfl, rfl, w1⟩ := open_int Tryz.underlying3 (hval 1 3 v1 rfl rfl) h1
  clear hA0 hval0
  refine (walk a0 a1 W w0 w1).mono fun e W' ⟨he, bel⟩ => ?_
  subst he
  exact ⟨_, rfl, _, _, _, [], _, [], hW', trodAll_mk1 (shut_bool Tryz.underlying4 _), (trodAll_cons_mk (shut_int Tryz.underlying3 w0) (trodAll_cons_mk (shut_int Tryz.underlying3 w1) trodAll_mk0)), rfl, bel.frame _, fun h => by cases h⟩

theorem over : Rows.ctlSavesRow.holds Tryz.pinned (OpenSpec.ofChange Rows.ctlSavesSpec) :=
  OpenClaim.holds_of_wide 12 Tryz.f12 rfl rfl rfl rfl rfl rfl rfl ⟨rfl, rfl, rfl, rfl, rfl⟩ rfl rfl rfl rfl rfl (by kernel_rfl) Tryz.func12 (by kernel_rfl)
    (of_decide_eq_true (by kernel_rfl)) (by unfold Func.isWrapper; first | (rw [if_pos (by decide +kernel)]; kernel_rfl) | (rw [if_neg (by decide +kernel)]; exact ⟨rfl, rfl⟩))
    (fun os started H enc _ => lifted os started H enc)

theorem proved : Rows.CtlSavesSaid := over
#print axioms proved
end Go.Proofs.YtjhjghakfedeeaaGreat.ctlSaves
