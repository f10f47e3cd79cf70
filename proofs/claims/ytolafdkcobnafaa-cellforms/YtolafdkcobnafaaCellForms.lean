/-
  The law CellForms holds: cells, places, data and sectors that are none are refused; conditions: none beyond what the given row says of every argument.
-/
import Derived.Test.YtolafdkcobnafaaRows
import Derived.Test.YtolafdkcobnafaaBits
import Derived.WalkKit
import Derived.ProofKit
import Derived.OpenShut
import Derived.ShutString
import Derived.ChangeOld
import Derived.Below
namespace Go.Proofs.Ytolafdkcobnafaa.cellForms
open Go.Proofs.Ytolafdkcobnafaa.Plain
open Go.ChangeShapes Go.WideShapes Go.ChangeAt Go.RowKit
open Go.ChangeMaps (open_string shut_string)
set_option linter.unusedVariables false

theorem own : ownKnob Try.prog.godebug = none := by kernel_rfl
theorem laidOut : laidOutB Try.prog = true := by kernel_rfl

set_option maxRecDepth 100000 in
set_option maxHeartbeats 2000000 in
theorem walk (a0 : Int) (a1 : Int) (w : World) (w0 : (Lit.int .i64 a0).wf = true) (w1 : (Lit.int .i64 a1).wf = true) :
    Calls Try.prog 5 #[.int .i64 a0, .int .i64 a1] w fun e w' => e = .returned (.bool true) ∧ Below w.heap.size w w' := by
  obtain ⟨K, hK, eK⟩ := umod a0 3 (by omega) (by omega)
  have eK' : wrap64 ((IntKind.u64.wrap a0).tmod 3) = (K : Int) := eK
  obtain ⟨D, hD, eD⟩ := and_low a1 1023 (by omega)
  have eD' : bits .and .i64 a1 1023 = (D : Int) := eD
  have H0 : Hid ((⟨#[]⟩ : ByteArray).size ≠ 4096) := by rw [Hid, none_size]; omega
  clear eK eD w0 w1
  rcases (show K = 0 ∨ K = 1 ∨ K = 2 by omega) with rfl | rfl | rfl
  all_goals
    go_enter Try.func5, Try.ntmps5
    go_wp2_with fail
    refine (awake_any _).mono ?_
    rintro e w1 ⟨rfl, b1⟩
    go_wp2_with fail
    refine (blank_is _).mono ?_
    rintro e w2 ⟨F, rfl, HF, b2⟩
    have SF := full_size HF.out
    have HS : Hid (F.size = 4096) := SF
    have H1 : Hid ((F ++ ⟨#[120]⟩).size ≠ 4096) := by rw [Hid, ByteArray.size_append, one_size]; omega
    have H2 : Hid ((F.extract 0 100).size ≠ 4096) := by rw [Hid, ByteArray.size_extract]; omega
    have bz : Below w.heap.size w (w2.alloc (.cells #[.string ⟨#[]⟩, .string (F ++ ⟨#[120]⟩), .string (F.extract 0 100)] 9)) := (below_then b1 b2).alloc (below_then b1 b2).size _
    go_wp2_with fail
    refine (program_any _ _ _ _ (one_ok _)).mono ?_
    rintro e w3 ⟨R1, n1, rfl, X1, N1, b3⟩
    obtain rfl : n1 = 100 := N1.out.trans (pcN_no (Or.inl (by first | exact H0.out | exact H1.out | exact H2.out)))
    go_wp2_with fail
    refine (erase_any _ _ _).mono ?_
    rintro e w4 ⟨R2, n2, rfl, X2, N2, b4⟩
    obtain rfl : n2 = 100 := N2.out.trans (ecN_no (Or.inl (by first | exact H0.out | exact H1.out | exact H2.out)))
    go_wp2_with fail
    refine (programCut_any _ _ _ _ _ (one_ok _) (one_ok _)).mono ?_
    rintro e w5 ⟨R3, n3, rfl, X3, N3, b5⟩
    obtain rfl : n3 = 100 := N3.out.trans (pcN_no (Or.inl (by first | exact H0.out | exact H1.out | exact H2.out)))
    go_wp2_with fail
    refine (eraseCut_any _ _ _ _ (one_ok _)).mono ?_
    rintro e w6 ⟨R4, n4, rfl, X4, N4, b6⟩
    obtain rfl : n4 = 100 := N4.out.trans (ecN_no (Or.inl (by first | exact H0.out | exact H1.out | exact H2.out)))
    go_wp2_with fail
    refine (program_any _ _ _ _ (one_ok _)).mono ?_
    rintro e w7 ⟨R5, n5, rfl, X5, N5, b7⟩
    obtain rfl : n5 = 100 := N5.out.trans (pcN_no (by omega))
    go_wp2_with fail
    refine (program_any _ _ _ _ none_ok).mono ?_
    rintro e w8 ⟨R6, n6, rfl, X6, N6, b8⟩
    obtain rfl : n6 = 100 := N6.out.trans (pcN_no (by omega))
    go_wp2_with fail
    refine (program_any _ _ _ _ three_ok).mono ?_
    rintro e w9 ⟨R7, n7, rfl, X7, N7, b9⟩
    obtain rfl : n7 = 100 := N7.out.trans (pcN_no (by rw [three_size]; omega))
    go_wp2_with fail
    refine (erase_any _ _ _).mono ?_
    rintro e w10 ⟨R8, n8, rfl, X8, N8, b10⟩
    obtain rfl : n8 = 100 := N8.out.trans (ecN_no (by omega))
    go_wp2_with fail
    refine (eraseCut_any _ _ _ _ (one_ok _)).mono ?_
    rintro e w11 ⟨R9, n9, rfl, X9, N9, b11⟩
    obtain rfl : n9 = 100 := N9.out.trans (ecN_no (by omega))
    go_wp2_with fail
    refine (program_any _ _ _ _ none_ok).mono ?_
    rintro e w12 ⟨R10, n10, rfl, X10, N10, b12⟩
    obtain rfl : n10 = 0 := N10.out.trans (pcN_yes HS.out (by omega) (by rw [none_size]; omega))
    obtain rfl : F = R10 := (X10.out.trans ((pcS_yes (A := 4096) HS.out (by rw [none_size]; omega)).trans (prog_none _ _ _))).symm
    have bel : Hid (Below w.heap.size w w12) := below_then (below_then (below_then (below_then (below_then (below_then (below_then (below_then (below_then (below_then bz b3) b4) b5) b6) b7) b8) b9) b10) b11) b12
    clear X1 X2 X3 X4 X5 X6 X7 X8 X9 X10 N1 N2 N3 N4 N5 N6 N7 N8 N9 N10 b1 b2 b3 b4 b5 b6 b7 b8 b9 b10 b11 b12 bz
    have M0 := mayB_no H0.out
    have M1 := mayB_no H1.out
    have M2 := mayB_no H2.out
    go_wp2_with (first | (go_at_call 18; refine (num_any _ _).mono ?_; rintro e w' ⟨rfl, rfl⟩) | (go_at_call 19; refine (may_any _ _).mono ?_; rintro e w' ⟨rfl, rfl⟩))
    go_ret
    exact ⟨rfl, bel.out⟩

set_option maxRecDepth 100000 in
theorem lifted (os : Os) (started : os.Started) (H : Type) (enc : TypeId × Value → H) :
    ReturnsInHanded {} Try.checked os 5 .any (Rows.cellFormsSpec.pre6 enc Try.prog Try.f5 Rows.cellFormsRow.domain false) (Rows.cellFormsSpec.post enc Try.prog Try.f5 false true false false) := by
  refine returnsInHanded_of_change (C := Try.checked) own started (by kernel_rfl) Try.func5
    (ChangeSpec.witness6 (enc := enc) (C := Try.checked) false ⟨#[], #[.int .i64 0, .int .i64 0], []⟩ 8 (by kernel_rfl) (by kernel_rfl) (by kernel_rfl) (by kernel_rfl)) ?_
  intro W base args ds gs before hval0 hW hcnd _
  have hval : ∀ (j : Nat) t v, Try.f5.params[j]? = some t → args[j]? = some v → Value.okWide Try.prog W .any base t v := hval0
  have hW' := hW
  obtain ⟨p, q, hA0, hV, rfl, hfz, hnd⟩ := hW
  have hA : DataW.TrodAll enc Try.prog W 0 (fun _ => true) true Try.f5.params.toList args.toList ds p := hA0
  rw [Try.params5] at hA hval
  obtain ⟨v0, vs0, d0, ds0, p0, q0, hargs, rfl, rfl, h0, r0⟩ := trodAll_cons hA
  obtain ⟨v1, vs1, d1, ds1, p1, q1, rfl, rfl, rfl, h1, r1⟩ := trodAll_cons r0
  obtain ⟨rfl, rfl, rfl⟩ := trodAll_nil r1
  obtain rfl : args = #[v0, v1] := by cases args; simp_all
  obtain ⟨rfl, rfl⟩ := trodVars_none hV
  obtain ⟨a0, rfl, rfl, rfl, w0⟩ := open_int Try.underlying3 (hval 0 3 v0 rfl rfl) h0
  obtain ⟨a1, rfl, rfl, rfl, w1⟩ := open_int Try.underlying3 (hval 1 3 v1 rfl rfl) h1
  clear hA0 hval0
  refine (walk a0 a1 W w0 w1).mono fun e W' ⟨he, bel⟩ => ?_
  subst he
  exact ⟨_, rfl, _, _, _, [], _, [], hW', trodAll_mk1 (shut_bool Try.underlying4 _), (trodAll_cons_mk (shut_int Try.underlying3 w0) (trodAll_cons_mk (shut_int Try.underlying3 w1) trodAll_mk0)), rfl, bel.frame _, fun h => by cases h⟩

theorem over : Rows.cellFormsRow.holds Try.pinned (OpenSpec.ofChange Rows.cellFormsSpec) :=
  OpenClaim.holds_of_wide 5 Try.f5 rfl rfl rfl rfl rfl rfl rfl ⟨rfl, rfl, rfl, rfl, rfl⟩ rfl rfl rfl rfl rfl (by kernel_rfl) Try.func5 (by kernel_rfl)
    (of_decide_eq_true (by kernel_rfl)) (by unfold Func.isWrapper; first | (rw [if_pos (by decide +kernel)]; kernel_rfl) | (rw [if_neg (by decide +kernel)]; exact ⟨rfl, rfl⟩))
    (fun os started H enc _ => lifted os started H enc)

theorem proved : Rows.CellFormsSaid := over
#print axioms proved
end Go.Proofs.Ytolafdkcobnafaa.cellForms
