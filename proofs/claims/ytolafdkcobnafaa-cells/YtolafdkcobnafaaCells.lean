/-
  The law Cells holds: for every text, place, data, sector and mask the four calls of package cell answer as the document's own, and May likewise; conditions: none beyond what the given row says of every argument.
-/
import Derived.Test.YtolafdkcobnafaaRows
import Derived.Test.YtolafdkcobnafaaAwake
import Derived.WalkKit
import Derived.ProofKit
import Derived.OpenShut
import Derived.ShutString
import Derived.ChangeOld
import Derived.Below
namespace Go.Proofs.Ytolafdkcobnafaa.cells
open Go.Proofs.Ytolafdkcobnafaa.Plain
open Go.ChangeShapes Go.WideShapes Go.ChangeAt Go.RowKit
open Go.ChangeMaps (open_string shut_string)
set_option linter.unusedVariables false

theorem own : ownKnob Try.prog.godebug = none := by kernel_rfl
theorem laidOut : laidOutB Try.prog = true := by kernel_rfl

set_option maxRecDepth 100000 in
set_option maxHeartbeats 2000000 in
theorem walk (a0 : ByteArray) (a1 : Bool) (a2 : Int) (a3 : ByteArray) (a4 : Int) (a5 : ByteArray) (w : World) (w0 : a0.size ≤ maxLen) (w2 : (Lit.int .i64 a2).wf = true) (w3 : a3.size ≤ maxLen) (w4 : (Lit.int .i64 a4).wf = true) (w5 : a5.size ≤ maxLen) :
    Calls Try.prog 3 #[.string a0, .bool a1, .int .i64 a2, .string a3, .int .i64 a4, .string a5] w fun e w' => e = .returned (.bool true) ∧ Below w.heap.size w w' := by
  cases a1 with
  | false =>
    go_enter Try.func3, Try.ntmps3
    go_wp2_with fail
    refine (program_any _ _ _ _ w3).mono ?_
    rintro e w1 ⟨p, e1, rfl, HP, N1, b1⟩
    go_wp2_with fail
    refine (refProgram_any _ _ _ _ w3).mono ?_
    rintro e w2 ⟨q, f1, rfl, HQ, M1, b2⟩
    obtain rfl : p = q := HP.out.trans HQ.out.symm
    obtain rfl : e1 = f1 := N1.out.trans M1.out.symm
    go_wp2_with fail
    refine (programCut_any _ _ _ _ _ w3 w5).mono ?_
    rintro e w4' ⟨r, e2, rfl, HR, N2, b3⟩
    go_wp2_with fail
    refine (refProgramCut_any _ _ _ _ _ w3 w5).mono ?_
    rintro e w5' ⟨t, f2, rfl, HT, M2, b4⟩
    obtain rfl : r = t := HR.out.trans HT.out.symm
    obtain rfl : e2 = f2 := N2.out.trans M2.out.symm
    go_wp2_with fail
    refine (erase_any _ _ _).mono ?_
    rintro e w6' ⟨u, e3, rfl, HU, N3, b5⟩
    go_wp2_with fail
    refine (refErase_any _ _ _).mono ?_
    rintro e w7' ⟨v, f3, rfl, HV, M3, b6⟩
    obtain rfl : u = v := HU.out.trans HV.out.symm
    obtain rfl : e3 = f3 := N3.out.trans M3.out.symm
    go_wp2_with fail
    refine (eraseCut_any _ _ _ _ w5).mono ?_
    rintro e w8' ⟨x, e4, rfl, HX, N4, b7⟩
    go_wp2_with fail
    refine (refEraseCut_any _ _ _ _ w5).mono ?_
    rintro e w9' ⟨y, f4, rfl, HY, M4, b8⟩
    obtain rfl : x = y := HX.out.trans HY.out.symm
    obtain rfl : e4 = f4 := N4.out.trans M4.out.symm
    have bel : Hid (Below w.heap.size w w9') := below_then (below_then (below_then (below_then (below_then (below_then (below_then b1 b2) b3) b4) b5) b6) b7) b8
    clear HP HQ HR HT HU HV HX HY N1 N2 N3 N4 M1 M2 M3 M4 b1 b2 b3 b4 b5 b6 b7 b8
    go_wp2_with (first | (go_at_call 18; refine (num_any _ _).mono ?_; rintro e w' ⟨rfl, rfl⟩) | (go_at_call 19; refine (may_any _ _).mono ?_; rintro e w' ⟨rfl, rfl⟩) | (go_at_call 20; refine (cellsMay_any _ _).mono ?_; rintro e w' ⟨rfl, rfl⟩) | (go_at_call 21; refine (awake_any _).mono ?_; rintro e w' ⟨rfl, bz⟩))
    go_ret
    exact ⟨rfl, below_then bel.out (by assumption)⟩
  | true =>
    go_enter Try.func3, Try.ntmps3
    go_wp2_with fail
    refine (cells_is _ _ w0).mono ?_
    rintro e w0' ⟨A, rfl, HA, b0⟩
    clear HA
    go_wp2_with fail
    refine (program_any _ _ _ _ w3).mono ?_
    rintro e w1 ⟨p, e1, rfl, HP, N1, b1⟩
    go_wp2_with fail
    refine (refProgram_any _ _ _ _ w3).mono ?_
    rintro e w2 ⟨q, f1, rfl, HQ, M1, b2⟩
    obtain rfl : p = q := HP.out.trans HQ.out.symm
    obtain rfl : e1 = f1 := N1.out.trans M1.out.symm
    go_wp2_with fail
    refine (programCut_any _ _ _ _ _ w3 w5).mono ?_
    rintro e w4' ⟨r, e2, rfl, HR, N2, b3⟩
    go_wp2_with fail
    refine (refProgramCut_any _ _ _ _ _ w3 w5).mono ?_
    rintro e w5' ⟨t, f2, rfl, HT, M2, b4⟩
    obtain rfl : r = t := HR.out.trans HT.out.symm
    obtain rfl : e2 = f2 := N2.out.trans M2.out.symm
    go_wp2_with fail
    refine (erase_any _ _ _).mono ?_
    rintro e w6' ⟨u, e3, rfl, HU, N3, b5⟩
    go_wp2_with fail
    refine (refErase_any _ _ _).mono ?_
    rintro e w7' ⟨v, f3, rfl, HV, M3, b6⟩
    obtain rfl : u = v := HU.out.trans HV.out.symm
    obtain rfl : e3 = f3 := N3.out.trans M3.out.symm
    go_wp2_with fail
    refine (eraseCut_any _ _ _ _ w5).mono ?_
    rintro e w8' ⟨x, e4, rfl, HX, N4, b7⟩
    go_wp2_with fail
    refine (refEraseCut_any _ _ _ _ w5).mono ?_
    rintro e w9' ⟨y, f4, rfl, HY, M4, b8⟩
    obtain rfl : x = y := HX.out.trans HY.out.symm
    obtain rfl : e4 = f4 := N4.out.trans M4.out.symm
    have bel : Hid (Below w.heap.size w w9') := below_then (below_then (below_then (below_then (below_then (below_then (below_then (below_then b0 b1) b2) b3) b4) b5) b6) b7) b8
    clear HP HQ HR HT HU HV HX HY N1 N2 N3 N4 M1 M2 M3 M4 b1 b2 b3 b4 b5 b6 b7 b8
    go_wp2_with (first | (go_at_call 18; refine (num_any _ _).mono ?_; rintro e w' ⟨rfl, rfl⟩) | (go_at_call 19; refine (may_any _ _).mono ?_; rintro e w' ⟨rfl, rfl⟩) | (go_at_call 20; refine (cellsMay_any _ _).mono ?_; rintro e w' ⟨rfl, rfl⟩) | (go_at_call 21; refine (awake_any _).mono ?_; rintro e w' ⟨rfl, bz⟩))
    go_ret
    exact ⟨rfl, below_then bel.out (by assumption)⟩

set_option maxRecDepth 100000 in
theorem lifted (os : Os) (started : os.Started) (H : Type) (enc : TypeId × Value → H) :
    ReturnsInHanded {} Try.checked os 3 .any (Rows.cellsSpec.pre6 enc Try.prog Try.f3 Rows.cellsRow.domain false) (Rows.cellsSpec.post enc Try.prog Try.f3 false true false false) := by
  refine returnsInHanded_of_change (C := Try.checked) own started (by kernel_rfl) Try.func3
    (ChangeSpec.witness6 (enc := enc) (C := Try.checked) false ⟨#[], #[.string ByteArray.empty, .bool false, .int .i64 0, .string ByteArray.empty, .int .i64 0, .string ByteArray.empty], []⟩ 8 (by kernel_rfl) (by kernel_rfl) (by kernel_rfl) (by kernel_rfl)) ?_
  intro W base args ds gs before hval0 hW hcnd _
  have hval : ∀ (j : Nat) t v, Try.f3.params[j]? = some t → args[j]? = some v → Value.okWide Try.prog W .any base t v := hval0
  have hW' := hW
  obtain ⟨p, q, hA0, hV, rfl, hfz, hnd⟩ := hW
  have hA : DataW.TrodAll enc Try.prog W 0 (fun _ => true) true Try.f3.params.toList args.toList ds p := hA0
  rw [Try.params3] at hA hval
  obtain ⟨v0, vs0, d0, ds0, p0, q0, hargs, rfl, rfl, h0, r0⟩ := trodAll_cons hA
  obtain ⟨v1, vs1, d1, ds1, p1, q1, rfl, rfl, rfl, h1, r1⟩ := trodAll_cons r0
  obtain ⟨v2, vs2, d2, ds2, p2, q2, rfl, rfl, rfl, h2, r2⟩ := trodAll_cons r1
  obtain ⟨v3, vs3, d3, ds3, p3, q3, rfl, rfl, rfl, h3, r3⟩ := trodAll_cons r2
  obtain ⟨v4, vs4, d4, ds4, p4, q4, rfl, rfl, rfl, h4, r4⟩ := trodAll_cons r3
  obtain ⟨v5, vs5, d5, ds5, p5, q5, rfl, rfl, rfl, h5, r5⟩ := trodAll_cons r4
  obtain ⟨rfl, rfl, rfl⟩ := trodAll_nil r5
  obtain rfl : args = #[v0, v1, v2, v3, v4, v5] := by cases args; simp_all
  obtain ⟨rfl, rfl⟩ := trodVars_none hV
  obtain ⟨a0, rfl, rfl, rfl, w0⟩ := open_string Try.underlying9 (hval 0 9 v0 rfl rfl) h0
  obtain ⟨a1, rfl, rfl, rfl⟩ := open_bool Try.underlying4 (hval 1 4 v1 rfl rfl) h1
  obtain ⟨a2, rfl, rfl, rfl, w2⟩ := open_int Try.underlying3 (hval 2 3 v2 rfl rfl) h2
  obtain ⟨a3, rfl, rfl, rfl, w3⟩ := open_string Try.underlying9 (hval 3 9 v3 rfl rfl) h3
  obtain ⟨a4, rfl, rfl, rfl, w4⟩ := open_int Try.underlying3 (hval 4 3 v4 rfl rfl) h4
  obtain ⟨a5, rfl, rfl, rfl, w5⟩ := open_string Try.underlying9 (hval 5 9 v5 rfl rfl) h5
  clear hA0 hval0
  refine (walk a0 a1 a2 a3 a4 a5 W w0 w2 w3 w4 w5).mono fun e W' ⟨he, bel⟩ => ?_
  subst he
  exact ⟨_, rfl, _, _, _, [], _, [], hW', trodAll_mk1 (shut_bool Try.underlying4 _), (trodAll_cons_mk (shut_string Try.underlying9 w0) (trodAll_cons_mk (shut_bool Try.underlying4 _) (trodAll_cons_mk (shut_int Try.underlying3 w2) (trodAll_cons_mk (shut_string Try.underlying9 w3) (trodAll_cons_mk (shut_int Try.underlying3 w4) (trodAll_cons_mk (shut_string Try.underlying9 w5) trodAll_mk0)))))), rfl, bel.frame _, fun h => by cases h⟩

theorem over : Rows.cellsRow.holds Try.pinned (OpenSpec.ofChange Rows.cellsSpec) :=
  OpenClaim.holds_of_wide 3 Try.f3 rfl rfl rfl rfl rfl rfl rfl ⟨rfl, rfl, rfl, rfl, rfl⟩ rfl rfl rfl rfl rfl (by kernel_rfl) Try.func3 (by kernel_rfl)
    (of_decide_eq_true (by kernel_rfl)) (by unfold Func.isWrapper; first | (rw [if_pos (by decide +kernel)]; kernel_rfl) | (rw [if_neg (by decide +kernel)]; exact ⟨rfl, rfl⟩))
    (fun os started H enc _ => lifted os started H enc)

theorem proved : Rows.CellsSaid := over
#print axioms proved
end Go.Proofs.Ytolafdkcobnafaa.cells
