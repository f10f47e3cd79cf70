/-
  SfdpApart: unlike numbers have unlike texts. No conditions.
-/
import Derived.Test.YtgibpmjgcjcghaaRows
import Derived.Test.YtgibpmjgcjcghaaShift
import Derived.WalkKit
import Derived.ProofKit
import Derived.OpenShut
import Derived.ShutString
import Derived.ChangeOld
import Derived.Below
namespace Go.Proofs.Ytgibpmjgcjcghaa.sfdpApart
open Go.Proofs.Ytgibpmjgcjcghaa.Plain
open Go.ChangeShapes Go.WideShapes Go.ChangeAt Go.RowKit
open Go.ChangeMaps (open_string shut_string)
set_option linter.unusedVariables false

theorem own : ownKnob Try.prog.godebug = none := by kernel_rfl
theorem laidOut : laidOutB Try.prog = true := by kernel_rfl

set_option maxRecDepth 100000 in
set_option maxHeartbeats 2000000 in
theorem walk (a0 : Int) (a1 : Int) (a2 : Int) (a3 : Int) (w : World) (w0 : (Lit.int .i64 a0).wf = true) (w1 : (Lit.int .i64 a1).wf = true) (w2 : (Lit.int .i64 a2).wf = true) (w3 : (Lit.int .i64 a3).wf = true) :
    Calls Try.prog 6 #[.int .i64 a0, .int .i64 a1, .int .i64 a2, .int .i64 a3] w fun e w' => e = .returned (.bool true) ∧ Below w.heap.size w w' := by
  obtain ⟨X, mX, sX⟩ := shift_any a0
  obtain ⟨Y, mY, sY⟩ := shift_any a1
  obtain ⟨Z, mZ, sZ⟩ := shift_any a2
  obtain ⟨V, mV, sV⟩ := shift_any a3
  go_enter Try.func6, Try.ntmps6
  go_wp2_with fail
  refine (awake_any _).mono ?_
  rintro e u1 ⟨rfl, b1⟩
  go_wp2_with fail
  clear sX sY sZ sV
  refine (put_of X Y Z _ mX mY mZ).mono ?_
  rintro e u2 ⟨S, rfl, HS, b2⟩
  have B2 : Hid (Below w.heap.size w u2) := below_then b1 b2
  clear b1 b2
  go_wp2_with fail
  refine (put_of V Y Z _ mV mY mZ).mono ?_
  rintro e u3 ⟨T, rfl, HT, b3⟩
  have B3 : Hid (Below w.heap.size w u3) := below_then B2.out b3
  clear b3 B2
  go_wp2_with fail
  refine (put_of X V Z _ mX mV mZ).mono ?_
  rintro e u4 ⟨U, rfl, HU, b4⟩
  have B4 : Hid (Below w.heap.size w u4) := below_then B3.out b4
  clear b4 B3
  go_wp2_with fail
  refine (put_of X Y V _ mX mY mV).mono ?_
  rintro e u5 ⟨R, rfl, HR, b5⟩
  have B5 : Hid (Below w.heap.size w u5) := below_then B4.out b5
  clear b5 B4
  have e1 : (S.toList == T.toList) = ((V : Int) == (X : Int)) := by
    rw [eq_iff, cast_beq]
    exact decide_eq_decide.mpr ⟨fun h => (put_inj (may_lt mX) (may_lt mY) (may_lt mZ) (may_lt mV) (may_lt mY) (may_lt mZ) (HS.out.symm.trans (h.trans HT.out))).1.symm, fun h => by rw [HS.out, HT.out, h]⟩
  have e2 : (S.toList == U.toList) = ((V : Int) == (Y : Int)) := by
    rw [eq_iff, cast_beq]
    exact decide_eq_decide.mpr ⟨fun h => (put_inj (may_lt mX) (may_lt mY) (may_lt mZ) (may_lt mX) (may_lt mV) (may_lt mZ) (HS.out.symm.trans (h.trans HU.out))).2.1.symm, fun h => by rw [HS.out, HU.out, h]⟩
  have e3 : (S.toList == R.toList) = ((V : Int) == (Z : Int)) := by
    rw [eq_iff, cast_beq]
    exact decide_eq_decide.mpr ⟨fun h => (put_inj (may_lt mX) (may_lt mY) (may_lt mZ) (may_lt mX) (may_lt mY) (may_lt mV) (HS.out.symm.trans (h.trans HR.out))).2.2.symm, fun h => by rw [HS.out, HR.out, h]⟩
  clear mX mY mZ mV HS HT HU HR
  go_wp2_with (go_at_call 11; refine (num_any _ _).mono ?_; rintro e w' ⟨rfl, rfl⟩)
  go_ret
  exact ⟨rfl, B5.out⟩

set_option maxRecDepth 100000 in
theorem lifted (os : Os) (started : os.Started) (H : Type) (enc : TypeId × Value → H) :
    ReturnsInHanded {} Try.checked os 6 .any (Rows.sfdpApartSpec.pre6 enc Try.prog Try.f6 Rows.sfdpApartRow.domain false) (Rows.sfdpApartSpec.post enc Try.prog Try.f6 false true false false) := by
  refine returnsInHanded_of_change (C := Try.checked) own started (by kernel_rfl) Try.func6
    (ChangeSpec.witness6 (enc := enc) (C := Try.checked) false ⟨#[], #[.int .i64 0, .int .i64 0, .int .i64 0, .int .i64 0], []⟩ 8 (by kernel_rfl) (by kernel_rfl) (by kernel_rfl) (by kernel_rfl)) ?_
  intro W base args ds gs before hval0 hW hcnd _
  have hval : ∀ (j : Nat) t v, Try.f6.params[j]? = some t → args[j]? = some v → Value.okWide Try.prog W .any base t v := hval0
  have hW' := hW
  obtain ⟨p, q, hA0, hV, rfl, hfz, hnd⟩ := hW
  have hA : DataW.TrodAll enc Try.prog W 0 (fun _ => true) true Try.f6.params.toList args.toList ds p := hA0
  rw [Try.params6] at hA hval
  obtain ⟨v0, vs0, d0, ds0, p0, q0, hargs, rfl, rfl, h0, r0⟩ := trodAll_cons hA
  obtain ⟨v1, vs1, d1, ds1, p1, q1, rfl, rfl, rfl, h1, r1⟩ := trodAll_cons r0
  obtain ⟨v2, vs2, d2, ds2, p2, q2, rfl, rfl, rfl, h2, r2⟩ := trodAll_cons r1
  obtain ⟨v3, vs3, d3, ds3, p3, q3, rfl, rfl, rfl, h3, r3⟩ := trodAll_cons r2
  obtain ⟨rfl, rfl, rfl⟩ := trodAll_nil r3
  obtain rfl : args = #[v0, v1, v2, v3] := by cases args; simp_all
  obtain ⟨rfl, rfl⟩ := trodVars_none hV
  obtain ⟨a0, rfl, rfl, rfl, w0⟩ := open_int Try.underlying3 (hval 0 3 v0 rfl rfl) h0
  obtain ⟨a1, rfl, rfl, rfl, w1⟩ := open_int Try.underlying3 (hval 1 3 v1 rfl rfl) h1
  obtain ⟨a2, rfl, rfl, rfl, w2⟩ := open_int Try.underlying3 (hval 2 3 v2 rfl rfl) h2
  obtain ⟨a3, rfl, rfl, rfl, w3⟩ := open_int Try.underlying3 (hval 3 3 v3 rfl rfl) h3
  clear hA0 hval0
  refine (walk a0 a1 a2 a3 W w0 w1 w2 w3).mono fun e W' ⟨he, bel⟩ => ?_
  subst he
  exact ⟨_, rfl, _, _, _, [], _, [], hW', trodAll_mk1 (shut_bool Try.underlying4 _), (trodAll_cons_mk (shut_int Try.underlying3 w0) (trodAll_cons_mk (shut_int Try.underlying3 w1) (trodAll_cons_mk (shut_int Try.underlying3 w2) (trodAll_cons_mk (shut_int Try.underlying3 w3) trodAll_mk0)))), rfl, bel.frame _, fun h => by cases h⟩

theorem over : Rows.sfdpApartRow.holds Try.pinned (OpenSpec.ofChange Rows.sfdpApartSpec) :=
  OpenClaim.holds_of_wide 6 Try.f6 rfl rfl rfl rfl rfl rfl rfl ⟨rfl, rfl, rfl, rfl, rfl⟩ rfl rfl rfl rfl rfl (by kernel_rfl) Try.func6 (by kernel_rfl)
    (of_decide_eq_true (by kernel_rfl)) (by unfold Func.isWrapper; first | (rw [if_pos (by decide +kernel)]; kernel_rfl) | (rw [if_neg (by decide +kernel)]; exact ⟨rfl, rfl⟩))
    (fun os started H enc _ => lifted os started H enc)

theorem proved : Rows.SfdpApartSaid := over
#print axioms proved
end Go.Proofs.Ytgibpmjgcjcghaa.sfdpApart
