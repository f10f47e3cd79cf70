/-
  StatSectors: just the first sectors are protected, and only if they are; places outside the cells are refused. No conditions.
-/
import Derived.Test.YtkhgjcjbcclmfaaRows
import Derived.Test.YtkhgjcjbcclmfaaCalls
import Derived.Test.YtkhgjcjbcclmfaaMask
import Derived.WalkKit
import Derived.ProofKit
import Derived.OpenShut
import Derived.ShutString
import Derived.ChangeOld
import Derived.Below
namespace Go.Proofs.Ytkhgjcjbcclmfaa.statSectors
open Go.ChangeShapes Go.WideShapes Go.ChangeAt Go.RowKit
open Go.ChangeMaps (open_string shut_string)
set_option linter.unusedVariables false

theorem own : ownKnob Try.prog.godebug = none := by kernel_rfl
theorem laidOut : laidOutB Try.prog = true := by kernel_rfl

set_option maxRecDepth 100000 in
set_option maxHeartbeats 2000000 in
theorem walk (a0 : Int) (a1 : Int) (w : World) (w0 : (Lit.int .i64 a0).wf = true) (w1 : (Lit.int .i64 a1).wf = true) :
    Calls Try.prog 5 #[.int .i64 a0, .int .i64 a1] w fun e w' => e = .returned (.bool true) ∧ Below w.heap.size w w' := by
  obtain ⟨K, hK, eK⟩ := umod a0 4096 (by omega) (by omega)
  have eK : wrap64 ((IntKind.u64.wrap a0).tmod 4096) = (K : Int) := eK
  have eD := and_1023 a1
  have hD0 := Int.emod_nonneg a1 (show (1024 : Int) ≠ 0 by decide)
  have hD1 := Int.emod_lt_of_pos a1 (show (0 : Int) < 1024 by decide)
  generalize a1 % 1024 = D at eD hD0 hD1
  have e1 : wrap64 (1 + D) = 1 + D := IntWalk.wrap64_in _ (by omega)
  have e2 : wrap64 (-(1 + D)) = -(1 + D) := IntWalk.wrap64_in _ (by omega)
  have e3 : wrap64 (4095 + (1 + D)) = 4095 + (1 + D) := IntWalk.wrap64_in _ (by omega)
  have c1 : Hid (pB true (K : Int) = decide ((K : Int).tdiv 512 < 4)) := by
    rw [Hid, pB, Bool.true_and]; refine decide_eq_decide.mpr ?_; rw [Int.tdiv_eq_ediv_of_nonneg (by omega)]; omega
  have c2 : Hid (pB false (K : Int) = false) := rfl
  have c3 : Hid (pE (K : Int) = 0) := if_pos ⟨by omega, by omega⟩
  have c4 : Hid (pE (-(1 + D)) = 500) := if_neg (by omega)
  have c5 : Hid (pE (4095 + (1 + D)) = 500) := if_neg (by omega)
  go_enter Try.func5, Try.ntmps5
  go_wp2_with fail
  refine (awake_any _).mono ?_
  rintro e u1 ⟨rfl, b1⟩
  have b1 : Hid (Below w.heap.size w u1) := b1
  go_wp2_with fail
  rw [eK]
  refine (prot_any _ _ _).mono ?_
  rintro e w' ⟨rfl, rfl⟩
  rw [c1.out, c3.out]
  go_wp2_with fail
  refine (prot_any _ _ _).mono ?_
  rintro e w' ⟨rfl, rfl⟩
  rw [c2.out, c3.out]
  go_wp2_with fail
  refine (prot_any _ _ _).mono ?_
  rintro e w' ⟨rfl, rfl⟩
  rw [c4.out]
  go_wp2_with fail
  refine (prot_any _ _ _).mono ?_
  rintro e w' ⟨rfl, rfl⟩
  rw [c5.out]
  go_wp2_with (go_at_call 12; refine (num_any _ _).mono ?_; rintro e w' ⟨rfl, rfl⟩)
  go_ret
  exact ⟨rfl, b1.out⟩

set_option maxRecDepth 100000 in
theorem lifted (os : Os) (started : os.Started) (H : Type) (enc : TypeId × Value → H) :
    ReturnsInHanded {} Try.checked os 5 .any (Rows.statSectorsSpec.pre6 enc Try.prog Try.f5 Rows.statSectorsRow.domain false) (Rows.statSectorsSpec.post enc Try.prog Try.f5 false true false false) := by
  refine returnsInHanded_of_change (C := Try.checked) own started (by kernel_rfl) Try.func5
    (ChangeSpec.witness6 (enc := enc) (C := Try.checked) false ⟨#[], #[.int .i64 0, .int .i64 0], []⟩ 8 (by kernel_rfl) (by kernel_rfl) (by kernel_rfl) (by kernel_rfl)) ?_
  intro W base args ds gs before hval0 hW hcnd _
  have hval : ∀ (j : Nat) t v, Try.f5.params[j]? = some t → args[j]? = some v → Value.okWide Try.prog W .any base t v := hval0
  have hW' := hW
  obtain ⟨p, q, hA0, hV, rfl, hfz, hnd⟩ := hW
  have hA : DataW.TrodAll enc Try.prog W 0 (fun _ => true) true Try.f5.params.toList args.toList ds p := hA0
  rw [Try.params5] at hA hval
  obtain ⟨v0, vs0, d0, ds0, p0, q0, hargs, rfl, rfl, h0, r0⟩ := trodAll_cons hA
  obtain ⟨v1, vs1, d1, ds1, p1, q1, rfl, rfl, rfl, h1, r1⟩ := trodAll_cons r0
  obtain ⟨rfl, rfl, rfl⟩ := trodAll_nil r1
  obtain rfl : args = #[v0, v1] := by cases args; simp_all
  obtain ⟨rfl, rfl⟩ := trodVars_none hV
  obtain ⟨a0, rfl, rfl, rfl, w0⟩ := open_int Try.underlying3 (hval 0 3 v0 rfl rfl) h0
  obtain ⟨a1, rfl, rfl, rfl, w1⟩ := open_int Try.underlying3 (hval 1 3 v1 rfl rfl) h1
  clear hA0 hval0
  refine (walk a0 a1 W w0 w1).mono fun e W' ⟨he, bel⟩ => ?_
  subst he
  exact ⟨_, rfl, _, _, _, [], _, [], hW', trodAll_mk1 (shut_bool Try.underlying4 _), (trodAll_cons_mk (shut_int Try.underlying3 w0) (trodAll_cons_mk (shut_int Try.underlying3 w1) trodAll_mk0)), rfl, bel.frame _, fun h => by cases h⟩

theorem over : Rows.statSectorsRow.holds Try.pinned (OpenSpec.ofChange Rows.statSectorsSpec) :=
  OpenClaim.holds_of_wide 5 Try.f5 rfl rfl rfl rfl rfl rfl rfl ⟨rfl, rfl, rfl, rfl, rfl⟩ rfl rfl rfl rfl rfl (by kernel_rfl) Try.func5 (by kernel_rfl)
    (of_decide_eq_true (by kernel_rfl)) (by unfold Func.isWrapper; first | (rw [if_pos (by decide +kernel)]; kernel_rfl) | (rw [if_neg (by decide +kernel)]; exact ⟨rfl, rfl⟩))
    (fun os started H enc _ => lifted os started H enc)

theorem proved : Rows.StatSectorsSaid := over
#print axioms proved
end Go.Proofs.Ytkhgjcjbcclmfaa.statSectors
