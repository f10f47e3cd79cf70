/-
  StatBits: each bit of First and Second is told by itself, and no other. No conditions.
-/
import Derived.Test.YtkhgjcjbcclmfaaRows
import Derived.Test.YtkhgjcjbcclmfaaCalls
import Derived.WalkKit
import Derived.ProofKit
import Derived.OpenShut
import Derived.ShutString
import Derived.ChangeOld
import Derived.Below
namespace Go.Proofs.Ytkhgjcjbcclmfaa.statBits
open Go.ChangeShapes Go.WideShapes Go.ChangeAt Go.RowKit
open Go.ChangeMaps (open_string shut_string)
set_option linter.unusedVariables false

theorem own : ownKnob Try.prog.godebug = none := by kernel_rfl
theorem laidOut : laidOutB Try.prog = true := by kernel_rfl

set_option maxRecDepth 100000 in
set_option maxHeartbeats 2000000 in
theorem walk (a0 : Int) (w : World) (w0 : (Lit.int .i64 a0).wf = true) :
    Calls Try.prog 4 #[.int .i64 a0] w fun e w' => e = .returned (.bool true) ∧ Below w.heap.size w w' := by
  go_enter Try.func4, Try.ntmps4
  go_wp2_with fail
  refine (awake_any _).mono ?_
  rintro e u1 ⟨rfl, b1⟩
  have b1 : Hid (Below w.heap.size w u1) := b1
  go_wp2_with fail
  generalize (bits BinOp.and IntKind.i64 a0 1 == 1) = xa
  generalize (bits BinOp.and IntKind.i64 a0 2 == 2) = xb
  generalize (bits BinOp.and IntKind.i64 a0 4 == 4) = xc
  have f1 : (bits .and .i64 (fst xa xb xc) 1 != 0) = xa := by cases xa <;> cases xb <;> cases xc <;> decide
  have f2 : (bits .and .i64 (fst xa xb xc) 2 != 0) = xb := by cases xa <;> cases xb <;> cases xc <;> decide
  have f3 : (bits .and .i64 (fst xa xb xc) 4 != 0) = xc := by cases xa <;> cases xb <;> cases xc <;> decide
  have f4 : bits .andNot .i64 (fst xa xb xc) 7 = 0 := by cases xa <;> cases xb <;> cases xc <;> decide
  have f5 : (bits .and .i64 (snd xa xb) 2 != 0) = xa := by cases xa <;> cases xb <;> decide
  have f6 : (bits .and .i64 (snd xa xb) 128 != 0) = xb := by cases xa <;> cases xb <;> decide
  have f7 : bits .andNot .i64 (snd xa xb) 130 = 0 := by cases xa <;> cases xb <;> decide
  refine (first_any _ _ _ _).mono ?_
  rintro e u2 ⟨rfl, b2⟩
  have b1 : Hid (Below w.heap.size w u2) := below_then b1.out b2
  clear b2
  generalize fst xa xb xc = x at f1 f2 f3 f4 ⊢
  go_wp2_with fail
  refine (second_any _ _ _).mono ?_
  rintro e u3 ⟨rfl, b3⟩
  have b1 : Hid (Below w.heap.size w u3) := below_then b1.out b3
  clear b3
  generalize snd xa xb = y at f5 f6 f7 ⊢
  go_wp2_with (go_at_call 12; refine (num_any _ _).mono ?_; rintro e w' ⟨rfl, rfl⟩)
  go_ret
  exact ⟨rfl, b1.out⟩

set_option maxRecDepth 100000 in
theorem lifted (os : Os) (started : os.Started) (H : Type) (enc : TypeId × Value → H) :
    ReturnsInHanded {} Try.checked os 4 .any (Rows.statBitsSpec.pre6 enc Try.prog Try.f4 Rows.statBitsRow.domain false) (Rows.statBitsSpec.post enc Try.prog Try.f4 false true false false) := by
  refine returnsInHanded_of_change (C := Try.checked) own started (by kernel_rfl) Try.func4
    (ChangeSpec.witness6 (enc := enc) (C := Try.checked) false ⟨#[], #[.int .i64 0], []⟩ 8 (by kernel_rfl) (by kernel_rfl) (by kernel_rfl) (by kernel_rfl)) ?_
  intro W base args ds gs before hval0 hW hcnd _
  have hval : ∀ (j : Nat) t v, Try.f4.params[j]? = some t → args[j]? = some v → Value.okWide Try.prog W .any base t v := hval0
  have hW' := hW
  obtain ⟨p, q, hA0, hV, rfl, hfz, hnd⟩ := hW
  have hA : DataW.TrodAll enc Try.prog W 0 (fun _ => true) true Try.f4.params.toList args.toList ds p := hA0
  rw [Try.params4] at hA hval
  obtain ⟨v0, vs0, d0, ds0, p0, q0, hargs, rfl, rfl, h0, r0⟩ := trodAll_cons hA
  obtain ⟨rfl, rfl, rfl⟩ := trodAll_nil r0
  obtain rfl : args = #[v0] := by cases args; simp_all
  obtain ⟨rfl, rfl⟩ := trodVars_none hV
  obtain ⟨a0, rfl, rfl, rfl, w0⟩ := open_int Try.underlying3 (hval 0 3 v0 rfl rfl) h0
  clear hA0 hval0
  refine (walk a0 W w0).mono fun e W' ⟨he, bel⟩ => ?_
  subst he
  exact ⟨_, rfl, _, _, _, [], _, [], hW', trodAll_mk1 (shut_bool Try.underlying4 _), (trodAll_cons_mk (shut_int Try.underlying3 w0) trodAll_mk0), rfl, bel.frame _, fun h => by cases h⟩

theorem over : Rows.statBitsRow.holds Try.pinned (OpenSpec.ofChange Rows.statBitsSpec) :=
  OpenClaim.holds_of_wide 4 Try.f4 rfl rfl rfl rfl rfl rfl rfl ⟨rfl, rfl, rfl, rfl, rfl⟩ rfl rfl rfl rfl rfl (by kernel_rfl) Try.func4 (by kernel_rfl)
    (of_decide_eq_true (by kernel_rfl)) (by unfold Func.isWrapper; first | (rw [if_pos (by decide +kernel)]; kernel_rfl) | (rw [if_neg (by decide +kernel)]; exact ⟨rfl, rfl⟩))
    (fun os started H enc _ => lifted os started H enc)

theorem proved : Rows.StatBitsSaid := over
#print axioms proved
end Go.Proofs.Ytkhgjcjbcclmfaa.statBits
