/-
  The law CellTwice holds: what is programmed twice is as if it was once, of two texts it does not matter which goes first, what is erased twice is erased; conditions: none beyond what the given row says of every argument.
-/
import Derived.Test.YtolafdkcobnafaaRows
import Derived.Test.YtolafdkcobnafaaBits
import Derived.WalkKit
import Derived.ProofKit
import Derived.OpenShut
import Derived.ShutString
import Derived.ChangeOld
import Derived.Below
namespace Go.Proofs.Ytolafdkcobnafaa.cellTwice
open Go.Proofs.Ytolafdkcobnafaa.Plain
open Go.ChangeShapes Go.WideShapes Go.ChangeAt Go.RowKit
open Go.ChangeMaps (open_string shut_string)
set_option linter.unusedVariables false

theorem own : ownKnob Try.prog.godebug = none := by kernel_rfl
theorem laidOut : laidOutB Try.prog = true := by kernel_rfl

set_option maxRecDepth 100000 in
set_option maxHeartbeats 2000000 in
theorem walk (a0 : ByteArray) (a1 : Int) (a2 : ByteArray) (a3 : ByteArray) (a4 : Int) (w : World) (w0 : a0.size ≤ maxLen) (w1 : (Lit.int .i64 a1).wf = true) (w2 : a2.size ≤ maxLen) (w3 : a3.size ≤ maxLen) (w4 : (Lit.int .i64 a4).wf = true) :
    Calls Try.prog 6 #[.string a0, .int .i64 a1, .string a2, .string a3, .int .i64 a4] w fun e w' => e = .returned (.bool true) ∧ Below w.heap.size w w' := by
  obtain ⟨K, hK, eK⟩ := umod a1 3896 (by omega) (by omega)
  obtain ⟨S, hS, eS⟩ := umod a4 8 (by omega) (by omega)
  have eK' : wrap64 ((IntKind.u64.wrap a1).tmod 3896) = (K : Int) := eK
  have eS' : wrap64 ((IntKind.u64.wrap a4).tmod 8) = (S : Int) := eS
  clear eK eS w1 w4
  by_cases hx : a2.size ≤ 200
  · have hx' : decide ((200 : Int) < (a2.size : Int)) = false := decide_eq_false (by omega)
    by_cases hy : a3.size ≤ 200
    · have hy' : decide ((200 : Int) < (a3.size : Int)) = false := decide_eq_false (by omega)
      go_enter Try.func6, Try.ntmps6
      go_wp2_with fail
      refine (awake_any _).mono ?_
      rintro e w1 ⟨rfl, b1⟩
      go_wp2_with fail
      refine (cells_gives _ _ w0).mono ?_
      rintro e w2 ⟨A, rfl, HA, b2⟩
      go_wp2_with fail
      refine (program_gives A K a2 _ HA.out (by omega)).mono ?_
      rintro e w3 ⟨P, rfl, HP, SP, b3⟩
      go_wp2_with fail
      refine (program_gives P K a2 _ SP.out (by omega)).mono ?_
      rintro e w4 ⟨Q, rfl, HQ, SQ, b4⟩
      obtain rfl : P = Q := by rw [HQ.out, HP.out, prog_twice]
      go_wp2_with fail
      refine (program_gives P K a3 _ SP.out (by omega)).mono ?_
      rintro e w5 ⟨R, rfl, HR, SR, b5⟩
      go_wp2_with fail
      refine (program_gives A K a3 _ HA.out (by omega)).mono ?_
      rintro e w6 ⟨T, rfl, HT, ST, b6⟩
      go_wp2_with fail
      refine (program_gives T K a2 _ ST.out (by omega)).mono ?_
      rintro e w7 ⟨U, rfl, HU, SU, b7⟩
      obtain rfl : R = U := by rw [HR.out, HU.out, HP.out, HT.out, prog_swap]
      go_wp2_with fail
      refine (erase_gives A S _ HA.out hS).mono ?_
      rintro e w8 ⟨V, rfl, HV, SV, b8⟩
      go_wp2_with fail
      refine (erase_gives V S _ SV.out hS).mono ?_
      rintro e w9 ⟨W, rfl, HW, SW, b9⟩
      obtain rfl : V = W := by rw [HW.out, HV.out, erase_over]
      have bel : Hid (Below w.heap.size w w9) := below_then (below_then (below_then (below_then (below_then (below_then (below_then (below_then b1 b2) b3) b4) b5) b6) b7) b8) b9
      clear HA HP HQ HR HT HU HV HW SP SQ SR ST SU SV SW b1 b2 b3 b4 b5 b6 b7 b8 b9
      go_wp2_with (go_at_call 18; refine (num_any _ _).mono ?_; rintro e w' ⟨rfl, rfl⟩)
      go_ret
      exact ⟨rfl, bel.out⟩
    · have hy' : decide ((200 : Int) < (a3.size : Int)) = true := decide_eq_true (by omega)
      go_enter Try.func6, Try.ntmps6
      go_wp2_with fail
      refine (awake_any _).mono ?_
      rintro e w1 ⟨rfl, b1⟩
      go_wp2_with fail
      refine (cells_gives _ _ w0).mono ?_
      rintro e w2 ⟨A, rfl, HA, b2⟩
      go_wp2_with fail
      go_ret
      exact ⟨rfl, below_then b1 b2⟩
  · have hx' : decide ((200 : Int) < (a2.size : Int)) = true := decide_eq_true (by omega)
    · go_enter Try.func6, Try.ntmps6
      go_wp2_with fail
      refine (awake_any _).mono ?_
      rintro e w1 ⟨rfl, b1⟩
      go_wp2_with fail
      refine (cells_gives _ _ w0).mono ?_
      rintro e w2 ⟨A, rfl, HA, b2⟩
      go_wp2_with fail
      go_ret
      exact ⟨rfl, below_then b1 b2⟩

set_option maxRecDepth 100000 in
theorem lifted (os : Os) (started : os.Started) (H : Type) (enc : TypeId × Value → H) :
    ReturnsInHanded {} Try.checked os 6 .any (Rows.cellTwiceSpec.pre6 enc Try.prog Try.f6 Rows.cellTwiceRow.domain false) (Rows.cellTwiceSpec.post enc Try.prog Try.f6 false true false false) := by
  refine returnsInHanded_of_change (C := Try.checked) own started (by kernel_rfl) Try.func6
    (ChangeSpec.witness6 (enc := enc) (C := Try.checked) false ⟨#[], #[.string ByteArray.empty, .int .i64 0, .string ByteArray.empty, .string ByteArray.empty, .int .i64 0], []⟩ 8 (by kernel_rfl) (by kernel_rfl) (by kernel_rfl) (by kernel_rfl)) ?_
  intro W base args ds gs before hval0 hW hcnd _
  have hval : ∀ (j : Nat) t v, Try.f6.params[j]? = some t → args[j]? = some v → Value.okWide Try.prog W .any base t v := hval0
  have hW' := hW
  obtain ⟨p, q, hA0, hV, rfl, hfz, hnd⟩ := hW
  have hA : DataW.TrodAll enc Try.prog W 0 (fun _ => true) true Try.f6.params.toList args.toList ds p := hA0
  rw [Try.params6] at hA hval
  obtain ⟨v0, vs0, d0, ds0, p0, q0, hargs, rfl, rfl, h0, r0⟩ := trodAll_cons hA
  obtain ⟨v1, vs1, d1, ds1, p1, q1, rfl, rfl, rfl, h1, r1⟩ := trodAll_cons r0
  obtain ⟨v2, vs2, d2, ds2, p2, q2, rfl, rfl, rfl, h2, r2⟩ := trodAll_cons r1
  obtain ⟨v3, vs3, d3, ds3, p3, q3, rfl, rfl, rfl, h3, r3⟩ := trodAll_cons r2
  obtain ⟨v4, vs4, d4, ds4, p4, q4, rfl, rfl, rfl, h4, r4⟩ := trodAll_cons r3
  obtain ⟨rfl, rfl, rfl⟩ := trodAll_nil r4
  obtain rfl : args = #[v0, v1, v2, v3, v4] := by cases args; simp_all
  obtain ⟨rfl, rfl⟩ := trodVars_none hV
  obtain ⟨a0, rfl, rfl, rfl, w0⟩ := open_string Try.underlying9 (hval 0 9 v0 rfl rfl) h0
  obtain ⟨a1, rfl, rfl, rfl, w1⟩ := open_int Try.underlying3 (hval 1 3 v1 rfl rfl) h1
  obtain ⟨a2, rfl, rfl, rfl, w2⟩ := open_string Try.underlying9 (hval 2 9 v2 rfl rfl) h2
  obtain ⟨a3, rfl, rfl, rfl, w3⟩ := open_string Try.underlying9 (hval 3 9 v3 rfl rfl) h3
  obtain ⟨a4, rfl, rfl, rfl, w4⟩ := open_int Try.underlying3 (hval 4 3 v4 rfl rfl) h4
  clear hA0 hval0
  refine (walk a0 a1 a2 a3 a4 W w0 w1 w2 w3 w4).mono fun e W' ⟨he, bel⟩ => ?_
  subst he
  exact ⟨_, rfl, _, _, _, [], _, [], hW', trodAll_mk1 (shut_bool Try.underlying4 _), (trodAll_cons_mk (shut_string Try.underlying9 w0) (trodAll_cons_mk (shut_int Try.underlying3 w1) (trodAll_cons_mk (shut_string Try.underlying9 w2) (trodAll_cons_mk (shut_string Try.underlying9 w3) (trodAll_cons_mk (shut_int Try.underlying3 w4) trodAll_mk0))))), rfl, bel.frame _, fun h => by cases h⟩

theorem over : Rows.cellTwiceRow.holds Try.pinned (OpenSpec.ofChange Rows.cellTwiceSpec) :=
  OpenClaim.holds_of_wide 6 Try.f6 rfl rfl rfl rfl rfl rfl rfl ⟨rfl, rfl, rfl, rfl, rfl⟩ rfl rfl rfl rfl rfl (by kernel_rfl) Try.func6 (by kernel_rfl)
    (of_decide_eq_true (by kernel_rfl)) (by unfold Func.isWrapper; first | (rw [if_pos (by decide +kernel)]; kernel_rfl) | (rw [if_neg (by decide +kernel)]; exact ⟨rfl, rfl⟩))
    (fun os started H enc _ => lifted os started H enc)

theorem proved : Rows.CellTwiceSaid := over
#print axioms proved
end Go.Proofs.Ytolafdkcobnafaa.cellTwice
