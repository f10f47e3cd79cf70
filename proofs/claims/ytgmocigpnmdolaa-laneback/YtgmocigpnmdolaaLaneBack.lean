/-
  The law LaneBack holds: what goes out comes in, on one lane and on four, and on the other lanes it is refused; conditions: none beyond what the given row says of every argument.
-/
import Derived.Test.YtgmocigpnmdolaaRows
import Derived.Test.YtgmocigpnmdolaaAwake
import Derived.WalkKit
import Derived.ProofKit
import Derived.OpenShut
import Derived.ShutString
import Derived.ChangeOld
import Derived.Below
namespace Go.Proofs.Ytgmocigpnmdolaa.laneBack
open Go.ChangeShapes Go.WideShapes Go.ChangeAt Go.RowKit
open Go.ChangeMaps (open_string shut_string)
set_option linter.unusedVariables false

theorem own : ownKnob Try.prog.godebug = none := by kernel_rfl
theorem laidOut : laidOutB Try.prog = true := by kernel_rfl

set_option maxRecDepth 100000 in
set_option maxHeartbeats 2000000 in
theorem walk (a0 : Int) (a1 : Bool) (w : World) (w0 : (Lit.int .i64 a0).wf = true) :
    Calls Try.prog 4 #[.int .i64 a0, .bool a1] w fun e w' => e = .returned (.bool true) ∧ Below w.heap.size w w' := by
  obtain ⟨x, hx⟩ : ∃ x, bits BinOp.and IntKind.i64 a0 255 = x := ⟨_, rfl⟩
  have rx : 0 ≤ x ∧ x ≤ 255 := by rw [← hx, and_255]; omega
  clear w0
  cases a1 with
  | true =>
    go_enter Try.func4, Try.ntmps4
    go_wp2_with fail
    refine (awake_any _).mono ?_
    rintro e v1 ⟨rfl, b1⟩
    go_wp2_with fail
    refine (out_four x _ rx).mono ?_
    rintro e v2 ⟨g1, c1, rfl, o1, b2⟩
    have r1 : Hid (Reads v2 _ _) := o1.reads
    have bel : Hid (Below w.heap.size w v2) := below_then b1 b2
    clear o1 b1 b2
    go_wp2_with fail
    refine (in_any _ (fours x) 4 _ r1.out (fours_short _)).mono ?_
    rintro e v3 ⟨rfl, b3⟩
    rw [(in_fours x rx).1, (in_fours x rx).2]
    have r1 : Hid (Reads v3 _ _) := r1.out.below b3
    have bel : Hid (Below w.heap.size w v3) := below_then bel.out b3
    clear b3
    go_wp2_with fail
    refine (in_bad_any _ (fours x) 1 _ r1.out (fours_short _) (in_fours_one x)).mono ?_
    rintro e v4 ⟨z, rfl, b4⟩
    have bel : Hid (Below w.heap.size w v4) := below_then bel.out b4
    clear b4 r1
    go_wp2_with (go_at_call 14; refine (num_any _ _).mono ?_; rintro e w' ⟨rfl, rfl⟩)
    go_ret
    exact ⟨rfl, bel.out⟩
  | false =>
    go_enter Try.func4, Try.ntmps4
    go_wp2_with fail
    refine (awake_any _).mono ?_
    rintro e v1 ⟨rfl, b1⟩
    go_wp2_with fail
    refine (out_one x _ rx).mono ?_
    rintro e v2 ⟨g1, c1, rfl, o1, b2⟩
    have r1 : Hid (Reads v2 _ _) := o1.reads
    have bel : Hid (Below w.heap.size w v2) := below_then b1 b2
    clear o1 b1 b2
    go_wp2_with fail
    refine (in_any _ (ones x) 1 _ r1.out (ones_short _)).mono ?_
    rintro e v3 ⟨rfl, b3⟩
    rw [(in_ones x rx).1, (in_ones x rx).2]
    have r1 : Hid (Reads v3 _ _) := r1.out.below b3
    have bel : Hid (Below w.heap.size w v3) := below_then bel.out b3
    clear b3
    go_wp2_with fail
    refine (in_bad_any _ (ones x) 4 _ r1.out (ones_short _) (in_ones_four x)).mono ?_
    rintro e v4 ⟨z, rfl, b4⟩
    have bel : Hid (Below w.heap.size w v4) := below_then bel.out b4
    clear b4 r1
    go_wp2_with (go_at_call 14; refine (num_any _ _).mono ?_; rintro e w' ⟨rfl, rfl⟩)
    go_ret
    exact ⟨rfl, bel.out⟩

set_option maxRecDepth 100000 in
theorem lifted (os : Os) (started : os.Started) (H : Type) (enc : TypeId × Value → H) :
    ReturnsInHanded {} Try.checked os 4 .any (Rows.laneBackSpec.pre6 enc Try.prog Try.f4 Rows.laneBackRow.domain false) (Rows.laneBackSpec.post enc Try.prog Try.f4 false true false false) := by
  refine returnsInHanded_of_change (C := Try.checked) own started (by kernel_rfl) Try.func4
    (ChangeSpec.witness6 (enc := enc) (C := Try.checked) false ⟨#[], #[.int .i64 0, .bool false], []⟩ 8 (by kernel_rfl) (by kernel_rfl) (by kernel_rfl) (by kernel_rfl)) ?_
  intro W base args ds gs before hval0 hW hcnd _
  have hval : ∀ (j : Nat) t v, Try.f4.params[j]? = some t → args[j]? = some v → Value.okWide Try.prog W .any base t v := hval0
  have hW' := hW
  obtain ⟨p, q, hA0, hV, rfl, hfz, hnd⟩ := hW
  have hA : DataW.TrodAll enc Try.prog W 0 (fun _ => true) true Try.f4.params.toList args.toList ds p := hA0
  rw [Try.params4] at hA hval
  obtain ⟨v0, vs0, d0, ds0, p0, q0, hargs, rfl, rfl, h0, r0⟩ := trodAll_cons hA
  obtain ⟨v1, vs1, d1, ds1, p1, q1, rfl, rfl, rfl, h1, r1⟩ := trodAll_cons r0
  obtain ⟨rfl, rfl, rfl⟩ := trodAll_nil r1
  obtain rfl : args = #[v0, v1] := by cases args; simp_all
  obtain ⟨rfl, rfl⟩ := trodVars_none hV
  obtain ⟨a0, rfl, rfl, rfl, w0⟩ := open_int Try.underlying3 (hval 0 3 v0 rfl rfl) h0
  obtain ⟨a1, rfl, rfl, rfl⟩ := open_bool Try.underlying4 (hval 1 4 v1 rfl rfl) h1
  clear hA0 hval0
  refine (walk a0 a1 W w0).mono fun e W' ⟨he, bel⟩ => ?_
  subst he
  exact ⟨_, rfl, _, _, _, [], _, [], hW', trodAll_mk1 (shut_bool Try.underlying4 _), (trodAll_cons_mk (shut_int Try.underlying3 w0) (trodAll_cons_mk (shut_bool Try.underlying4 _) trodAll_mk0)), rfl, bel.frame _, fun h => by cases h⟩

theorem over : Rows.laneBackRow.holds Try.pinned (OpenSpec.ofChange Rows.laneBackSpec) :=
  OpenClaim.holds_of_wide 4 Try.f4 rfl rfl rfl rfl rfl rfl rfl ⟨rfl, rfl, rfl, rfl, rfl⟩ rfl rfl rfl rfl rfl (by kernel_rfl) Try.func4 (by kernel_rfl)
    (of_decide_eq_true (by kernel_rfl)) (by unfold Func.isWrapper; first | (rw [if_pos (by decide +kernel)]; kernel_rfl) | (rw [if_neg (by decide +kernel)]; exact ⟨rfl, rfl⟩))
    (fun os started H enc _ => lifted os started H enc)

theorem proved : Rows.LaneBackSaid := over
#print axioms proved
end Go.Proofs.Ytgmocigpnmdolaa.laneBack
