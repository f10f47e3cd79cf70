/-
  The law LaneApart holds: unlike bytes go out unlike, on one lane and on four; conditions: none beyond what the given row says of every argument.
-/
import Derived.Test.YtgmocigpnmdolaaRows
import Derived.Test.YtgmocigpnmdolaaAwake
import Derived.WalkKit
import Derived.ProofKit
import Derived.OpenShut
import Derived.ShutString
import Derived.ChangeOld
import Derived.Below
namespace Go.Proofs.Ytgmocigpnmdolaa.laneApart
open Go.ChangeShapes Go.WideShapes Go.ChangeAt Go.RowKit
open Go.ChangeMaps (open_string shut_string)
set_option linter.unusedVariables false

theorem own : ownKnob Try.prog.godebug = none := by kernel_rfl
theorem laidOut : laidOutB Try.prog = true := by kernel_rfl

set_option maxRecDepth 100000 in
set_option maxHeartbeats 2000000 in
theorem walk (a0 : Int) (a1 : Int) (w : World) (w0 : (Lit.int .i64 a0).wf = true) (w1 : (Lit.int .i64 a1).wf = true) :
    Calls Try.prog 7 #[.int .i64 a0, .int .i64 a1] w fun e w' => e = .returned (.bool true) ∧ Below w.heap.size w w' := by
  obtain ⟨x, hx⟩ : ∃ x, bits BinOp.and IntKind.i64 a0 255 = x := ⟨_, rfl⟩
  obtain ⟨y, hy⟩ : ∃ y, bits BinOp.and IntKind.i64 a1 255 = y := ⟨_, rfl⟩
  have rx : 0 ≤ x ∧ x ≤ 255 := by rw [← hx, and_255]; omega
  have ry : 0 ≤ y ∧ y ≤ 255 := by rw [← hy, and_255]; omega
  clear w0 w1
  go_enter Try.func7, Try.ntmps7
  go_wp2_with fail
  refine (awake_any _).mono ?_
  rintro e v1 ⟨rfl, b1⟩
  go_wp2_with fail
  refine (out_one x _ rx).mono ?_
  rintro e v2 ⟨g1, c1, rfl, o1, b2⟩
  go_wp2_with fail
  refine (out_one y _ ry).mono ?_
  rintro e v3 ⟨g2, c2, rfl, o2, b3⟩
  go_wp2_with fail
  refine (out_four x _ rx).mono ?_
  rintro e v4 ⟨g3, c3, rfl, o3, b4⟩
  go_wp2_with fail
  refine (out_four y _ ry).mono ?_
  rintro e v5 ⟨g4, c4, rfl, o4, b5⟩
  have r1 : Hid (Reads v5 _ _) := ((o1.reads.below b3).below b4).below b5
  have r2 : Hid (Reads v5 _ _) := (o2.reads.below b4).below b5
  have r3 : Hid (Reads v5 _ _) := o3.reads.below b5
  have r4 : Hid (Reads v5 _ _) := o4.reads
  have bel : Hid (Below w.heap.size w v5) := below_then (below_then (below_then (below_then b1 b2) b3) b4) b5
  clear o1 o2 o3 o4 b1 b2 b3 b4 b5
  go_wp2_with (go_at_call 14; refine (num_any _ _).mono ?_; rintro e w' ⟨rfl, rfl⟩)
  refine (same_any _ _ (ones x) (ones y) _ r1.out r2.out (ones_short _) (ones_short _)).mono ?_
  rintro e v6 ⟨rfl, b6⟩
  rw [show decide (ones x = ones y) = (x == y) from by rw [Bool.eq_iff_iff]; simp [ones_eq x y rx ry]]
  have r3 : Hid (Reads v6 _ _) := r3.out.below b6
  have r4 : Hid (Reads v6 _ _) := r4.out.below b6
  have bel : Hid (Below w.heap.size w v6) := below_then bel.out b6
  clear b6 r1 r2
  go_wp2_with fail
  refine (same_any _ _ (fours x) (fours y) _ r3.out r4.out (fours_short _) (fours_short _)).mono ?_
  rintro e v7 ⟨rfl, b7⟩
  rw [show decide (fours x = fours y) = (x == y) from by rw [Bool.eq_iff_iff]; simp [fours_eq x y rx ry]]
  have bel : Hid (Below w.heap.size w v7) := below_then bel.out b7
  clear b7 r3 r4
  go_wp2_with fail
  go_ret
  exact ⟨by simp, bel.out⟩

set_option maxRecDepth 100000 in
theorem lifted (os : Os) (started : os.Started) (H : Type) (enc : TypeId × Value → H) :
    ReturnsInHanded {} Try.checked os 7 .any (Rows.laneApartSpec.pre6 enc Try.prog Try.f7 Rows.laneApartRow.domain false) (Rows.laneApartSpec.post enc Try.prog Try.f7 false true false false) := by
  refine returnsInHanded_of_change (C := Try.checked) own started (by kernel_rfl) Try.func7
    (ChangeSpec.witness6 (enc := enc) (C := Try.checked) false ⟨#[], #[.int .i64 0, .int .i64 0], []⟩ 8 (by kernel_rfl) (by kernel_rfl) (by kernel_rfl) (by kernel_rfl)) ?_
  intro W base args ds gs before hval0 hW hcnd _
  have hval : ∀ (j : Nat) t v, Try.f7.params[j]? = some t → args[j]? = some v → Value.okWide Try.prog W .any base t v := hval0
  have hW' := hW
  obtain ⟨p, q, hA0, hV, rfl, hfz, hnd⟩ := hW
  have hA : DataW.TrodAll enc Try.prog W 0 (fun _ => true) true Try.f7.params.toList args.toList ds p := hA0
  rw [Try.params7] at hA hval
  obtain ⟨v0, vs0, d0, ds0, p0, q0, hargs, rfl, rfl, h0, r0⟩ := trodAll_cons hA
  obtain ⟨v1, vs1, d1, ds1, p1, q1, rfl, rfl, rfl, h1, r1⟩ := trodAll_cons r0
  obtain ⟨rfl, rfl, rfl⟩ := trodAll_nil r1
  obtain rfl : args = #[v0, v1] := by cases args; simp_all
  obtain ⟨rfl, rfl⟩ := trodVars_none hV
  obtain ⟨a0, rfl, rfl, rfl, w0⟩ := open_int Try.underlying3 (hval 0 3 v0 rfl rfl) h0
  obtain ⟨a1, rfl, rfl, rfl, w1⟩ := open_int Try.underlying3 (hval 1 3 v1 rfl rfl) h1
  clear hA0 hval0
  refine (walk a0 a1 W w0 w1).mono fun e W' ⟨he, bel⟩ => ?_
  subst he
  exact ⟨_, rfl, _, _, _, [], _, [], hW', trodAll_mk1 (shut_bool Try.underlying4 _), (trodAll_cons_mk (shut_int Try.underlying3 w0) (trodAll_cons_mk (shut_int Try.underlying3 w1) trodAll_mk0)), rfl, bel.frame _, fun h => by cases h⟩

theorem over : Rows.laneApartRow.holds Try.pinned (OpenSpec.ofChange Rows.laneApartSpec) :=
  OpenClaim.holds_of_wide 7 Try.f7 rfl rfl rfl rfl rfl rfl rfl ⟨rfl, rfl, rfl, rfl, rfl⟩ rfl rfl rfl rfl rfl (by kernel_rfl) Try.func7 (by kernel_rfl)
    (of_decide_eq_true (by kernel_rfl)) (by unfold Func.isWrapper; first | (rw [if_pos (by decide +kernel)]; kernel_rfl) | (rw [if_neg (by decide +kernel)]; exact ⟨rfl, rfl⟩))
    (fun os started H enc _ => lifted os started H enc)

theorem proved : Rows.LaneApartSaid := over
#print axioms proved
end Go.Proofs.Ytgmocigpnmdolaa.laneApart
