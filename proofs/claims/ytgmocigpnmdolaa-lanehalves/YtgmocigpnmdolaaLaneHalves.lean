/-
  The law LaneHalves holds: four lanes have what one lane has, four bits at a time; conditions: none beyond what the given row says of every argument.
-/
import Derived.Test.YtgmocigpnmdolaaRows
import Derived.Test.YtgmocigpnmdolaaHalf
import Derived.Deep.QuietTactic
import Derived.WalkKit
import Derived.ProofKit
import Derived.OpenShut
import Derived.ShutString
import Derived.ChangeOld
import Derived.Below
namespace Go.Proofs.Ytgmocigpnmdolaa.laneHalves
open Go.ChangeShapes Go.WideShapes Go.ChangeAt Go.RowKit
open Go.ChangeMaps (open_string shut_string)
set_option linter.unusedVariables false

theorem own : ownKnob Try.prog.godebug = none := by kernel_rfl
theorem laidOut : laidOutB Try.prog = true := by kernel_rfl

set_option maxRecDepth 100000 in
set_option maxHeartbeats 2000000 in
theorem walk (a0 : Int) (w : World) (w0 : (Lit.int .i64 a0).wf = true) :
    Calls Try.prog 6 #[.int .i64 a0] w fun e w' => e = .returned (.bool true) ∧ Below w.heap.size w w' := by
  obtain ⟨x, hx⟩ : ∃ x, bits BinOp.and IntKind.i64 a0 255 = x := ⟨_, rfl⟩
  have rx : 0 ≤ x ∧ x ≤ 255 := by rw [← hx, and_255]; omega
  clear w0
  go_enter Try.func6, Try.ntmps6
  go_wp2_with fail
  refine (awake_any _).mono ?_
  rintro e v1 ⟨rfl, b1⟩
  go_wp2_with fail
  refine (out_one x _ rx).mono ?_
  rintro e v2 ⟨g1, c1, rfl, o1, b2⟩
  go_wp2_with fail
  refine (out_four x _ rx).mono ?_
  rintro e v3 ⟨g2, c2, rfl, o2, b3⟩
  have r1 : Hid (Reads v3 _ _) := o1.reads.below b3
  have r2 : Hid (Reads v3 _ _) := o2.reads
  have bel : Hid (Below w.heap.size w v3) := below_then (below_then b1 b2) b3
  clear o1 o2 b1 b2 b3
  go_wp2_with (go_at_call 14; refine (num_any _ _).mono ?_; rintro e w' ⟨rfl, rfl⟩)
  go_loopw [7] (fun i wr => ∃ k : Nat, k ≤ 2 ∧ i = .int .i64 k ∧ Hid (Below v3.heap.size v3 wr)) (fun i _ => 2 - (intOf i).toNat)
  case atStart => exact ⟨0, by omega, rfl, Below.refl _ _⟩
  case round =>
    obtain ⟨k, hk, rfl, hb⟩ := hrel
    rcases (show k = 0 ∨ k = 1 ∨ k = 2 by omega) with rfl | rfl | rfl
    · obtain ⟨y, z0, z1, z2, z3, cy, k0, k1, k2, k3, ⟨l0, m0⟩, ⟨l1, m1⟩, ⟨l2, m2⟩, ⟨l3, m3⟩, ey⟩ := half_0 (r1.out.below hb.out) (r2.out.below hb.out) rx
      have p0 : IntKind.i64.wrap 0 = 0 := IntWalk.i64_in _ (by omega)
      have p1 : IntKind.i64.wrap 1 = 1 := IntWalk.i64_in _ (by omega)
      have p2 : IntKind.i64.wrap 2 = 2 := IntWalk.i64_in _ (by omega)
      have p3 : IntKind.i64.wrap 3 = 3 := IntWalk.i64_in _ (by omega)
      have q0 : IntKind.i64.wrap (8 * z0) = 8 * z0 := IntWalk.i64_in _ (by omega)
      have q1 : IntKind.i64.wrap (4 * z1) = 4 * z1 := IntWalk.i64_in _ (by omega)
      have q2 : IntKind.i64.wrap (2 * z2) = 2 * z2 := IntWalk.i64_in _ (by omega)
      have q3 : IntKind.i64.wrap (8 * z0 + 4 * z1) = 8 * z0 + 4 * z1 := IntWalk.i64_in _ (by omega)
      have q4 : IntKind.i64.wrap (8 * z0 + 4 * z1 + 2 * z2) = 8 * z0 + 4 * z1 + 2 * z2 := IntWalk.i64_in _ (by omega)
      have q5 : IntKind.i64.wrap (8 * z0 + 4 * z1 + 2 * z2 + z3) = 8 * z0 + 4 * z1 + 2 * z2 + z3 := IntWalk.i64_in _ (by omega)
      go_wp2
      go_quiet (fail)
      all_goals go_wp2
      go_roundw
      case rel => exact ⟨1, by omega, by go_num, below_drewN hb.out _⟩
      case measure => simp [intOf]
    · obtain ⟨y, z0, z1, z2, z3, cy, k0, k1, k2, k3, ⟨l0, m0⟩, ⟨l1, m1⟩, ⟨l2, m2⟩, ⟨l3, m3⟩, ey⟩ := half_1 (r1.out.below hb.out) (r2.out.below hb.out) rx
      have p0 : IntKind.i64.wrap 4 = 4 := IntWalk.i64_in _ (by omega)
      have p1 : IntKind.i64.wrap 5 = 5 := IntWalk.i64_in _ (by omega)
      have p2 : IntKind.i64.wrap 6 = 6 := IntWalk.i64_in _ (by omega)
      have p3 : IntKind.i64.wrap 7 = 7 := IntWalk.i64_in _ (by omega)
      have q0 : IntKind.i64.wrap (8 * z0) = 8 * z0 := IntWalk.i64_in _ (by omega)
      have q1 : IntKind.i64.wrap (4 * z1) = 4 * z1 := IntWalk.i64_in _ (by omega)
      have q2 : IntKind.i64.wrap (2 * z2) = 2 * z2 := IntWalk.i64_in _ (by omega)
      have q3 : IntKind.i64.wrap (8 * z0 + 4 * z1) = 8 * z0 + 4 * z1 := IntWalk.i64_in _ (by omega)
      have q4 : IntKind.i64.wrap (8 * z0 + 4 * z1 + 2 * z2) = 8 * z0 + 4 * z1 + 2 * z2 := IntWalk.i64_in _ (by omega)
      have q5 : IntKind.i64.wrap (8 * z0 + 4 * z1 + 2 * z2 + z3) = 8 * z0 + 4 * z1 + 2 * z2 + z3 := IntWalk.i64_in _ (by omega)
      go_wp2
      go_quiet (fail)
      all_goals go_wp2
      go_roundw
      case rel => exact ⟨2, by omega, by go_num, below_drewN hb.out _⟩
      case measure => simp [intOf]
    · go_wp2
      go_ret
      exact ⟨rfl, below_then bel.out hb.out⟩

set_option maxRecDepth 100000 in
theorem lifted (os : Os) (started : os.Started) (H : Type) (enc : TypeId × Value → H) :
    ReturnsInHanded {} Try.checked os 6 .any (Rows.laneHalvesSpec.pre6 enc Try.prog Try.f6 Rows.laneHalvesRow.domain false) (Rows.laneHalvesSpec.post enc Try.prog Try.f6 false true false false) := by
  refine returnsInHanded_of_change (C := Try.checked) own started (by kernel_rfl) Try.func6
    (ChangeSpec.witness6 (enc := enc) (C := Try.checked) false ⟨#[], #[.int .i64 0], []⟩ 8 (by kernel_rfl) (by kernel_rfl) (by kernel_rfl) (by kernel_rfl)) ?_
  intro W base args ds gs before hval0 hW hcnd _
  have hval : ∀ (j : Nat) t v, Try.f6.params[j]? = some t → args[j]? = some v → Value.okWide Try.prog W .any base t v := hval0
  have hW' := hW
  obtain ⟨p, q, hA0, hV, rfl, hfz, hnd⟩ := hW
  have hA : DataW.TrodAll enc Try.prog W 0 (fun _ => true) true Try.f6.params.toList args.toList ds p := hA0
  rw [Try.params6] at hA hval
  obtain ⟨v0, vs0, d0, ds0, p0, q0, hargs, rfl, rfl, h0, r0⟩ := trodAll_cons hA
  obtain ⟨rfl, rfl, rfl⟩ := trodAll_nil r0
  obtain rfl : args = #[v0] := by cases args; simp_all
  obtain ⟨rfl, rfl⟩ := trodVars_none hV
  obtain ⟨a0, rfl, rfl, rfl, w0⟩ := open_int Try.underlying3 (hval 0 3 v0 rfl rfl) h0
  clear hA0 hval0
  refine (walk a0 W w0).mono fun e W' ⟨he, bel⟩ => ?_
  subst he
  exact ⟨_, rfl, _, _, _, [], _, [], hW', trodAll_mk1 (shut_bool Try.underlying4 _), (trodAll_cons_mk (shut_int Try.underlying3 w0) trodAll_mk0), rfl, bel.frame _, fun h => by cases h⟩

theorem over : Rows.laneHalvesRow.holds Try.pinned (OpenSpec.ofChange Rows.laneHalvesSpec) :=
  OpenClaim.holds_of_wide 6 Try.f6 rfl rfl rfl rfl rfl rfl rfl ⟨rfl, rfl, rfl, rfl, rfl⟩ rfl rfl rfl rfl rfl (by kernel_rfl) Try.func6 (by kernel_rfl)
    (of_decide_eq_true (by kernel_rfl)) (by unfold Func.isWrapper; first | (rw [if_pos (by decide +kernel)]; kernel_rfl) | (rw [if_neg (by decide +kernel)]; exact ⟨rfl, rfl⟩))
    (fun os started H enc _ => lifted os started H enc)

theorem proved : Rows.LaneHalvesSaid := over
#print axioms proved
end Go.Proofs.Ytgmocigpnmdolaa.laneHalves
