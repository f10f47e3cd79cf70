/-
  OpTable: each of the fourteen commands has the parts that are written out by hand, and stands at its place. No conditions.
-/
import Derived.Test.YtoefbeblelnkmaaRows
import Derived.Test.YtoefbeblelnkmaaTurns
import Derived.Deep.CutRange
import Derived.BigQuiet
import Derived.Deep.QuietTactic
import Derived.WalkKit
import Derived.ProofKit
import Derived.OpenShut
import Derived.ShutString
import Derived.ChangeOld
import Derived.Below
namespace Go.Proofs.Ytoefbeblelnkmaa.opTable
open Go.ChangeShapes Go.WideShapes Go.ChangeAt Go.RowKit
open Go.ChangeMaps (open_string shut_string)
set_option linter.unusedVariables false

theorem own : ownKnob Try.prog.godebug = none := by kernel_rfl
theorem laidOut : laidOutB Try.prog = true := by kernel_rfl

set_option maxRecDepth 100000 in
set_option maxHeartbeats 2000000 in
theorem walk (a0 : Int) (w : World) (w0 : (Lit.int .i64 a0).wf = true) :
    Calls Try.prog 5 #[.int .i64 a0] w fun e w' => e = .returned (.bool true) ∧ Below w.heap.size w w' := by
  obtain ⟨K, hK, hmod⟩ := umod a0 14 (by omega) (by omega)
  have hop := is_at K hK
  have h6 : Hid (∀ v, Calls Try.prog 6 #[.int .i64 (opL.getD K 0)] v fun e v' => e = .returned (.tuple #[.agg #[.int .i64 (opL.getD K 0), .int .i64 (opA (opL.getD K 0)), .bool (opM (opL.getD K 0)), .int .i64 (opD (opL.getD K 0)), .int .i64 (opN (opL.getD K 0)), .bool (opI (opL.getD K 0))], .int .i64 0]) ∧ Below v.heap.size v v') := fun v => of_yes _ v hop
  clear hop
  have HM : Hid (wrap64 ((IntKind.u64.wrap a0).tmod 14) = (K : Int)) := hmod
  clear hmod
  go_enter Try.func5, Try.ntmps5
  go_wp2_with fail
  refine (awake_any _).mono ?_
  rintro e w1 ⟨rfl, b1⟩
  go_upto_region 4 with fail
  have S : Hid (SixAt _ _ _ _ _ _ _ _ _) := SixAt.new w1 K hK
  have bel : Hid (Below w.heap.size w (w1.alloc (.cells byHand 23))) := below_then b1 (below_new _ _)
  generalize hW : w1.alloc (.cells byHand 23) = W at S bel ⊢
  generalize hg : w1.heap.size = g at S ⊢
  clear b1 hW hg
  go_cut [4] from 8 (fun s wc => s = .int .i64 K ∧ wc = W)
  case first =>
    go_wp2
    rw [HM.out]
    go_meet
    case rel => exact ⟨rfl, rfl⟩
  case rest =>
    obtain ⟨rfl, rfl⟩ := hcut
    clear HM
    have i1 : (0 : Int) ≤ (K : Int) := by omega
    have i2 : (K : Int) < 14 := by omega
    obtain ⟨xB, hB⟩ : ∃ x, opL.getD K 0 = x := ⟨_, rfl⟩
    have HB : Hid (opL.getD K 0 = xB) := hB
    rw [hB] at S h6
    generalize opA xB = xA at S h6
    generalize opM xB = xM at S h6
    generalize opD xB = xD at S h6
    generalize opN xB = xN at S h6
    generalize opI xB = xI at S h6
    clear hB
    have c0 := S.out.1
    go_wp2_with fail
    refine (h6.out _).mono ?_
    rintro e w2 ⟨rfl, b2⟩
    clear c0 h6
    have S2 : Hid (Six _ _ _ _ _ _ _ _) := Six.new w2 (.int .i64 xB) (.int .i64 xA) (.bool xM) (.int .i64 xD) (.int .i64 xN) (.bool xI)
    have S : Hid (SixAt _ _ _ _ _ _ _ _ _) := S.out.below (below_then b2 (below_new w2 (.cells #[.int .i64 xB, .int .i64 xA, .bool xM, .int .i64 xD, .int .i64 xN, .bool xI] 23)))
    have bel : Hid (Below w.heap.size w (w2.alloc (.cells #[.int .i64 xB, .int .i64 xA, .bool xM, .int .i64 xD, .int .i64 xN, .bool xI] 23))) := below_then (below_then bel.out b2) (below_new _ _)
    clear b2
    go_wp2_with fail
    refine (all_any _).mono ?_
    rintro e w3 ⟨g3, k3, rfl, o3, b3⟩
    obtain ⟨c0, c1, c2, c3, c4, c5⟩ := S.out.below b3
    obtain ⟨d0, d1, d2, d3, d4, d5⟩ := S2.out.below b3
    have bel : Hid (Below w.heap.size w w3) := below_then bel.out b3
    have cx : w3.cell? ⟨g3, K, none⟩ = some (.int .i64 xB) := by
      have h := reads_cell o3.reads K hK
      rwa [HB.out] at h
    clear S S2 b3 o3 HB
    go_upto_region 7 with fail
    go_quiet (first | (go_at_call 9; exact Calls.quiet_of_same ((num_any _ _).mono fun _ _ ⟨h1, h2⟩ => ⟨h1, h2.symm⟩)))
    go_wp2
    go_ret
    exact ⟨rfl, below_drewN bel.out _⟩

set_option maxRecDepth 100000 in
theorem lifted (os : Os) (started : os.Started) (H : Type) (enc : TypeId × Value → H) :
    ReturnsInHanded {} Try.checked os 5 .any (Rows.opTableSpec.pre6 enc Try.prog Try.f5 Rows.opTableRow.domain false) (Rows.opTableSpec.post enc Try.prog Try.f5 false true false false) := by
  refine returnsInHanded_of_change (C := Try.checked) own started (by kernel_rfl) Try.func5
    (ChangeSpec.witness6 (enc := enc) (C := Try.checked) false ⟨#[], #[.int .i64 0], []⟩ 8 (by kernel_rfl) (by kernel_rfl) (by kernel_rfl) (by kernel_rfl)) ?_
  intro W base args ds gs before hval0 hW hcnd _
  have hval : ∀ (j : Nat) t v, Try.f5.params[j]? = some t → args[j]? = some v → Value.okWide Try.prog W .any base t v := hval0
  have hW' := hW
  obtain ⟨p, q, hA0, hV, rfl, hfz, hnd⟩ := hW
  have hA : DataW.TrodAll enc Try.prog W 0 (fun _ => true) true Try.f5.params.toList args.toList ds p := hA0
  rw [Try.params5] at hA hval
  obtain ⟨v0, vs0, d0, ds0, p0, q0, hargs, rfl, rfl, h0, r0⟩ := trodAll_cons hA
  obtain ⟨rfl, rfl, rfl⟩ := trodAll_nil r0
  obtain rfl : args = #[v0] := by cases args; simp_all
  obtain ⟨rfl, rfl⟩ := trodVars_none hV
  obtain ⟨a0, rfl, rfl, rfl, w0⟩ := open_int Try.underlying3 (hval 0 3 v0 rfl rfl) h0
  clear hA0 hval0
  refine (walk a0 W w0).mono fun e W' ⟨he, bel⟩ => ?_
  subst he
  exact ⟨_, rfl, _, _, _, [], _, [], hW', trodAll_mk1 (shut_bool Try.underlying4 _), (trodAll_cons_mk (shut_int Try.underlying3 w0) trodAll_mk0), rfl, bel.frame _, fun h => by cases h⟩

theorem over : Rows.opTableRow.holds Try.pinned (OpenSpec.ofChange Rows.opTableSpec) :=
  OpenClaim.holds_of_wide 5 Try.f5 rfl rfl rfl rfl rfl rfl rfl ⟨rfl, rfl, rfl, rfl, rfl⟩ rfl rfl rfl rfl rfl (by kernel_rfl) Try.func5 (by kernel_rfl)
    (of_decide_eq_true (by kernel_rfl)) (by unfold Func.isWrapper; first | (rw [if_pos (by decide +kernel)]; kernel_rfl) | (rw [if_neg (by decide +kernel)]; exact ⟨rfl, rfl⟩))
    (fun os started H enc _ => lifted os started H enc)

theorem proved : Rows.OpTableSaid := over
#print axioms proved
end Go.Proofs.Ytoefbeblelnkmaa.opTable
