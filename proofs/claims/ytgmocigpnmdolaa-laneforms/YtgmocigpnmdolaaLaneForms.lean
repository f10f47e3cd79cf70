/-
  The law LaneForms holds: bytes, lanes and bits that are none are refused; conditions: none beyond what the given row says of every argument.
-/
import Derived.Test.YtgmocigpnmdolaaRows
import Derived.Test.YtgmocigpnmdolaaForms
import Derived.WalkKit
import Derived.ProofKit
import Derived.OpenShut
import Derived.ShutString
import Derived.ChangeOld
import Derived.Below
namespace Go.Proofs.Ytgmocigpnmdolaa.laneForms
open Go.ChangeShapes Go.WideShapes Go.ChangeAt Go.RowKit
open Go.ChangeMaps (open_string shut_string)
set_option linter.unusedVariables false

theorem own : ownKnob Try.prog.godebug = none := by kernel_rfl
theorem laidOut : laidOutB Try.prog = true := by kernel_rfl

set_option maxRecDepth 100000 in
set_option maxHeartbeats 2000000 in
theorem walk (a0 : Int) (a1 : Int) (w : World) (w0 : (Lit.int .i64 a0).wf = true) (w1 : (Lit.int .i64 a1).wf = true) :
    Calls Try.prog 5 #[.int .i64 a0, .int .i64 a1] w fun e w' => e = .returned (.bool true) ∧ Below w.heap.size w w' := by
  obtain ⟨K, hK, eK⟩ := umod a0 5 (by omega) (by omega)
  have eK' : wrap64 ((IntKind.u64.wrap a0).tmod 5) = (K : Int) := eK
  obtain ⟨D, hD⟩ : ∃ D, bits BinOp.and IntKind.i64 a1 1023 = D := ⟨_, rfl⟩
  have rD : 0 ≤ D ∧ D ≤ 1023 := by rw [← hD, and_1023]; omega
  obtain ⟨d0, d1⟩ := rD
  clear eK w0 w1
  go_enter Try.func5, Try.ntmps5
  go_wp2_with fail
  refine (awake_any _).mono ?_
  rintro e v1 ⟨rfl, b1⟩
  go_wp2_with fail
  refine (out_bad _ 1 _ (by omega)).mono ?_
  rintro e v2 ⟨x2, rfl, b2⟩
  go_wp2_with fail
  refine (out_bad _ 4 _ (by omega)).mono ?_
  rintro e v3 ⟨x3, rfl, b3⟩
  have bel : Hid (Below w.heap.size w v3) := below_then (below_then b1 b2) b3
  clear b1 b2 b3
  rcases (show K = 0 ∨ K = 1 ∨ K = 2 ∨ K = 3 ∨ K = 4 by omega) with rfl | rfl | rfl | rfl | rfl
  · go_wp2_with fail
    refine (out_bad 1 0 _ (by omega)).mono ?_
    rintro e v4 ⟨x4, rfl, b4⟩
    have ck : v4.cell? ⟨v3.heap.size, 0, none⟩ = some (.int .i64 0) := (b4.cell (by simp)).trans (by simp)
    have hlt : v3.heap.size < v4.heap.size := by have := b4.size; simp at this; omega
    have bel : Hid (Below w.heap.size w v4) := below_then bel.out (below_lit b4)
    clear b4
    go_wp2_with fail
    refine (in_bad_any _ [1] 0 _ (reads_lit (cs := #[.int .i64 1]) [1] (heap_alloc_new _ _) rfl rfl 1) (by decide) (inE_no (no_lanes (by omega) (by omega)))).mono ?_
    rintro e v5 ⟨x5, rfl, b5⟩
    have bel : Hid (Below w.heap.size w v5) := below_then bel.out (below_lit b5)
    clear b5 ck hlt
    go_wp2_with fail
    refine (in_bad_any _ [] 4 _ (reads_nil _) (by simp) (four_count (by decide))).mono ?_
    rintro e v6 ⟨x6, rfl, b6⟩
    have bel : Hid (Below w.heap.size w v6) := below_then bel.out (below_then below_five b6)
    clear b6
    go_wp2_with fail
    refine (in_bad_any _ [] 1 _ (reads_nil _) (by simp) (one_count (by decide))).mono ?_
    rintro e v7 ⟨x7, rfl, b7⟩
    have bel : Hid (Below w.heap.size w v7) := below_then bel.out (below_then below_five b7)
    clear b7
    go_wp2_with (go_at_call 14; refine (num_any _ _).mono ?_; rintro e w' ⟨rfl, rfl⟩)
    go_ret
    exact ⟨rfl, bel.out⟩
  · go_wp2_with fail
    refine (out_bad 1 2 _ (by omega)).mono ?_
    rintro e v4 ⟨x4, rfl, b4⟩
    have ck : v4.cell? ⟨v3.heap.size, 1, none⟩ = some (.int .i64 2) := (b4.cell (by simp)).trans (by simp)
    have hlt : v3.heap.size < v4.heap.size := by have := b4.size; simp at this; omega
    have bel : Hid (Below w.heap.size w v4) := below_then bel.out (below_lit b4)
    clear b4
    go_wp2_with fail
    refine (in_bad_any _ [1] 2 _ (reads_lit (cs := #[.int .i64 1]) [1] (heap_alloc_new _ _) rfl rfl 1) (by decide) (inE_no (no_lanes (by omega) (by omega)))).mono ?_
    rintro e v5 ⟨x5, rfl, b5⟩
    have bel : Hid (Below w.heap.size w v5) := below_then bel.out (below_lit b5)
    clear b5 ck hlt
    go_wp2_with fail
    refine (in_bad_any _ [1] 4 _ (reads_lit (cs := #[.int .i64 1]) [1] (at_old (at_old (at_old (at_old (at_new (by simp)))))) rfl rfl 1) (by simp) (four_count (by decide))).mono ?_
    rintro e v6 ⟨x6, rfl, b6⟩
    have bel : Hid (Below w.heap.size w v6) := below_then bel.out (below_then below_five b6)
    clear b6
    go_wp2_with fail
    refine (in_bad_any _ [0, 0, 0, 0, 0, 0, 0] 1 _ (reads_lit (cs := #[.int .i64 0, .int .i64 0, .int .i64 0, .int .i64 0, .int .i64 0, .int .i64 0, .int .i64 0]) [0, 0, 0, 0, 0, 0, 0] (at_old (at_old (at_old (at_old (at_new (by simp)))))) rfl rfl 7) (by simp) (one_count (by decide))).mono ?_
    rintro e v7 ⟨x7, rfl, b7⟩
    have bel : Hid (Below w.heap.size w v7) := below_then bel.out (below_then below_five b7)
    clear b7
    go_wp2_with (go_at_call 14; refine (num_any _ _).mono ?_; rintro e w' ⟨rfl, rfl⟩)
    go_ret
    exact ⟨rfl, bel.out⟩
  · go_wp2_with fail
    refine (out_bad 1 3 _ (by omega)).mono ?_
    rintro e v4 ⟨x4, rfl, b4⟩
    have ck : v4.cell? ⟨v3.heap.size, 2, none⟩ = some (.int .i64 3) := (b4.cell (by simp)).trans (by simp)
    have hlt : v3.heap.size < v4.heap.size := by have := b4.size; simp at this; omega
    have bel : Hid (Below w.heap.size w v4) := below_then bel.out (below_lit b4)
    clear b4
    go_wp2_with fail
    refine (in_bad_any _ [1] 3 _ (reads_lit (cs := #[.int .i64 1]) [1] (heap_alloc_new _ _) rfl rfl 1) (by decide) (inE_no (no_lanes (by omega) (by omega)))).mono ?_
    rintro e v5 ⟨x5, rfl, b5⟩
    have bel : Hid (Below w.heap.size w v5) := below_then bel.out (below_lit b5)
    clear b5 ck hlt
    go_wp2_with fail
    refine (in_bad_any _ [1, 2, 3] 4 _ (reads_lit (cs := #[.int .i64 1, .int .i64 2, .int .i64 3]) [1, 2, 3] (at_old (at_old (at_old (at_new (by simp))))) rfl rfl 3) (by simp) (four_count (by decide))).mono ?_
    rintro e v6 ⟨x6, rfl, b6⟩
    have bel : Hid (Below w.heap.size w v6) := below_then bel.out (below_then below_five b6)
    clear b6
    go_wp2_with fail
    refine (in_bad_any _ [0, 0, 0, 0, 0, 0, 0, 2] 1 _ (reads_lit (cs := #[.int .i64 0, .int .i64 0, .int .i64 0, .int .i64 0, .int .i64 0, .int .i64 0, .int .i64 0, .int .i64 2]) [0, 0, 0, 0, 0, 0, 0, 2] (at_old (at_old (at_old (at_new (by simp))))) rfl rfl 8) (by simp) (inE_no (no_one (.inr ⟨7, by omega, .inr (by decide)⟩)))).mono ?_
    rintro e v7 ⟨x7, rfl, b7⟩
    have bel : Hid (Below w.heap.size w v7) := below_then bel.out (below_then below_five b7)
    clear b7
    go_wp2_with (go_at_call 14; refine (num_any _ _).mono ?_; rintro e w' ⟨rfl, rfl⟩)
    go_ret
    exact ⟨rfl, bel.out⟩
  · go_wp2_with fail
    refine (out_bad 1 (4 + (1 + D)) _ (by omega)).mono ?_
    rintro e v4 ⟨x4, rfl, b4⟩
    have ck : v4.cell? ⟨v3.heap.size, 3, none⟩ = some (.int .i64 (4 + (1 + D))) := (b4.cell (by simp)).trans (by simp)
    have hlt : v3.heap.size < v4.heap.size := by have := b4.size; simp at this; omega
    have bel : Hid (Below w.heap.size w v4) := below_then bel.out (below_lit b4)
    clear b4
    go_wp2_with fail
    refine (in_bad_any _ [1] (4 + (1 + D)) _ (reads_lit (cs := #[.int .i64 1]) [1] (heap_alloc_new _ _) rfl rfl 1) (by decide) (inE_no (no_lanes (by omega) (by omega)))).mono ?_
    rintro e v5 ⟨x5, rfl, b5⟩
    have bel : Hid (Below w.heap.size w v5) := below_then bel.out (below_lit b5)
    clear b5 ck hlt
    go_wp2_with fail
    refine (in_bad_any _ [16, 0] 4 _ (reads_lit (cs := #[.int .i64 16, .int .i64 0]) [16, 0] (at_old (at_old (at_new (by simp)))) rfl rfl 2) (by simp) (inE_no (no_four (.inr ⟨0, by omega, .inr (by decide)⟩)))).mono ?_
    rintro e v6 ⟨x6, rfl, b6⟩
    have bel : Hid (Below w.heap.size w v6) := below_then bel.out (below_then below_five b6)
    clear b6
    go_wp2_with fail
    refine (in_bad_any _ [0, 0, 0, 0, 0, 0, 0, (-(1 + D))] 1 _ (reads_lit (cs := #[.int .i64 0, .int .i64 0, .int .i64 0, .int .i64 0, .int .i64 0, .int .i64 0, .int .i64 0, .int .i64 (-(1 + D))]) [0, 0, 0, 0, 0, 0, 0, (-(1 + D))] (at_old (at_old (at_new (by simp)))) rfl rfl 8) (by simp) (inE_no (no_one (.inr ⟨7, by omega, .inl (by show -(1 + D) < 0; omega)⟩)))).mono ?_
    rintro e v7 ⟨x7, rfl, b7⟩
    have bel : Hid (Below w.heap.size w v7) := below_then bel.out (below_then below_five b7)
    clear b7
    go_wp2_with (go_at_call 14; refine (num_any _ _).mono ?_; rintro e w' ⟨rfl, rfl⟩)
    go_ret
    exact ⟨rfl, bel.out⟩
  · go_wp2_with fail
    refine (out_bad 1 (-(1 + D)) _ (by omega)).mono ?_
    rintro e v4 ⟨x4, rfl, b4⟩
    have ck : v4.cell? ⟨v3.heap.size, 4, none⟩ = some (.int .i64 (-(1 + D))) := (b4.cell (by simp)).trans (by simp)
    have hlt : v3.heap.size < v4.heap.size := by have := b4.size; simp at this; omega
    have bel : Hid (Below w.heap.size w v4) := below_then bel.out (below_lit b4)
    clear b4
    go_wp2_with fail
    refine (in_bad_any _ [1] (-(1 + D)) _ (reads_lit (cs := #[.int .i64 1]) [1] (heap_alloc_new _ _) rfl rfl 1) (by decide) (inE_no (no_lanes (by omega) (by omega)))).mono ?_
    rintro e v5 ⟨x5, rfl, b5⟩
    have bel : Hid (Below w.heap.size w v5) := below_then bel.out (below_lit b5)
    clear b5 ck hlt
    go_wp2_with fail
    refine (in_bad_any _ [0, (-(1 + D))] 4 _ (reads_lit (cs := #[.int .i64 0, .int .i64 (-(1 + D))]) [0, (-(1 + D))] (at_old (at_new (by simp))) rfl rfl 2) (by simp) (inE_no (no_four (.inr ⟨1, by omega, .inl (by show -(1 + D) < 0; omega)⟩)))).mono ?_
    rintro e v6 ⟨x6, rfl, b6⟩
    have bel : Hid (Below w.heap.size w v6) := below_then bel.out (below_then below_five b6)
    clear b6
    go_wp2_with fail
    refine (in_bad_any _ [0, 0, 0, 0, 0, 0, 0, 0, 0] 1 _ (reads_lit (cs := #[.int .i64 0, .int .i64 0, .int .i64 0, .int .i64 0, .int .i64 0, .int .i64 0, .int .i64 0, .int .i64 0, .int .i64 0]) [0, 0, 0, 0, 0, 0, 0, 0, 0] (at_old (at_new (by simp))) rfl rfl 9) (by simp) (one_count (by decide))).mono ?_
    rintro e v7 ⟨x7, rfl, b7⟩
    have bel : Hid (Below w.heap.size w v7) := below_then bel.out (below_then below_five b7)
    clear b7
    go_wp2_with (go_at_call 14; refine (num_any _ _).mono ?_; rintro e w' ⟨rfl, rfl⟩)
    go_ret
    exact ⟨rfl, bel.out⟩

set_option maxRecDepth 100000 in
theorem lifted (os : Os) (started : os.Started) (H : Type) (enc : TypeId × Value → H) :
    ReturnsInHanded {} Try.checked os 5 .any (Rows.laneFormsSpec.pre6 enc Try.prog Try.f5 Rows.laneFormsRow.domain false) (Rows.laneFormsSpec.post enc Try.prog Try.f5 false true false false) := by
  refine returnsInHanded_of_change (C := Try.checked) own started (by kernel_rfl) Try.func5
    (ChangeSpec.witness6 (enc := enc) (C := Try.checked) false ⟨#[], #[.int .i64 0, .int .i64 0], []⟩ 8 (by kernel_rfl) (by kernel_rfl) (by kernel_rfl) (by kernel_rfl)) ?_
  intro W base args ds gs before hval0 hW hcnd _
  have hval : ∀ (j : Nat) t v, Try.f5.params[j]? = some t → args[j]? = some v → Value.okWide Try.prog W .any base t v := hval0
  have hW' := hW
  obtain ⟨p, q, hA0, hV, rfl, hfz, hnd⟩ := hW
  have hA : DataW.TrodAll enc Try.prog W 0 (fun _ => true) true Try.f5.params.toList args.toList ds p := hA0
  rw [Try.params5] at hA hval
  obtain ⟨v0, vs0, d0, ds0, p0, q0, hargs, rfl, rfl, h0, r0⟩ := trodAll_cons hA
  obtain ⟨v1, vs1, d1, ds1, p1, q1, rfl, rfl, rfl, h1, r1⟩ := trodAll_cons r0
  obtain ⟨rfl, rfl, rfl⟩ := trodAll_nil r1
  obtain rfl : args = #[v0, v1] := by cases args; simp_all
  obtain ⟨rfl, rfl⟩ := trodVars_none hV
  obtain ⟨a0, rfl, rfl, rfl, w0⟩ := open_int Try.underlying3 (hval 0 3 v0 rfl rfl) h0
  obtain ⟨a1, rfl, rfl, rfl, w1⟩ := open_int Try.underlying3 (hval 1 3 v1 rfl rfl) h1
  clear hA0 hval0
  refine (walk a0 a1 W w0 w1).mono fun e W' ⟨he, bel⟩ => ?_
  subst he
  exact ⟨_, rfl, _, _, _, [], _, [], hW', trodAll_mk1 (shut_bool Try.underlying4 _), (trodAll_cons_mk (shut_int Try.underlying3 w0) (trodAll_cons_mk (shut_int Try.underlying3 w1) trodAll_mk0)), rfl, bel.frame _, fun h => by cases h⟩

theorem over : Rows.laneFormsRow.holds Try.pinned (OpenSpec.ofChange Rows.laneFormsSpec) :=
  OpenClaim.holds_of_wide 5 Try.f5 rfl rfl rfl rfl rfl rfl rfl ⟨rfl, rfl, rfl, rfl, rfl⟩ rfl rfl rfl rfl rfl (by kernel_rfl) Try.func5 (by kernel_rfl)
    (of_decide_eq_true (by kernel_rfl)) (by unfold Func.isWrapper; first | (rw [if_pos (by decide +kernel)]; kernel_rfl) | (rw [if_neg (by decide +kernel)]; exact ⟨rfl, rfl⟩))
    (fun os started H enc _ => lifted os started H enc)

theorem proved : Rows.LaneFormsSaid := over
#print axioms proved
end Go.Proofs.Ytgmocigpnmdolaa.laneForms
