/-
  Ops: for any number, what the program tells of it and all the commands' bytes are the document's, also when an earlier answer has been written over. No conditions.
-/
import Derived.Test.YtoefbeblelnkmaaRows
import Derived.Test.YtoefbeblelnkmaaAwake
import Derived.WalkKit
import Derived.ProofKit
import Derived.OpenShut
import Derived.ShutString
import Derived.ChangeOld
import Derived.Below
namespace Go.Proofs.Ytoefbeblelnkmaa.ops
open Go.ChangeShapes Go.WideShapes Go.ChangeAt Go.RowKit
open Go.ChangeMaps (open_string shut_string)
set_option linter.unusedVariables false

theorem own : ownKnob Try.prog.godebug = none := by kernel_rfl
theorem laidOut : laidOutB Try.prog = true := by kernel_rfl

set_option maxRecDepth 100000 in
set_option maxHeartbeats 2000000 in
theorem walk (a0 : Int) (w : World) (w0 : (Lit.int .i64 a0).wf = true) :
    Calls Try.prog 3 #[.int .i64 a0] w fun e w' => e = .returned (.bool true) ∧ Below w.heap.size w w' := by
  obtain ⟨xB, hB⟩ : ∃ x, opB a0 = x := ⟨_, rfl⟩
  obtain ⟨xA, hA⟩ : ∃ x, opA a0 = x := ⟨_, rfl⟩
  obtain ⟨xM, hM⟩ : ∃ x, opM a0 = x := ⟨_, rfl⟩
  obtain ⟨xD, hD⟩ : ∃ x, opD a0 = x := ⟨_, rfl⟩
  obtain ⟨xN, hN⟩ : ∃ x, opN a0 = x := ⟨_, rfl⟩
  obtain ⟨xI, hI⟩ : ∃ x, opI a0 = x := ⟨_, rfl⟩
  obtain ⟨xE, hE⟩ : ∃ x, opE a0 = x := ⟨_, rfl⟩
  have h6 : Hid (∀ v, Calls Try.prog 6 #[.int .i64 a0] v fun e v' => e = .returned (.tuple #[.agg #[.int .i64 xB, .int .i64 xA, .bool xM, .int .i64 xD, .int .i64 xN, .bool xI], .int .i64 xE]) ∧ Below v.heap.size v v') := fun v => by
    have h := of_any a0 v
    unfold Tells at h
    rwa [hB, hA, hM, hD, hN, hI, hE] at h
  have h7 : Hid (∀ v, Calls Try.prog 7 #[.int .i64 a0] v fun e v' => e = .returned (.tuple #[.agg #[.int .i64 xB, .int .i64 xA, .bool xM, .int .i64 xD, .int .i64 xN, .bool xI], .int .i64 xE]) ∧ Below v.heap.size v v') := fun v => by
    have h := ref_any a0 v
    unfold Tells at h
    rwa [hB, hA, hM, hD, hN, hI, hE] at h
  clear hB hA hM hD hN hI hE
  have HL : Hid (opL.length * 8 ≤ 140737488351232) := by rw [Hid]; decide
  go_enter Try.func3, Try.ntmps3
  go_wp2_with fail
  refine (h6.out _).mono ?_
  rintro e w1 ⟨rfl, b1⟩
  have s1 : Hid (Six _ _ _ _ _ _ _ _) := Six.new w1 (.int .i64 xB) (.int .i64 xA) (.bool xM) (.int .i64 xD) (.int .i64 xN) (.bool xI)
  have bel : Hid (Below w.heap.size w (w1.alloc (.cells #[.int .i64 xB, .int .i64 xA, .bool xM, .int .i64 xD, .int .i64 xN, .bool xI] 23))) := below_then b1 (below_new _ _)
  clear b1 h6
  go_wp2_with fail
  refine (h7.out _).mono ?_
  rintro e w2 ⟨rfl, b2⟩
  have s1 : Hid (Six _ _ _ _ _ _ _ _) := s1.out.below (below_then b2 (below_new w2 (.cells #[.int .i64 xB, .int .i64 xA, .bool xM, .int .i64 xD, .int .i64 xN, .bool xI] 23)))
  have s2 : Hid (Six _ _ _ _ _ _ _ _) := Six.new w2 (.int .i64 xB) (.int .i64 xA) (.bool xM) (.int .i64 xD) (.int .i64 xN) (.bool xI)
  have bel : Hid (Below w.heap.size w (w2.alloc (.cells #[.int .i64 xB, .int .i64 xA, .bool xM, .int .i64 xD, .int .i64 xN, .bool xI] 23))) := below_then (below_then bel.out b2) (below_new _ _)
  clear b2 h7
  go_wp2_with fail
  refine (all_any _).mono ?_
  rintro e w3 ⟨g3, k3, rfl, o3, b3⟩
  obtain ⟨c0, c1, c2, c3, c4, c5⟩ := s1.out.below b3
  obtain ⟨d0, d1, d2, d3, d4, d5⟩ := s2.out.below b3
  obtain ⟨B3, hB3⟩ : ∃ B, (w2.alloc (.cells #[.int .i64 xB, .int .i64 xA, .bool xM, .int .i64 xD, .int .i64 xN, .bool xI] 23)).heap.size = B := ⟨_, rfl⟩
  have HS : Hid (w.heap.size ≤ B3) := by rw [Hid, ← hB3]; exact bel.out.size
  have O3 : Hid (Owns B3 w3 (.slice (some ⟨g3, 0, none⟩) 14 k3) opL) := by rw [hB3] at o3; exact o3
  have bel : Hid (Below w.heap.size w w3) := below_then bel.out b3
  clear b3 o3 hB3 s1 s2
  go_wp2_with (go_at_call 9; refine (num_any _ _).mono ?_; rintro e w' ⟨rfl, rfl⟩)
  refine (reft_all _).mono ?_
  rintro e w4 ⟨g4, k4, rfl, o4, b4⟩
  clear c0 c1 c2 c3 c4 c5 d0 d1 d2 d3 d4 d5
  have O3 : Hid (Owns B3 w4 _ _) := O3.out.below b4 (Nat.le_refl _)
  have O4 : Hid (Reads w4 _ _) := o4.reads
  have bel : Hid (Below w.heap.size w w4) := below_then bel.out b4
  clear b4 o4
  go_wp2_with fail
  refine (same_any _ _ opL opL _ O3.out.reads O4.out HL.out HL.out).mono ?_
  rintro e w5 ⟨rfl, b5⟩
  rw [show decide (opL = opL) = true from by decide]
  have O3 : Hid (Owns B3 w5 _ _) := O3.out.below b5 (Nat.le_refl _)
  have bel : Hid (Below w.heap.size w w5) := below_then bel.out b5
  clear b5 O4
  go_wp2_with fail
  refine (spoil_any B3 _ opL _ O3.out HL.out).mono ?_
  rintro e w6 ⟨rfl, b6⟩
  have bel : Hid (Below w.heap.size w w6) := bel.out.trans (b6.mono HS.out)
  clear b6 O3 HS
  go_wp2_with fail
  refine (all_any _).mono ?_
  rintro e w7 ⟨g7, k7, rfl, o7, b7⟩
  have O7 : Hid (Reads w7 _ _) := o7.reads
  have bel : Hid (Below w.heap.size w w7) := below_then bel.out b7
  clear b7 o7
  go_wp2_with fail
  refine (reft_all _).mono ?_
  rintro e w8 ⟨g8, k8, rfl, o8, b8⟩
  have O7 : Hid (Reads w8 _ _) := O7.out.below b8
  have O8 : Hid (Reads w8 _ _) := o8.reads
  have bel : Hid (Below w.heap.size w w8) := below_then bel.out b8
  clear b8 o8
  go_wp2_with fail
  refine (same_any _ _ opL opL _ O7.out O8.out HL.out HL.out).mono ?_
  rintro e w9 ⟨rfl, b9⟩
  rw [show decide (opL = opL) = true from by decide]
  have bel : Hid (Below w.heap.size w w9) := below_then bel.out b9
  clear b9 O7 O8
  go_wp2_with fail
  refine (awake_any _).mono ?_
  rintro e w10 ⟨rfl, b10⟩
  have bel : Hid (Below w.heap.size w w10) := below_then bel.out b10
  clear b10
  go_wp2
  go_ret
  exact ⟨rfl, bel.out⟩

set_option maxRecDepth 100000 in
theorem lifted (os : Os) (started : os.Started) (H : Type) (enc : TypeId × Value → H) :
    ReturnsInHanded {} Try.checked os 3 .any (Rows.opsSpec.pre6 enc Try.prog Try.f3 Rows.opsRow.domain false) (Rows.opsSpec.post enc Try.prog Try.f3 false true false false) := by
  refine returnsInHanded_of_change (C := Try.checked) own started (by kernel_rfl) Try.func3
    (ChangeSpec.witness6 (enc := enc) (C := Try.checked) false ⟨#[], #[.int .i64 0], []⟩ 8 (by kernel_rfl) (by kernel_rfl) (by kernel_rfl) (by kernel_rfl)) ?_
  intro W base args ds gs before hval0 hW hcnd _
  have hval : ∀ (j : Nat) t v, Try.f3.params[j]? = some t → args[j]? = some v → Value.okWide Try.prog W .any base t v := hval0
  have hW' := hW
  obtain ⟨p, q, hA0, hV, rfl, hfz, hnd⟩ := hW
  have hA : DataW.TrodAll enc Try.prog W 0 (fun _ => true) true Try.f3.params.toList args.toList ds p := hA0
  rw [Try.params3] at hA hval
  obtain ⟨v0, vs0, d0, ds0, p0, q0, hargs, rfl, rfl, h0, r0⟩ := trodAll_cons hA
  obtain ⟨rfl, rfl, rfl⟩ := trodAll_nil r0
  obtain rfl : args = #[v0] := by cases args; simp_all
  obtain ⟨rfl, rfl⟩ := trodVars_none hV
  obtain ⟨a0, rfl, rfl, rfl, w0⟩ := open_int Try.underlying3 (hval 0 3 v0 rfl rfl) h0
  clear hA0 hval0
  refine (walk a0 W w0).mono fun e W' ⟨he, bel⟩ => ?_
  subst he
  exact ⟨_, rfl, _, _, _, [], _, [], hW', trodAll_mk1 (shut_bool Try.underlying4 _), (trodAll_cons_mk (shut_int Try.underlying3 w0) trodAll_mk0), rfl, bel.frame _, fun h => by cases h⟩

theorem over : Rows.opsRow.holds Try.pinned (OpenSpec.ofChange Rows.opsSpec) :=
  OpenClaim.holds_of_wide 3 Try.f3 rfl rfl rfl rfl rfl rfl rfl ⟨rfl, rfl, rfl, rfl, rfl⟩ rfl rfl rfl rfl rfl (by kernel_rfl) Try.func3 (by kernel_rfl)
    (of_decide_eq_true (by kernel_rfl)) (by unfold Func.isWrapper; first | (rw [if_pos (by decide +kernel)]; kernel_rfl) | (rw [if_neg (by decide +kernel)]; exact ⟨rfl, rfl⟩))
    (fun os started H enc _ => lifted os started H enc)

theorem proved : Rows.OpsSaid := over
#print axioms proved
end Go.Proofs.Ytoefbeblelnkmaa.ops
