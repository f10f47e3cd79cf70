/-
  SfdpBack: three powers of 2 come back; a text of which a byte was turned is none, or tells other powers. No conditions.
-/
import Derived.Test.YtgibpmjgcjcghaaRows
import Derived.Test.YtgibpmjgcjcghaaShift
import Derived.WalkKit
import Derived.ProofKit
import Derived.OpenShut
import Derived.ShutString
import Derived.ChangeOld
import Derived.Below
namespace Go.Proofs.Ytgibpmjgcjcghaa.sfdpBack
open Go.Proofs.Ytgibpmjgcjcghaa.Plain
open Go.ChangeShapes Go.WideShapes Go.ChangeAt Go.RowKit
open Go.ChangeMaps (open_string shut_string)
set_option linter.unusedVariables false

theorem own : ownKnob Try.prog.godebug = none := by kernel_rfl
theorem laidOut : laidOutB Try.prog = true := by kernel_rfl

set_option maxRecDepth 100000 in
set_option maxHeartbeats 2000000 in
theorem walk (a0 : Int) (a1 : Int) (a2 : Int) (a3 : Int) (a4 : Int) (w : World) (w0 : (Lit.int .i64 a0).wf = true) (w1 : (Lit.int .i64 a1).wf = true) (w2 : (Lit.int .i64 a2).wf = true) (w3 : (Lit.int .i64 a3).wf = true) (w4 : (Lit.int .i64 a4).wf = true) :
    Calls Try.prog 4 #[.int .i64 a0, .int .i64 a1, .int .i64 a2, .int .i64 a3, .int .i64 a4] w fun e w' => e = .returned (.bool true) ∧ Below w.heap.size w w' := by
  obtain ⟨X, mX, sX⟩ := shift_any a0
  obtain ⟨Y, mY, sY⟩ := shift_any a1
  obtain ⟨Z, mZ, sZ⟩ := shift_any a2
  obtain ⟨i, hi, ei0⟩ := umod a3 32 (by decide) (by decide)
  have ei : wrap64 ((IntKind.u64.wrap a3).tmod 32) = (i : Int) := ei0
  clear ei0
  obtain ⟨D, hD0, hD, eD⟩ := by_any a4
  go_enter Try.func4, Try.ntmps4
  go_wp2_with fail
  refine (awake_any _).mono ?_
  rintro e u1 ⟨rfl, b1⟩
  go_wp2_with fail
  clear sX sY sZ
  refine (put_of X Y Z _ mX mY mZ).mono ?_
  rintro e u2 ⟨S, rfl, HS, b2⟩
  have B2 : Hid (Below w.heap.size w u2) := below_then b1 b2
  have hSs : S.size = 32 := by rw [HS.out, put_size]
  clear b1 b2
  go_wp2_with fail
  refine (get_of S _ X Y Z 0 (by unfold maxLen; omega) (by rw [HS.out]; exact getIs_put _ _ _ mX mY mZ)).mono ?_
  rintro e u3 ⟨rfl, b3⟩
  have B3 : Hid (Below w.heap.size w u3) := below_then B2.out b3
  clear b3 B2 mX mY mZ
  obtain ⟨W1, cap, hconv, hcap, hby, hbel, hsz⟩ := to_bytes_of u3 S 32 hSs
  have HBy : Hid (Bytes W1 u3.heap.size 32 (ub S)) := hby
  have c0 := (hby i hi).1
  have f0 := (hby i hi).2
  have B4 : Hid (Below w.heap.size w W1) := below_then B3.out hbel
  obtain ⟨y, Hy⟩ : ∃ y, Hid (ub S i ^^^ UInt8.ofNat D = y) := ⟨_, rfl⟩
  have ey : bits .xor .u8 ((ub S i).toNat : Int) (D : Int) = (y.toNat : Int) := by rw [← Hy.out]; exact xor_u8 _ _ hD
  have HO : Hid (y ≠ ub S i) := by rw [Hid, ← Hy.out]; exact xor_other _ _ hD hD0
  have HB5 := hby.set i hi y
  obtain ⟨T, hback, HT⟩ := HB5.back_is (fun j _ => rfl) cap
  have hTs : T.size = 32 := by rw [HT.out, tab_size]
  have HTi : Hid (ub T i ≠ ub S i) := by rw [Hid, HT.out, ub_tab _ _ _ hi, if_pos rfl]; exact HO.out
  have hu3 : w.heap.size ≤ u3.heap.size := B3.out.size
  clear hby hbel hsz B3 hcap HB5 HBy Hy HO
  go_wp2_with (first | (go_at_call 11; refine (num_any _ _).mono ?_; rintro e w' ⟨rfl, rfl⟩) | fail)
  clear hback c0 f0
  refine (get_says T _ (by unfold maxLen; omega)).mono ?_
  rintro e u5 ⟨p, q, r, f, rfl, HG, b5⟩
  have B5 : Hid (Below w.heap.size w u5) := (B4.out.setCell (p := ⟨u3.heap.size, i, none⟩) hu3 _).trans (b5.mono (by simp [B4.out.size]))
  clear b5 B4
  rcases HG.out with ⟨rfl, -, -, -, hT⟩ | ⟨rfl, rfl, rfl, rfl, -⟩
  · obtain ⟨i8, i20, hn⟩ := turned HS.out hT HTi.out
    clear HG HT HS hT HTi
    rcases (by omega : p ≠ X ∨ (p = X ∧ q ≠ Y) ∨ (p = X ∧ q = Y ∧ r ≠ Z)) with h1 | ⟨rfl, h1⟩ | ⟨rfl, rfl, h1⟩
    all_goals clear hn
    all_goals go_wp2_with (go_at_call 11; refine (num_any _ _).mono ?_; rintro e w' ⟨rfl, rfl⟩)
    all_goals go_ret
    all_goals first | exact ⟨rfl, B5.out⟩ | exact ⟨ret_bool (bne_cast h1), B5.out⟩
  · clear HG HT HS HTi
    go_wp2_with (go_at_call 11; refine (num_any _ _).mono ?_; rintro e w' ⟨rfl, rfl⟩)
    go_ret
    exact ⟨rfl, B5.out⟩

set_option maxRecDepth 100000 in
theorem lifted (os : Os) (started : os.Started) (H : Type) (enc : TypeId × Value → H) :
    ReturnsInHanded {} Try.checked os 4 .any (Rows.sfdpBackSpec.pre6 enc Try.prog Try.f4 Rows.sfdpBackRow.domain false) (Rows.sfdpBackSpec.post enc Try.prog Try.f4 false true false false) := by
  refine returnsInHanded_of_change (C := Try.checked) own started (by kernel_rfl) Try.func4
    (ChangeSpec.witness6 (enc := enc) (C := Try.checked) false ⟨#[], #[.int .i64 0, .int .i64 0, .int .i64 0, .int .i64 0, .int .i64 0], []⟩ 8 (by kernel_rfl) (by kernel_rfl) (by kernel_rfl) (by kernel_rfl)) ?_
  intro W base args ds gs before hval0 hW hcnd _
  have hval : ∀ (j : Nat) t v, Try.f4.params[j]? = some t → args[j]? = some v → Value.okWide Try.prog W .any base t v := hval0
  have hW' := hW
  obtain ⟨p, q, hA0, hV, rfl, hfz, hnd⟩ := hW
  have hA : DataW.TrodAll enc Try.prog W 0 (fun _ => true) true Try.f4.params.toList args.toList ds p := hA0
  rw [Try.params4] at hA hval
  obtain ⟨v0, vs0, d0, ds0, p0, q0, hargs, rfl, rfl, h0, r0⟩ := trodAll_cons hA
  obtain ⟨v1, vs1, d1, ds1, p1, q1, rfl, rfl, rfl, h1, r1⟩ := trodAll_cons r0
  obtain ⟨v2, vs2, d2, ds2, p2, q2, rfl, rfl, rfl, h2, r2⟩ := trodAll_cons r1
  obtain ⟨v3, vs3, d3, ds3, p3, q3, rfl, rfl, rfl, h3, r3⟩ := trodAll_cons r2
  obtain ⟨v4, vs4, d4, ds4, p4, q4, rfl, rfl, rfl, h4, r4⟩ := trodAll_cons r3
  obtain ⟨rfl, rfl, rfl⟩ := trodAll_nil r4
  obtain rfl : args = #[v0, v1, v2, v3, v4] := by cases args; simp_all
  obtain ⟨rfl, rfl⟩ := trodVars_none hV
  obtain ⟨a0, rfl, rfl, rfl, w0⟩ := open_int Try.underlying3 (hval 0 3 v0 rfl rfl) h0
  obtain ⟨a1, rfl, rfl, rfl, w1⟩ := open_int Try.underlying3 (hval 1 3 v1 rfl rfl) h1
  obtain ⟨a2, rfl, rfl, rfl, w2⟩ := open_int Try.underlying3 (hval 2 3 v2 rfl rfl) h2
  obtain ⟨a3, rfl, rfl, rfl, w3⟩ := open_int Try.underlying3 (hval 3 3 v3 rfl rfl) h3
  obtain ⟨a4, rfl, rfl, rfl, w4⟩ := open_int Try.underlying3 (hval 4 3 v4 rfl rfl) h4
  clear hA0 hval0
  refine (walk a0 a1 a2 a3 a4 W w0 w1 w2 w3 w4).mono fun e W' ⟨he, bel⟩ => ?_
  subst he
  exact ⟨_, rfl, _, _, _, [], _, [], hW', trodAll_mk1 (shut_bool Try.underlying4 _), (trodAll_cons_mk (shut_int Try.underlying3 w0) (trodAll_cons_mk (shut_int Try.underlying3 w1) (trodAll_cons_mk (shut_int Try.underlying3 w2) (trodAll_cons_mk (shut_int Try.underlying3 w3) (trodAll_cons_mk (shut_int Try.underlying3 w4) trodAll_mk0))))), rfl, bel.frame _, fun h => by cases h⟩

theorem over : Rows.sfdpBackRow.holds Try.pinned (OpenSpec.ofChange Rows.sfdpBackSpec) :=
  OpenClaim.holds_of_wide 4 Try.f4 rfl rfl rfl rfl rfl rfl rfl ⟨rfl, rfl, rfl, rfl, rfl⟩ rfl rfl rfl rfl rfl (by kernel_rfl) Try.func4 (by kernel_rfl)
    (of_decide_eq_true (by kernel_rfl)) (by unfold Func.isWrapper; first | (rw [if_pos (by decide +kernel)]; kernel_rfl) | (rw [if_neg (by decide +kernel)]; exact ⟨rfl, rfl⟩))
    (fun os started H enc _ => lifted os started H enc)

theorem proved : Rows.SfdpBackSaid := over
#print axioms proved
end Go.Proofs.Ytgibpmjgcjcghaa.sfdpBack
