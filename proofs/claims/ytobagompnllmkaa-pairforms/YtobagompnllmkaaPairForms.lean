/-
  The law PairForms holds: texts of other lengths are no slots' bytes and no slots; conditions: none beyond what the given row says of every argument.
-/
import Derived.Test.YtobagompnllmkaaRows
import Derived.Test.YtobagompnllmkaaAwake
import Derived.WalkKit
import Derived.ProofKit
import Derived.OpenShut
import Derived.ShutString
import Derived.ChangeOld
import Derived.Below
namespace Go.Proofs.Ytobagompnllmkaa.pairForms
open Go.Proofs.Ytobagompnllmkaa.Plain
open Go.ChangeShapes Go.WideShapes Go.ChangeAt Go.RowKit
open Go.ChangeMaps (open_string shut_string)
set_option linter.unusedVariables false

theorem own : ownKnob Try.prog.godebug = none := by kernel_rfl
theorem laidOut : laidOutB Try.prog = true := by kernel_rfl

set_option maxRecDepth 100000 in
set_option maxHeartbeats 2000000 in
theorem walk (a0 : ByteArray) (a1 : Int) (w : World) (w0 : a0.size ≤ maxLen) (w1 : (Lit.int .i64 a1).wf = true) :
    Calls Try.prog 6 #[.string a0, .int .i64 a1] w fun e w' => e = .returned (.bool true) ∧ Below w.heap.size w w' := by
  obtain ⟨K, hK, eK⟩ := umod a1 130 (by omega) (by omega)
  have eK' : wrap64 ((IntKind.u64.wrap a1).tmod 130) = (K : Int) := eK
  clear eK w1
  go_enter Try.func6, Try.ntmps6
  go_wp2_with fail
  refine (awake_any _).mono ?_
  rintro e v1 ⟨rfl, b1⟩
  go_wp2_with fail
  refine (text_gives _ K _ w0 (by omega)).mono ?_
  rintro e v2 ⟨T, rfl, HT, ST, b2⟩
  have sT := ST.out
  have okT : Hid (T.size ≤ maxLen) := by rw [Hid, sT]; unfold maxLen; omega
  go_wp2_with fail
  refine (put_any _ _ okT.out).mono ?_
  rintro e v3 ⟨A, n1, rfl, HA, N1, b3⟩
  go_wp2_with fail
  refine (get_any _ _ okT.out).mono ?_
  rintro e v4 ⟨B, n2, rfl, HB, N2, b4⟩
  have bel : Hid (Below w.heap.size w v4) := below_then (below_then (below_then b1 b2) b3) b4
  clear b1 b2 b3 b4 HT okT w0
  cases hg : getB T with
  | true =>
    have h64 : K = 64 := ST.out.symm.trans (getB_true.1 hg).1
    obtain rfl : n2 = 0 := N2.out.trans (by unfold getN; rw [hg]; rfl)
    obtain rfl : n1 = 200 := N1.out.trans (putN_no (by omega))
    obtain rfl : A = ⟨#[]⟩ := HA.out.trans (if_neg (by omega))
    clear HA HB N1 N2 hg ST eK'
    subst h64
    go_wp2_with (go_at_call 13; refine (num_any _ _).mono ?_; rintro e w' ⟨rfl, rfl⟩)
    go_ret
    exact ⟨rfl, bel.out⟩
  | false =>
    obtain rfl : n2 = 200 := N2.out.trans (by unfold getN; rw [hg]; rfl)
    obtain rfl : B = ⟨#[]⟩ := HB.out.trans (by unfold getS; rw [hg]; rfl)
    by_cases h32 : K = 32
    · obtain rfl : n1 = 0 := N1.out.trans (putN_yes (by omega))
      clear HA HB N1 N2 hg ST eK'
      subst h32
      go_wp2_with (go_at_call 13; refine (num_any _ _).mono ?_; rintro e w' ⟨rfl, rfl⟩)
      go_ret
      exact ⟨rfl, bel.out⟩
    · obtain rfl : n1 = 200 := N1.out.trans (putN_no (by omega))
      obtain rfl : A = ⟨#[]⟩ := HA.out.trans (if_neg (by omega))
      clear HA HB N1 N2 hg ST eK'
      have k32 : ((K : Int) == 32) = false := by simp; omega
      go_wp2_with (go_at_call 13; refine (num_any _ _).mono ?_; rintro e w' ⟨rfl, rfl⟩)
      go_ret
      exact ⟨rfl, bel.out⟩

set_option maxRecDepth 100000 in
theorem lifted (os : Os) (started : os.Started) (H : Type) (enc : TypeId × Value → H) :
    ReturnsInHanded {} Try.checked os 6 .any (Rows.pairFormsSpec.pre6 enc Try.prog Try.f6 Rows.pairFormsRow.domain false) (Rows.pairFormsSpec.post enc Try.prog Try.f6 false true false false) := by
  refine returnsInHanded_of_change (C := Try.checked) own started (by kernel_rfl) Try.func6
    (ChangeSpec.witness6 (enc := enc) (C := Try.checked) false ⟨#[], #[.string ByteArray.empty, .int .i64 0], []⟩ 8 (by kernel_rfl) (by kernel_rfl) (by kernel_rfl) (by kernel_rfl)) ?_
  intro W base args ds gs before hval0 hW hcnd _
  have hval : ∀ (j : Nat) t v, Try.f6.params[j]? = some t → args[j]? = some v → Value.okWide Try.prog W .any base t v := hval0
  have hW' := hW
  obtain ⟨p, q, hA0, hV, rfl, hfz, hnd⟩ := hW
  have hA : DataW.TrodAll enc Try.prog W 0 (fun _ => true) true Try.f6.params.toList args.toList ds p := hA0
  rw [Try.params6] at hA hval
  obtain ⟨v0, vs0, d0, ds0, p0, q0, hargs, rfl, rfl, h0, r0⟩ := trodAll_cons hA
  obtain ⟨v1, vs1, d1, ds1, p1, q1, rfl, rfl, rfl, h1, r1⟩ := trodAll_cons r0
  obtain ⟨rfl, rfl, rfl⟩ := trodAll_nil r1
  obtain rfl : args = #[v0, v1] := by cases args; simp_all
  obtain ⟨rfl, rfl⟩ := trodVars_none hV
  obtain ⟨a0, rfl, rfl, rfl, w0⟩ := open_string Try.underlying9 (hval 0 9 v0 rfl rfl) h0
  obtain ⟨a1, rfl, rfl, rfl, w1⟩ := open_int Try.underlying3 (hval 1 3 v1 rfl rfl) h1
  clear hA0 hval0
  refine (walk a0 a1 W w0 w1).mono fun e W' ⟨he, bel⟩ => ?_
  subst he
  exact ⟨_, rfl, _, _, _, [], _, [], hW', trodAll_mk1 (shut_bool Try.underlying4 _), (trodAll_cons_mk (shut_string Try.underlying9 w0) (trodAll_cons_mk (shut_int Try.underlying3 w1) trodAll_mk0)), rfl, bel.frame _, fun h => by cases h⟩

theorem over : Rows.pairFormsRow.holds Try.pinned (OpenSpec.ofChange Rows.pairFormsSpec) :=
  OpenClaim.holds_of_wide 6 Try.f6 rfl rfl rfl rfl rfl rfl rfl ⟨rfl, rfl, rfl, rfl, rfl⟩ rfl rfl rfl rfl rfl (by kernel_rfl) Try.func6 (by kernel_rfl)
    (of_decide_eq_true (by kernel_rfl)) (by unfold Func.isWrapper; first | (rw [if_pos (by decide +kernel)]; kernel_rfl) | (rw [if_neg (by decide +kernel)]; exact ⟨rfl, rfl⟩))
    (fun os started H enc _ => lifted os started H enc)

theorem proved : Rows.PairFormsSaid := over
#print axioms proved
end Go.Proofs.Ytobagompnllmkaa.pairForms
