/-
  The law PairAnd holds: two unlike slots programmed over one another are none, and like ones stay what they are; conditions: none beyond what the given row says of every argument.
-/
import Derived.Test.YtobagompnllmkaaRows
import Derived.Test.YtobagompnllmkaaTurns
import Derived.WalkKit
import Derived.ProofKit
import Derived.OpenShut
import Derived.ShutString
import Derived.ChangeOld
import Derived.Below
namespace Go.Proofs.Ytobagompnllmkaa.pairAnd
open Go.Proofs.Ytobagompnllmkaa.Plain
open Go.ChangeShapes Go.WideShapes Go.ChangeAt Go.RowKit
open Go.ChangeMaps (open_string shut_string)
set_option linter.unusedVariables false

theorem own : ownKnob Try.prog.godebug = none := by kernel_rfl
theorem laidOut : laidOutB Try.prog = true := by kernel_rfl

set_option maxRecDepth 100000 in
set_option maxHeartbeats 2000000 in
theorem walk (a0 : ByteArray) (a1 : ByteArray) (w : World) (w0 : a0.size ≤ maxLen) (w1 : a1.size ≤ maxLen) :
    Calls Try.prog 8 #[.string a0, .string a1] w fun e w' => e = .returned (.bool true) ∧ Below w.heap.size w w' := by
  go_enter Try.func8, Try.ntmps8
  go_wp2_with fail
  refine (awake_any _).mono ?_
  rintro e v1 ⟨rfl, b1⟩
  go_wp2_with fail
  refine (text_gives _ 32 _ w0 (by omega)).mono ?_
  rintro e v2 ⟨X, rfl, HX, SX, b2⟩
  go_wp2_with fail
  refine (text_gives _ 32 _ w1 (by omega)).mono ?_
  rintro e v3 ⟨Y, rfl, HY, SY, b3⟩
  go_wp2_with fail
  refine (put_gives _ _ SX.out).mono ?_
  rintro e v4 ⟨S, rfl, HS, SS, b4⟩
  go_wp2_with fail
  refine (put_gives _ _ SY.out).mono ?_
  rintro e v5 ⟨T, rfl, HT, ST, b5⟩
  have sS := SS.out
  have sT := ST.out
  go_wp2_with (go_at_call 13; refine (num_any _ _).mono ?_; rintro e w' ⟨rfl, rfl⟩)
  refine (blank_is _).mono ?_
  rintro e v6 ⟨F, rfl, HF, b6⟩
  have SF : Hid (F.size = 4096) := full_size HF.out
  go_wp2_with fail
  refine (program_gives F 0 S _ SF.out (by omega)).mono ?_
  rintro e v7 ⟨P, rfl, HP, SP, b7⟩
  go_wp2_with fail
  refine (program_gives P 0 T _ SP.out (by omega)).mono ?_
  rintro e v8 ⟨Q, rfl, HQ, SQ, b8⟩
  have sQ := SQ.out
  obtain ⟨sU, hi, hh⟩ := and_slot SX.out SY.out HS.out HT.out HF.out HP.out HQ.out
  have HI : Hid (getB (Q.extract 0 64) = true ↔ X = Y) := hi
  have hhalf : Hid (X = Y → (Q.extract 0 64).extract 0 32 = X) := hh
  clear hi hh
  have okU : Hid ((Q.extract 0 64).size ≤ maxLen) := by rw [Hid, sU]; unfold maxLen; omega
  go_wp2_with (go_at_call 13; refine (num_any _ _).mono ?_; rintro e w' ⟨rfl, rfl⟩)
  refine (get_any _ _ okU.out).mono ?_
  rintro e v9 ⟨Z, n, rfl, HZ, N1, b9⟩
  have bel : Hid (Below w.heap.size w v9) := below_then (below_then (below_then (below_then (below_then (below_then (below_then (below_then b1 b2) b3) b4) b5) b6) b7) b8) b9
  clear b1 b2 b3 b4 b5 b6 b7 b8 b9 HX HY HS HT HF HP HQ SF SP SQ okU w0 w1
  by_cases hxy : X = Y
  · have hg := HI.out.2 hxy
    obtain rfl : n = 0 := N1.out.trans (by unfold getN; rw [hg]; rfl)
    obtain rfl : X = Z := by rw [HZ.out]; unfold getS; rw [hg, if_pos rfl]; exact (hhalf.out hxy).symm
    subst hxy
    clear HI HZ N1 hhalf hg
    go_wp2_with (go_at_call 13; refine (num_any _ _).mono ?_; rintro e w' ⟨rfl, rfl⟩)
    go_ret
    exact ⟨rfl, bel.out⟩
  · have hg : getB (Q.extract 0 64) = false := by rw [Bool.eq_false_iff]; exact fun h => hxy (HI.out.1 h)
    obtain rfl : n = 200 := N1.out.trans (by unfold getN; rw [hg]; rfl)
    have hne : (X.toList == Y.toList) = false := by rw [eq_iff]; exact decide_eq_false hxy
    clear HI HZ N1 hhalf hg hxy
    go_wp2_with (go_at_call 13; refine (num_any _ _).mono ?_; rintro e w' ⟨rfl, rfl⟩)
    go_ret
    exact ⟨rfl, bel.out⟩

set_option maxRecDepth 100000 in
theorem lifted (os : Os) (started : os.Started) (H : Type) (enc : TypeId × Value → H) :
    ReturnsInHanded {} Try.checked os 8 .any (Rows.pairAndSpec.pre6 enc Try.prog Try.f8 Rows.pairAndRow.domain false) (Rows.pairAndSpec.post enc Try.prog Try.f8 false true false false) := by
  refine returnsInHanded_of_change (C := Try.checked) own started (by kernel_rfl) Try.func8
    (ChangeSpec.witness6 (enc := enc) (C := Try.checked) false ⟨#[], #[.string ByteArray.empty, .string ByteArray.empty], []⟩ 8 (by kernel_rfl) (by kernel_rfl) (by kernel_rfl) (by kernel_rfl)) ?_
  intro W base args ds gs before hval0 hW hcnd _
  have hval : ∀ (j : Nat) t v, Try.f8.params[j]? = some t → args[j]? = some v → Value.okWide Try.prog W .any base t v := hval0
  have hW' := hW
  obtain ⟨p, q, hA0, hV, rfl, hfz, hnd⟩ := hW
  have hA : DataW.TrodAll enc Try.prog W 0 (fun _ => true) true Try.f8.params.toList args.toList ds p := hA0
  rw [Try.params8] at hA hval
  obtain ⟨v0, vs0, d0, ds0, p0, q0, hargs, rfl, rfl, h0, r0⟩ := trodAll_cons hA
  obtain ⟨v1, vs1, d1, ds1, p1, q1, rfl, rfl, rfl, h1, r1⟩ := trodAll_cons r0
  obtain ⟨rfl, rfl, rfl⟩ := trodAll_nil r1
  obtain rfl : args = #[v0, v1] := by cases args; simp_all
  obtain ⟨rfl, rfl⟩ := trodVars_none hV
  obtain ⟨a0, rfl, rfl, rfl, w0⟩ := open_string Try.underlying9 (hval 0 9 v0 rfl rfl) h0
  obtain ⟨a1, rfl, rfl, rfl, w1⟩ := open_string Try.underlying9 (hval 1 9 v1 rfl rfl) h1
  clear hA0 hval0
  refine (walk a0 a1 W w0 w1).mono fun e W' ⟨he, bel⟩ => ?_
  subst he
  exact ⟨_, rfl, _, _, _, [], _, [], hW', trodAll_mk1 (shut_bool Try.underlying4 _), (trodAll_cons_mk (shut_string Try.underlying9 w0) (trodAll_cons_mk (shut_string Try.underlying9 w1) trodAll_mk0)), rfl, bel.frame _, fun h => by cases h⟩

theorem over : Rows.pairAndRow.holds Try.pinned (OpenSpec.ofChange Rows.pairAndSpec) :=
  OpenClaim.holds_of_wide 8 Try.f8 rfl rfl rfl rfl rfl rfl rfl ⟨rfl, rfl, rfl, rfl, rfl⟩ rfl rfl rfl rfl rfl (by kernel_rfl) Try.func8 (by kernel_rfl)
    (of_decide_eq_true (by kernel_rfl)) (by unfold Func.isWrapper; first | (rw [if_pos (by decide +kernel)]; kernel_rfl) | (rw [if_neg (by decide +kernel)]; exact ⟨rfl, rfl⟩))
    (fun os started H enc _ => lifted os started H enc)

theorem proved : Rows.PairAndSaid := over
#print axioms proved
end Go.Proofs.Ytobagompnllmkaa.pairAnd
