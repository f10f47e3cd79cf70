/-
  The law PairCounts holds: half of a slot's bits are set, whatever it has; conditions: none beyond what the given row says of every argument.
-/
import Derived.Test.YtobagompnllmkaaRows
import Derived.Test.YtobagompnllmkaaTurns
import Derived.WalkKit
import Derived.ProofKit
import Derived.OpenShut
import Derived.ShutString
import Derived.ChangeOld
import Derived.Below
namespace Go.Proofs.Ytobagompnllmkaa.pairCounts
open Go.Proofs.Ytobagompnllmkaa.Plain
open Go.ChangeShapes Go.WideShapes Go.ChangeAt Go.RowKit
open Go.ChangeMaps (open_string shut_string)
set_option linter.unusedVariables false

theorem own : ownKnob Try.prog.godebug = none := by kernel_rfl
theorem laidOut : laidOutB Try.prog = true := by kernel_rfl

set_option maxRecDepth 100000 in
set_option maxHeartbeats 2000000 in
theorem walk (a0 : ByteArray) (w : World) (w0 : a0.size ≤ maxLen) :
    Calls Try.prog 7 #[.string a0] w fun e w' => e = .returned (.bool true) ∧ Below w.heap.size w w' := by
  go_enter Try.func7, Try.ntmps7
  go_wp2_with fail
  refine (awake_any _).mono ?_
  rintro e v1 ⟨rfl, b1⟩
  go_wp2_with fail
  refine (text_gives _ 32 _ w0 (by omega)).mono ?_
  rintro e v2 ⟨X, rfl, HX, SX, b2⟩
  go_wp2_with fail
  refine (put_gives _ _ SX.out).mono ?_
  rintro e v3 ⟨T, rfl, HT, ST, b3⟩
  have sT := ST.out
  have bel : Hid (Below w.heap.size w v3) := below_then (below_then b1 b2) b3
  have HC : Hid (cnt (fun j => pc (ub T j) 8) 64 = 256) := by rw [Hid, HT.out]; exact cnt_put X
  have gT := get_ub T
  clear b1 b2 b3 HX HT SX w0
  go_wp2_with (go_at_call 13; refine (num_any _ _).mono ?_; rintro e w' ⟨rfl, rfl⟩)
  go_loopw [5, 6] (fun k i wr => ∃ I : Nat, I ≤ 64 ∧ i = .int .i64 I ∧ k = .int .i64 (cnt (fun j => pc (ub T j) 8) I : Nat) ∧ Below w.heap.size w wr) (fun _ i _ => 64 - (intOf i).toNat)
  case atStart => exact ⟨0, Nat.zero_le _, rfl, rfl, bel.out⟩
  case round =>
    obtain ⟨I, hI, rfl, rfl, hbl⟩ := hrel
    have HL : Hid (Below w.heap.size w wr) := hbl
    clear bel hbl
    by_cases hlt : I < 64
    · obtain ⟨n, hn⟩ : ∃ n, n = cnt (fun j => pc (ub T j) 8) I := ⟨_, rfl⟩
      rw [← hn]
      have hn8 : n ≤ 8 * I := by rw [hn]; exact cnt_le _ _ (fun j => pc_le8 _)
      obtain ⟨wo, rfl⟩ : ∃ wo : World, wo = wr := ⟨_, rfl⟩
      go_wp2
      go_loopw [5, 7] (fun k j wr => ∃ J : Nat, J ≤ 8 ∧ j = .int .i64 J ∧ k = .int .i64 (n + pc (ub T I) J : Nat) ∧ Below w.heap.size w wr) (fun _ j _ => 8 - (intOf j).toNat)
      case atStart => exact ⟨0, Nat.zero_le _, rfl, by rfl, HL.out⟩
      case round =>
        obtain ⟨J, hJ, rfl, rfl, hbl⟩ := hrel
        have HL : Hid (Below w.heap.size w wr) := hbl
        clear hbl
        by_cases hj : J < 8
        · have hp := pc_le (ub T I) J
          go_wp2
          refine ⟨⟨J + 1, by omega, by go_num, ?_, HL.out⟩, by simp [intOf]; omega⟩
          rw [← hn]
          exact congrArg (Value.int .i64) (count_step (ub T I) J n (by omega) hj)
        · have h8 : J = 8 := by omega
          subst h8
          go_wp2
          go_roundw
          case rel => exact ⟨I + 1, by omega, by go_num, by rw [hn]; rfl, HL.out⟩
          case measure => simp [intOf]; omega
    · have h64 : I = 64 := by omega
      subst h64
      rw [HC.out]
      go_wp2
      go_ret
      exact ⟨rfl, HL.out⟩

set_option maxRecDepth 100000 in
theorem lifted (os : Os) (started : os.Started) (H : Type) (enc : TypeId × Value → H) :
    ReturnsInHanded {} Try.checked os 7 .any (Rows.pairCountsSpec.pre6 enc Try.prog Try.f7 Rows.pairCountsRow.domain false) (Rows.pairCountsSpec.post enc Try.prog Try.f7 false true false false) := by
  refine returnsInHanded_of_change (C := Try.checked) own started (by kernel_rfl) Try.func7
    (ChangeSpec.witness6 (enc := enc) (C := Try.checked) false ⟨#[], #[.string ByteArray.empty], []⟩ 8 (by kernel_rfl) (by kernel_rfl) (by kernel_rfl) (by kernel_rfl)) ?_
  intro W base args ds gs before hval0 hW hcnd _
  have hval : ∀ (j : Nat) t v, Try.f7.params[j]? = some t → args[j]? = some v → Value.okWide Try.prog W .any base t v := hval0
  have hW' := hW
  obtain ⟨p, q, hA0, hV, rfl, hfz, hnd⟩ := hW
  have hA : DataW.TrodAll enc Try.prog W 0 (fun _ => true) true Try.f7.params.toList args.toList ds p := hA0
  rw [Try.params7] at hA hval
  obtain ⟨v0, vs0, d0, ds0, p0, q0, hargs, rfl, rfl, h0, r0⟩ := trodAll_cons hA
  obtain ⟨rfl, rfl, rfl⟩ := trodAll_nil r0
  obtain rfl : args = #[v0] := by cases args; simp_all
  obtain ⟨rfl, rfl⟩ := trodVars_none hV
  obtain ⟨a0, rfl, rfl, rfl, w0⟩ := open_string Try.underlying9 (hval 0 9 v0 rfl rfl) h0
  clear hA0 hval0
  refine (walk a0 W w0).mono fun e W' ⟨he, bel⟩ => ?_
  subst he
  exact ⟨_, rfl, _, _, _, [], _, [], hW', trodAll_mk1 (shut_bool Try.underlying4 _), (trodAll_cons_mk (shut_string Try.underlying9 w0) trodAll_mk0), rfl, bel.frame _, fun h => by cases h⟩

theorem over : Rows.pairCountsRow.holds Try.pinned (OpenSpec.ofChange Rows.pairCountsSpec) :=
  OpenClaim.holds_of_wide 7 Try.f7 rfl rfl rfl rfl rfl rfl rfl ⟨rfl, rfl, rfl, rfl, rfl⟩ rfl rfl rfl rfl rfl (by kernel_rfl) Try.func7 (by kernel_rfl)
    (of_decide_eq_true (by kernel_rfl)) (by unfold Func.isWrapper; first | (rw [if_pos (by decide +kernel)]; kernel_rfl) | (rw [if_neg (by decide +kernel)]; exact ⟨rfl, rfl⟩))
    (fun os started H enc _ => lifted os started H enc)

theorem proved : Rows.PairCountsSaid := over
#print axioms proved
end Go.Proofs.Ytobagompnllmkaa.pairCounts
