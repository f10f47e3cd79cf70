/-
  OpAll: the commands rise, each is told as one with parts that a command may have, and no other number from 0 to 255 is told as one. No conditions.
-/
import Derived.Test.YtoefbeblelnkmaaRows
import Derived.Test.YtoefbeblelnkmaaTurns
import Derived.WalkKit
import Derived.ProofKit
import Derived.OpenShut
import Derived.ShutString
import Derived.ChangeOld
import Derived.Below
namespace Go.Proofs.Ytoefbeblelnkmaa.opAll
open Go.ChangeShapes Go.WideShapes Go.ChangeAt Go.RowKit
open Go.ChangeMaps (open_string shut_string)
set_option linter.unusedVariables false

theorem own : ownKnob Try.prog.godebug = none := by kernel_rfl
theorem laidOut : laidOutB Try.prog = true := by kernel_rfl

set_option maxRecDepth 100000 in
set_option maxHeartbeats 2000000 in
theorem walk  (w : World)  :
    Calls Try.prog 4 #[] w fun e w' => e = .returned (.bool true) ∧ Below w.heap.size w w' := by
  go_enter Try.func4, Try.ntmps4
  go_wp2_with fail
  refine (awake_any _).mono ?_
  rintro e w1 ⟨rfl, b1⟩
  go_wp2_with fail
  refine (all_any _).mono ?_
  rintro e w2 ⟨g, cap, rfl, o2, b2⟩
  have R : Hid (Reads w2 (.slice (some ⟨g, 0, none⟩) 14 cap) opL) := o2.reads
  have bel : Hid (Below w.heap.size w w2) := below_then b1 b2
  clear o2 b1 b2
  go_wp2
  go_loopw [2, 3] (fun c i wr => ∃ k n : Nat, k ≤ 256 ∧ n ≤ 14 ∧ i = .int .i64 k ∧ c = .int .i64 n ∧ Hid (n = (opsTo k).length) ∧ Hid (Reads wr (.slice (some ⟨g, 0, none⟩) 14 cap) opL) ∧ Hid (Below w.heap.size w wr)) (fun _ i _ => (256 - intOf i).toNat)
  case atStart => exact ⟨0, 0, by omega, by omega, rfl, rfl, by simp [Hid, opsTo], R, bel⟩
  case round =>
    clear R bel
    obtain ⟨k, n, hk, hn, rfl, rfl, HN, R, bel⟩ := hrel
    by_cases hlt : k < 256
    · by_cases hop : isOp (k : Int) = true
      · obtain ⟨h14, hat⟩ := at_yes k hlt hop
        rw [← HN.out] at h14 hat
        have hp := parts (k : Int) hop
        have HT : Hid (n + 1 = (opsTo (k + 1)).length) := by rw [Hid, opsTo_yes hop, List.length_append, ← HN.out]; rfl
        obtain ⟨xA, hA⟩ : ∃ x, opA (k : Int) = x := ⟨_, rfl⟩
        obtain ⟨xM, hM⟩ : ∃ x, opM (k : Int) = x := ⟨_, rfl⟩
        obtain ⟨xD, hD⟩ : ∃ x, opD (k : Int) = x := ⟨_, rfl⟩
        obtain ⟨xN, hN⟩ : ∃ x, opN (k : Int) = x := ⟨_, rfl⟩
        obtain ⟨xI, hI⟩ : ∃ x, opI (k : Int) = x := ⟨_, rfl⟩
        have h6 : Hid (∀ v, Calls Try.prog 6 #[.int .i64 (k : Int)] v fun e v' => e = .returned (.tuple #[.agg #[.int .i64 (k : Int), .int .i64 xA, .bool xM, .int .i64 xD, .int .i64 xN, .bool xI], .int .i64 0]) ∧ Below v.heap.size v v') := fun v => by
          have h := of_yes (k : Int) v hop
          rwa [hA, hM, hD, hN, hI] at h
        rw [hA, hM, hN, hI] at hp
        clear hA hM hD hN hI HN hop
        have i1 : (0 : Int) ≤ (n : Int) := by omega
        have i2 : (n : Int) < 14 := by omega
        have HAT : Hid (opL.getD n 0 = (k : Int)) := hat
        clear hat
        go_wp2_with fail
        refine (h6.out _).mono ?_
        rintro e w3 ⟨rfl, b3⟩
        obtain ⟨c0, c1, c2, c3, c4, c5⟩ := Six.new w3 (.int .i64 (k : Int)) (.int .i64 xA) (.bool xM) (.int .i64 xD) (.int .i64 xN) (.bool xI)
        have R2 : Hid (Reads (w3.alloc (.cells #[.int .i64 (k : Int), .int .i64 xA, .bool xM, .int .i64 xD, .int .i64 xN, .bool xI] 23)) (.slice (some ⟨g, 0, none⟩) 14 cap) opL) := (R.out.below b3).below (below_new _ _)
        have bel2 : Hid (Below w.heap.size w (w3.alloc (.cells #[.int .i64 (k : Int), .int .i64 xA, .bool xM, .int .i64 xD, .int .i64 xN, .bool xI] 23))) := below_then (below_then bel.out b3) (below_new _ _)
        have cx : (w3.alloc (.cells #[.int .i64 (k : Int), .int .i64 xA, .bool xM, .int .i64 xD, .int .i64 xN, .bool xI] 23)).cell? ⟨g, n, none⟩ = some (.int .i64 (k : Int)) := by
          have h := reads_cell R2.out n h14
          rwa [HAT.out] at h
        clear R bel b3 HAT h6
        rcases hp with ⟨rfl, rfl, rfl, rfl⟩ | ⟨rfl, rfl, rfl, rfl⟩ | ⟨rfl, rfl, rfl, rfl⟩ | ⟨rfl, rfl, rfl, rfl⟩ | ⟨rfl, rfl, rfl, rfl⟩ | ⟨rfl, rfl, rfl, rfl⟩ | ⟨rfl, rfl, rfl, rfl⟩ | ⟨rfl, rfl, rfl, rfl⟩
        all_goals
          go_wp2_with (go_at_call 9; refine (num_any _ _).mono ?_; rintro e w' ⟨rfl, rfl⟩)
          go_roundw
          case rel => exact ⟨k + 1, n + 1, by omega, by omega, by go_num, by go_num, HT, R2, bel2⟩
          case measure => simp [intOf]; omega
      · have hno : isOp (k : Int) = false := by simpa using hop
        have HT : Hid (n = (opsTo (k + 1)).length) := by rw [Hid, opsTo_no hno]; exact HN.out
        have hat := at_no k hlt hno
        rw [← HN.out] at hat
        have h6 : Hid (isOp (k : Int) = false) := hno
        have i1 : (0 : Int) ≤ (n : Int) := by omega
        clear hop hno HN
        rcases hat with rfl | ⟨h14, hat⟩
        · go_wp2_with fail
          refine (of_no (k : Int) _ h6.out).mono ?_
          rintro e w3 ⟨rfl, b3⟩
          have R2 : Hid (Reads (w3.alloc (.cells #[.int .i64 0, .int .i64 0, .bool false, .int .i64 0, .int .i64 0, .bool false] 23)) (.slice (some ⟨g, 0, none⟩) 14 cap) opL) := (R.out.below b3).below (below_new _ _)
          have bel2 : Hid (Below w.heap.size w (w3.alloc (.cells #[.int .i64 0, .int .i64 0, .bool false, .int .i64 0, .int .i64 0, .bool false] 23))) := below_then (below_then bel.out b3) (below_new _ _)
          clear R bel b3 h6
          go_wp2_with (go_at_call 9; refine (num_any _ _).mono ?_; rintro e w' ⟨rfl, rfl⟩)
          go_roundw
          case rel => exact ⟨k + 1, 14, by omega, by omega, by go_num, by go_num, HT, R2, bel2⟩
          case measure => simp [intOf]; omega
        · have i2 : (n : Int) < 14 := by omega
          obtain ⟨y, hy⟩ : ∃ y, opL.getD n 0 = y := ⟨_, rfl⟩
          rw [hy] at hat
          have HY : Hid (opL.getD n 0 = y) := hy
          clear hy
          go_wp2_with fail
          refine (of_no (k : Int) _ h6.out).mono ?_
          rintro e w3 ⟨rfl, b3⟩
          have R2 : Hid (Reads (w3.alloc (.cells #[.int .i64 0, .int .i64 0, .bool false, .int .i64 0, .int .i64 0, .bool false] 23)) (.slice (some ⟨g, 0, none⟩) 14 cap) opL) := (R.out.below b3).below (below_new _ _)
          have bel2 : Hid (Below w.heap.size w (w3.alloc (.cells #[.int .i64 0, .int .i64 0, .bool false, .int .i64 0, .int .i64 0, .bool false] 23))) := below_then (below_then bel.out b3) (below_new _ _)
          have cx : (w3.alloc (.cells #[.int .i64 0, .int .i64 0, .bool false, .int .i64 0, .int .i64 0, .bool false] 23)).cell? ⟨g, n, none⟩ = some (.int .i64 y) := by
            have h := reads_cell R2.out n h14
            rwa [HY.out] at h
          have e1 : (y == (k : Int)) = false := by simpa using hat
          clear R bel b3 HY h6
          go_wp2_with (go_at_call 9; refine (num_any _ _).mono ?_; rintro e w' ⟨rfl, rfl⟩)
          go_roundw
          case rel => exact ⟨k + 1, n, by omega, by omega, by go_num, by go_num, HT, R2, bel2⟩
          case measure => simp [intOf]; omega
    · obtain rfl : n = 14 := by rw [HN.out, show k = 256 by omega, opsTo_all]; rfl
      clear R HN
      go_wp2
      go_ret
      exact ⟨rfl, bel.out⟩

set_option maxRecDepth 100000 in
theorem lifted (os : Os) (started : os.Started) (H : Type) (enc : TypeId × Value → H) :
    ReturnsInHanded {} Try.checked os 4 .any (Rows.opAllSpec.pre6 enc Try.prog Try.f4 Rows.opAllRow.domain false) (Rows.opAllSpec.post enc Try.prog Try.f4 false true false false) := by
  refine returnsInHanded_of_change (C := Try.checked) own started (by kernel_rfl) Try.func4
    (ChangeSpec.witness6 (enc := enc) (C := Try.checked) false ⟨#[], #[], []⟩ 8 (by kernel_rfl) (by kernel_rfl) (by kernel_rfl) (by kernel_rfl)) ?_
  intro W base args ds gs before hval0 hW hcnd _
  have hval : ∀ (j : Nat) t v, Try.f4.params[j]? = some t → args[j]? = some v → Value.okWide Try.prog W .any base t v := hval0
  have hW' := hW
  obtain ⟨p, q, hA0, hV, rfl, hfz, hnd⟩ := hW
  have hA : DataW.TrodAll enc Try.prog W 0 (fun _ => true) true Try.f4.params.toList args.toList ds p := hA0
  rw [Try.params4] at hA hval
  obtain ⟨hargs, rfl, rfl⟩ := trodAll_nil hA
  obtain rfl : args = #[] := by cases args; simp_all
  obtain ⟨rfl, rfl⟩ := trodVars_none hV
  clear hA0 hval0
  refine (walk  W ).mono fun e W' ⟨he, bel⟩ => ?_
  subst he
  exact ⟨_, rfl, _, _, _, [], _, [], hW', trodAll_mk1 (shut_bool Try.underlying4 _), trodAll_mk0, rfl, bel.frame _, fun h => by cases h⟩

theorem over : Rows.opAllRow.holds Try.pinned (OpenSpec.ofChange Rows.opAllSpec) :=
  OpenClaim.holds_of_wide 4 Try.f4 rfl rfl rfl rfl rfl rfl rfl ⟨rfl, rfl, rfl, rfl, rfl⟩ rfl rfl rfl rfl rfl (by kernel_rfl) Try.func4 (by kernel_rfl)
    (of_decide_eq_true (by kernel_rfl)) (by unfold Func.isWrapper; first | (rw [if_pos (by decide +kernel)]; kernel_rfl) | (rw [if_neg (by decide +kernel)]; exact ⟨rfl, rfl⟩))
    (fun os started H enc _ => lifted os started H enc)

theorem proved : Rows.OpAllSaid := over
#print axioms proved
end Go.Proofs.Ytoefbeblelnkmaa.opAll
