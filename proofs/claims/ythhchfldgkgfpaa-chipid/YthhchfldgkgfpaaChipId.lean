/-
  ChipId: a chip tells its three bytes over and over. No conditions.
-/
import Derived.Test.YthhchfldgkgfpaaRows
import Derived.Test.YthhchfldgkgfpaaAwake
import Derived.Test.YthhchfldgkgfpaaTold
import Derived.WalkKit
import Derived.ProofKit
import Derived.OpenShut
import Derived.ShutString
import Derived.ChangeOld
import Derived.Below
namespace Go.Proofs.Ythhchfldgkgfpaa.chipId
open Go.Proofs.Ythhchfldgkgfpaa.Plain
open Go.ChangeShapes Go.WideShapes Go.ChangeAt Go.RowKit
open Go.ChangeMaps (open_string shut_string)
set_option linter.unusedVariables false

theorem own : ownKnob Try.prog.godebug = none := by kernel_rfl
theorem laidOut : laidOutB Try.prog = true := by kernel_rfl

set_option maxRecDepth 100000 in
set_option maxHeartbeats 2000000 in
theorem walk (a0 : ByteArray) (a1 : Int) (w : World) (w0 : a0.size ≤ maxLen) (w1 : (Lit.int .i64 a1).wf = true) :
    Calls Try.prog 8 #[.string a0, .int .i64 a1] w fun e w' => e = .returned (.bool true) ∧ Below w.heap.size w w' := by
  obtain ⟨K, hK, eK, -⟩ := mask_15 a1
  obtain ⟨m, hm⟩ : ∃ m, m = 1 + K := ⟨_, rfl⟩
  have e1 : wrap64 (1 + (K : Int)) = (m : Int) := by rw [IntWalk.wrap64_in _ (by omega)]; omega
  have hm0 : 0 < m := by omega
  have hm16 : m ≤ 16 := by omega
  have e8 : wrap64 (8 * (m : Int)) = ((8 * m : Nat) : Int) := by rw [IntWalk.wrap64_in _ (by omega)]; omega
  clear hm hK
  go_enter Try.func8, Try.ntmps8
  go_wp2_with fail
  refine (awake_any _).mono ?_
  rintro e u1 ⟨rfl, b1⟩
  go_wp2_with fail
  refine (fresh_any 0 _ _ w0).mono ?_
  rintro e w2 ⟨b, rfl, hbb, hl, b2⟩
  have HR2 := rn_start hl
  have hwb : w.heap.size ≤ b := Nat.le_trans b1.size hbb
  have HB2 : Hid (Below w.heap.size w w2) := below_then b1 b2
  clear hl b1 b2 hbb
  go_wp2_with fail
  refine (word_lit _ _ [159] 1 rfl rfl (by decide) (by decide)).mono ?_
  rintro e w3 ⟨a3, c3, rfl, HO3, b3⟩
  go_wp2_with fail
  refine (quiet_on _ _ _ (8 * m) (8 + 8 * m) _ HO3 b3.size (by decide) (by decide) (by omega) rfl).mono ?_
  rintro e w4 ⟨a4, c4, rfl, HO4, b4⟩
  go_wp2_with fail
  refine (say_run _ 0 0 b _ _ _ _ (8 + 8 * m) _ (rn_below (rn_below HR2 b3) b4) rfl HO4 (rn_lt HR2) (app_lt (wordL_lt _) (rep_lt (by decide))) (by rw [List.length_append, List.length_replicate, wordL_length]; show 8 * 1 + 8 * m ≤ 40000; omega) (by decide) (by rw [List.length_append, List.length_replicate, wordL_length]; rfl)).mono ?_
  rintro e w5 ⟨a5, c5, rfl, HO5, HR5, o5⟩
  rw [hears_id (rest_new (wide a0)) m] at HO5
  have HB5 : Hid (Below w.heap.size w w5) := HB2.out.trans (rn_old HR5 hwb HB2.out.size)
  clear HO3 HO4 HB2 HR2 HR5 b3 b4 o5
  go_wp2_with fail
  refine (bytesOf_at _ _ _ 8 m _ HO5 (told_length 8 m _) (by omega) (told_lt 8 m _) hm0).mono ?_
  rintro e w6 ⟨g6, c6, rfl, HO6, b6⟩
  rw [told_back 8 m _ (fun i _ => ub_lt idT (i % 3))] at HO6
  have HC : Hid (∀ i, i < m → w6.cell? ⟨g6, i, none⟩ = some (.int .i64 ((ub idT (i % 3)).toNat : Int))) := fun i hi => by rw [HO6.out i hi, getD_range m i _ hi]
  have HB6 : Hid (Below w.heap.size w w6) := below_then HB5.out b6.out
  clear HO6 HO5 b6 HB5
  go_wp2_with fail
  go_loopw [8] (fun i wr => ∃ k : Nat, k ≤ m ∧ i = .int .i64 k ∧ Hid (Below w6.heap.size w6 wr)) (fun i _ => (m - intOf i).toNat)
  case atStart => exact ⟨0, by omega, rfl, Below.refl _ _⟩
  case round =>
    obtain ⟨k, hk, rfl, HW⟩ := hrel
    have hsz := HW.out.size
    by_cases hlt : k < m
    · have c0 := HC.out k hlt
      have ck : wr.cell? ⟨g6, k, none⟩ = some (.int .i64 ((ub idT (k % 3)).toNat : Int)) := by rw [HW.out.cell (cell_lt c0)]; exact c0
      have hg6 : g6 < wr.heap.size := cell_lt ck
      clear c0
      rcases (by omega : k % 3 = 0 ∨ k % 3 = 1 ∨ k % 3 = 2) with h3 | h3 | h3
      all_goals (
        rw [h3] at ck
        have hr : (k : Int).tmod 3 = ((k % 3 : Nat) : Int) := rfl
        rw [h3] at hr
        go_wp2
        go_region
        all_goals go_wp2
        all_goals go_roundw
        case rel => exact ⟨k + 1, by omega, by go_num, ((HW.out.alloc hsz _).drew)⟩
        case measure => simp [intOf]; omega)
    · go_wp2
      go_ret
      exact ⟨rfl, below_then HB6.out HW.out⟩

set_option maxRecDepth 100000 in
theorem lifted (os : Os) (started : os.Started) (H : Type) (enc : TypeId × Value → H) :
    ReturnsInHanded {} Try.checked os 8 .any (Rows.chipIdSpec.pre6 enc Try.prog Try.f8 Rows.chipIdRow.domain false) (Rows.chipIdSpec.post enc Try.prog Try.f8 false true false false) := by
  refine returnsInHanded_of_change (C := Try.checked) own started (by kernel_rfl) Try.func8
    (ChangeSpec.witness6 (enc := enc) (C := Try.checked) false ⟨#[], #[.string ByteArray.empty, .int .i64 0], []⟩ 8 (by kernel_rfl) (by kernel_rfl) (by kernel_rfl) (by kernel_rfl)) ?_
  intro W base args ds gs before hval0 hW hcnd _
  have hval : ∀ (j : Nat) t v, Try.f8.params[j]? = some t → args[j]? = some v → Value.okWide Try.prog W .any base t v := hval0
  have hW' := hW
  obtain ⟨p, q, hA0, hV, rfl, hfz, hnd⟩ := hW
  have hA : DataW.TrodAll enc Try.prog W 0 (fun _ => true) true Try.f8.params.toList args.toList ds p := hA0
  rw [Try.params8] at hA hval
  obtain ⟨v0, vs0, d0, ds0, p0, q0, hargs, rfl, rfl, h0, r0⟩ := trodAll_cons hA
  obtain ⟨v1, vs1, d1, ds1, p1, q1, rfl, rfl, rfl, h1, r1⟩ := trodAll_cons r0
  obtain ⟨rfl, rfl, rfl⟩ := trodAll_nil r1
  obtain rfl : args = #[v0, v1] := by cases args; simp_all
  obtain ⟨rfl, rfl⟩ := trodVars_none hV
  obtain ⟨a0, rfl, rfl, rfl, w0⟩ := open_string Try.underlying9 (hval 0 9 v0 rfl rfl) h0
  obtain ⟨a1, rfl, rfl, rfl, w1⟩ := open_int Try.underlying3 (hval 1 3 v1 rfl rfl) h1
  clear hA0 hval0
  refine (walk a0 a1 W w0 w1).mono fun e W' ⟨he, bel⟩ => ?_
  subst he
  exact ⟨_, rfl, _, _, _, [], _, [], hW', trodAll_mk1 (shut_bool Try.underlying4 _), (trodAll_cons_mk (shut_string Try.underlying9 w0) (trodAll_cons_mk (shut_int Try.underlying3 w1) trodAll_mk0)), rfl, bel.frame _, fun h => by cases h⟩

theorem over : Rows.chipIdRow.holds Try.pinned (OpenSpec.ofChange Rows.chipIdSpec) :=
  OpenClaim.holds_of_wide 8 Try.f8 rfl rfl rfl rfl rfl rfl rfl ⟨rfl, rfl, rfl, rfl, rfl⟩ rfl rfl rfl rfl rfl (by kernel_rfl) Try.func8 (by kernel_rfl)
    (of_decide_eq_true (by kernel_rfl)) (by unfold Func.isWrapper; first | (rw [if_pos (by decide +kernel)]; kernel_rfl) | (rw [if_neg (by decide +kernel)]; exact ⟨rfl, rfl⟩))
    (fun os started H enc _ => lifted os started H enc)

theorem proved : Rows.ChipIdSaid := over
#print axioms proved
end Go.Proofs.Ythhchfldgkgfpaa.chipId
