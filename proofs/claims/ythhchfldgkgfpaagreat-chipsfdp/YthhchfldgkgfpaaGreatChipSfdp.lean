/-
  ChipSfdp: what a chip is like comes behind eight clocks of nothing, from the address on, over and over. No conditions.
-/
import Derived.Test.YthhchfldgkgfpaaGreatRows
import Derived.Test.YthhchfldgkgfpaaGreatAwake
import Derived.Test.YthhchfldgkgfpaaGreatTold
import Derived.Test.YthhchfldgkgfpaaGreatRefSfdp
import Derived.WalkKit
import Derived.ProofKit
import Derived.OpenShut
import Derived.ShutString
import Derived.ChangeOld
import Derived.Below
namespace Go.Proofs.YthhchfldgkgfpaaGreat.chipSfdp
open Go.Proofs.YthhchfldgkgfpaaGreat.Plain
open Go.ChangeShapes Go.WideShapes Go.ChangeAt Go.RowKit
open Go.ChangeMaps (open_string shut_string)
set_option linter.unusedVariables false

theorem own : ownKnob Tryz.prog.godebug = none := by kernel_rfl
theorem laidOut : laidOutB Tryz.prog = true := by kernel_rfl

set_option maxRecDepth 100000 in
set_option maxHeartbeats 2000000 in
theorem walk (a0 : Int) (a1 : Int) (w : World) (w0 : (Lit.int .i64 a0).wf = true) (w1 : (Lit.int .i64 a1).wf = true) :
    Calls Tryz.prog 5 #[.int .i64 a0, .int .i64 a1] w fun e w' => e = .returned (.bool true) ∧ Below w.heap.size w w' := by
  obtain ⟨k, hk, ek, -⟩ := mask_4095 a0
  have h255 : bits .and .i64 (k : Int) 255 = ((k % 256 : Nat) : Int) := by rw [and_255]; omega
  obtain ⟨K, hK, eK, -⟩ := mask_63 a1
  obtain ⟨m, hm⟩ : ∃ m, m = 1 + K := ⟨_, rfl⟩
  have e1 : wrap64 (1 + (K : Int)) = (m : Int) := by rw [IntWalk.wrap64_in _ (by omega)]; omega
  have hm0 : 0 < m := by omega
  have hm64 : m ≤ 64 := by omega
  have e8 : wrap64 (8 * (m : Int)) = ((8 * m : Nat) : Int) := by rw [IntWalk.wrap64_in _ (by omega)]; omega
  clear hm hK
  obtain ⟨T, HT⟩ : ∃ T, Hid (sfdpT = T) := ⟨_, rfl⟩
  have hTs : T.size = 32 := by rw [← HT.out]; rfl
  have hget := get_ub T
  have hlen : (wordL [90, 0, k / 256, k % 256] ++ List.replicate 8 15).length = 40 := by rw [List.length_append, List.length_replicate, wordL_length]; rfl
  go_enter Tryz.func5, Tryz.ntmps5
  go_wp2_with fail
  refine (awake_any _).mono ?_
  rintro e u1 ⟨rfl, b1⟩
  go_wp2_with fail
  refine (fresh_any 0 _ _ (one_ok 115)).mono ?_
  rintro e w2 ⟨b, rfl, hbb, hl, b2⟩
  have HR2 := rn_start hl
  have hwb : w.heap.size ≤ b := Nat.le_trans b1.size hbb
  have HB2 : Hid (Below w.heap.size w w2) := below_then b1 b2
  clear hl b1 b2 hbb
  go_wp2_with fail
  refine (refPut_any _).mono ?_
  rintro e w3 ⟨rfl, b3⟩
  rw [HT.out]
  replace HR2 := rn_below HR2 b3
  clear b3
  go_wp2_with fail
  refine (word_lit _ _ [90, 0, k / 256, k % 256] 4 (by simp [nums]) rfl (by decide) (by intro x hx; simp at hx; omega)).mono ?_
  rintro e w4 ⟨a4, c4, rfl, HO4, b4⟩
  go_wp2_with fail
  refine (quiet_on _ _ _ 8 40 _ HO4 b4.size (by simp [wordL_length]) (by simp [wordL_length]) (by decide) (by rw [wordL_length]; rfl)).mono ?_
  rintro e w5 ⟨a5, c5, rfl, HO5, b5⟩
  go_wp2_with fail
  refine (quiet_on _ _ _ (8 * m) (40 + 8 * m) _ HO5 (Nat.le_trans b4.size b5.size) (by rw [hlen]; decide) (by rw [hlen]; decide) (by omega) (by rw [hlen])).mono ?_
  rintro e w6 ⟨a6, c6, rfl, HO6, b6⟩
  go_wp2_with fail
  refine (say_run _ 0 0 b _ _ _ _ (40 + 8 * m) _ (rn_below (rn_below (rn_below HR2 b4) b5) b6) rfl HO6 (rn_lt HR2) (app_lt (app_lt (wordL_lt _) (rep_lt (by decide))) (rep_lt (by decide))) (by rw [List.length_append, hlen, List.length_replicate]; omega) (by decide) (by rw [List.length_append, hlen, List.length_replicate])).mono ?_
  rintro e w7 ⟨a7, c7, rfl, HO7, HR7, o7⟩
  rw [hears_sfdp (rest_new _) k hk m] at HO7
  have HB7 : Hid (Below w.heap.size w w7) := HB2.out.trans (rn_old HR7 hwb HB2.out.size)
  clear HO4 HO5 HO6 HB2 HR2 HR7 b4 b5 b6 o7
  go_wp2_with fail
  refine (bytesOf_at _ _ _ 40 m _ HO7 (told_length 40 m _) (by omega) (told_lt 40 m _) hm0).mono ?_
  rintro e w8 ⟨g8, c8, rfl, HO8, b8⟩
  rw [told_back 40 m _ (fun i _ => ub_lt _ _)] at HO8
  have HC : Hid (∀ i, i < m → w8.cell? ⟨g8, i, none⟩ = some (.int .i64 ((ub T ((k + i) % 32)).toNat : Int))) := fun i hi => by rw [HO8.out i hi, getD_range m i _ hi, HT.out]
  have HB8 : Hid (Below w.heap.size w w8) := below_then HB7.out b8.out
  clear HO7 HO8 b8 HB7 HT
  go_wp2_with fail
  go_loopw [11] (fun i wr => ∃ j : Nat, j ≤ m ∧ i = .int .i64 j ∧ Hid (Below w8.heap.size w8 wr)) (fun i _ => (m - intOf i).toNat)
  case atStart => exact ⟨0, by omega, rfl, Below.refl _ _⟩
  case round =>
    obtain ⟨j, hj, rfl, HW⟩ := hrel
    by_cases hlt : j < m
    · have c0 := HC.out j hlt
      obtain ⟨q, Hq⟩ : ∃ q, Hid ((k + j) % 32 = q) := ⟨_, rfl⟩
      have hq : q < 32 := by have := Hq.out; omega
      rw [Hq.out] at c0
      have ck : wr.cell? ⟨g8, j, none⟩ = some (.int .i64 ((ub T q).toNat : Int)) := by rw [HW.out.cell (cell_lt c0)]; exact c0
      have hr : ((k : Int) + (j : Int)).tmod 32 = (q : Int) := by rw [← Hq.out]; rfl
      have hwr := wrap_ub T q
      clear c0
      go_wp2
      go_region
      all_goals go_wp2
      all_goals go_roundw
      case rel => exact ⟨j + 1, by omega, by go_num, HW.out.drew⟩
      case measure => simp [intOf]; omega
    · go_wp2
      go_ret
      exact ⟨rfl, below_then HB8.out HW.out⟩

set_option maxRecDepth 100000 in
theorem lifted (os : Os) (started : os.Started) (H : Type) (enc : TypeId × Value → H) :
    ReturnsInHanded {} Tryz.checked os 5 .any (Rows.chipSfdpSpec.pre6 enc Tryz.prog Tryz.f5 Rows.chipSfdpRow.domain false) (Rows.chipSfdpSpec.post enc Tryz.prog Tryz.f5 false true false false) := by
  refine returnsInHanded_of_change (C := Tryz.checked) own started (by kernel_rfl) Tryz.func5
    (ChangeSpec.witness6 (enc := enc) (C := Tryz.checked) false ⟨#[], #[.int .i64 0, .int .i64 0], []⟩ 8 (by kernel_rfl) (by kernel_rfl) (by kernel_rfl) (by kernel_rfl)) ?_
  intro W base args ds gs before hval0 hW hcnd _
  have hval : ∀ (j : Nat) t v, Tryz.f5.params[j]? = some t → args[j]? = some v → Value.okWide Tryz.prog W .any base t v := hval0
  have hW' := hW
  obtain ⟨p, q, hA0, hV, rfl, hfz, hnd⟩ := hW
  have hA : DataW.TrodAll enc Tryz.prog W 0 (fun _ => true) true Tryz.f5.params.toList args.toList ds p := hA0
  rw [Tryz.params5] at hA hval
  obtain ⟨v0, vs0, d0, ds0, p0, q0, hargs, rfl, rfl, h0, r0⟩ := trodAll_cons hA
  obtain ⟨v1, vs1, d1, ds1, p1, q1, rfl, rfl, rfl, h1, r1⟩ := trodAll_cons r0
  obtain ⟨rfl, rfl, rfl⟩ := trodAll_nil r1
  obtain rfl : args = #[v0, v1] := by cases args; simp_all
  obtain ⟨rfl, rfl⟩ := trodVars_none hV
  obtain ⟨a0, rfl, rfl, rfl, w0⟩ := open_int Tryz.underlying3 (hval 0 3 v0 rfl rfl) h0
  obtain ⟨a1, rfl, rfl, rfl, w1⟩ := open_int Tryz.underlying3 (hval 1 3 v1 rfl rfl) h1
  clear hA0 hval0
  refine (walk a0 a1 W w0 w1).mono fun e W' ⟨he, bel⟩ => ?_
  subst he
  exact ⟨_, rfl, _, _, _, [], _, [], hW', trodAll_mk1 (shut_bool Tryz.underlying4 _), (trodAll_cons_mk (shut_int Tryz.underlying3 w0) (trodAll_cons_mk (shut_int Tryz.underlying3 w1) trodAll_mk0)), rfl, bel.frame _, fun h => by cases h⟩

theorem over : Rows.chipSfdpRow.holds Tryz.pinned (OpenSpec.ofChange Rows.chipSfdpSpec) :=
  OpenClaim.holds_of_wide 5 Tryz.f5 rfl rfl rfl rfl rfl rfl rfl ⟨rfl, rfl, rfl, rfl, rfl⟩ rfl rfl rfl rfl rfl (by kernel_rfl) Tryz.func5 (by kernel_rfl)
    (of_decide_eq_true (by kernel_rfl)) (by unfold Func.isWrapper; first | (rw [if_pos (by decide +kernel)]; kernel_rfl) | (rw [if_neg (by decide +kernel)]; exact ⟨rfl, rfl⟩))
    (fun os started H enc _ => lifted os started H enc)

theorem proved : Rows.ChipSfdpSaid := over
#print axioms proved
end Go.Proofs.YthhchfldgkgfpaaGreat.chipSfdp
