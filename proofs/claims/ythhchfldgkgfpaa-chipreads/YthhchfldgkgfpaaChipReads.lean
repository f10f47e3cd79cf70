/-
  ChipReads: a read on one lane tells the cells from the address on, over and over. No conditions.
-/
import Derived.Test.YthhchfldgkgfpaaRows
import Derived.Test.YthhchfldgkgfpaaAwake
import Derived.Test.YthhchfldgkgfpaaTold
import Derived.WalkKit
import Derived.ProofKit
import Derived.OpenShut
import Derived.ShutString
import Derived.ChangeOld
import Derived.Below
namespace Go.Proofs.Ythhchfldgkgfpaa.chipReads
open Go.Proofs.Ythhchfldgkgfpaa.Plain
open Go.ChangeShapes Go.WideShapes Go.ChangeAt Go.RowKit
open Go.ChangeMaps (open_string shut_string)
set_option linter.unusedVariables false

theorem own : ownKnob Try.prog.godebug = none := by kernel_rfl
theorem laidOut : laidOutB Try.prog = true := by kernel_rfl

set_option maxRecDepth 100000 in
set_option maxHeartbeats 2000000 in
theorem walk (a0 : ByteArray) (a1 : Int) (a2 : Int) (w : World) (w0 : a0.size ≤ maxLen) (w1 : (Lit.int .i64 a1).wf = true) (w2 : (Lit.int .i64 a2).wf = true) :
    Calls Try.prog 3 #[.string a0, .int .i64 a1, .int .i64 a2] w fun e w' => e = .returned (.bool true) ∧ Below w.heap.size w w' := by
  obtain ⟨K, hK, eK, -⟩ := mask_31 a2
  obtain ⟨m, hm⟩ : ∃ m, m = 1 + K := ⟨_, rfl⟩
  have e1 : wrap64 (1 + (K : Int)) = (m : Int) := by rw [IntWalk.wrap64_in _ (by omega)]; omega
  have hm0 : 0 < m := by omega
  have hm32 : m ≤ 32 := by omega
  have e8 : wrap64 (8 * (m : Int)) = ((8 * m : Nat) : Int) := by rw [IntWalk.wrap64_in _ (by omega)]; omega
  obtain ⟨k, hk, ek⟩ := umod a1 4096 (by omega) (by omega)
  have ek : wrap64 ((IntKind.u64.wrap a1).tmod 4096) = (k : Int) := ek
  have h255 : bits .and .i64 (k : Int) 255 = ((k % 256 : Nat) : Int) := by rw [and_255]; omega
  obtain ⟨A, HA⟩ : ∃ A, Hid (wide a0 = A) := ⟨_, rfl⟩
  have hA : A.size = 4096 := by rw [← HA.out]; exact wide_size a0
  have hget := get_ub A
  clear hm hK
  go_enter Try.func3, Try.ntmps3
  go_wp2_with fail
  refine (awake_any _).mono ?_
  rintro e u1 ⟨rfl, b1⟩
  go_wp2_with fail
  refine (fresh_any 0 _ _ w0).mono ?_
  rintro e w2 ⟨b, rfl, hbb, hl, b2⟩
  rw [HA.out] at hl
  have HR2 := rn_start hl
  have hwb : w.heap.size ≤ b := Nat.le_trans b1.size hbb
  have HB2 : Hid (Below w.heap.size w w2) := below_then b1 b2
  clear hl b1 b2 hbb
  go_wp2_with fail
  refine (cells_run 0 b _ _ _ A HR2 rfl).mono ?_
  rintro e w' ⟨rfl, rfl⟩
  go_wp2_with fail
  refine (word_lit _ _ [3, 0, k / 256, k % 256] 4 (by simp [nums]) rfl (by decide) (by intro x hx; simp at hx; omega)).mono ?_
  rintro e w3 ⟨a3, c3, rfl, HO3, b3⟩
  go_wp2_with fail
  refine (quiet_on _ _ _ (8 * m) (32 + 8 * m) _ HO3 b3.size (by simp [wordL_length]) (by simp [wordL_length]) (by omega) (by rw [wordL_length]; rfl)).mono ?_
  rintro e w4 ⟨a4, c4, rfl, HO4, b4⟩
  have hb4 : b < w4.heap.size := rn_lt (rn_below (rn_below HR2 b3) b4)
  go_wp2_with fail
  refine (say_run _ 0 0 b _ _ _ _ (32 + 8 * m) _ (rn_below (rn_below HR2 b3) b4) rfl HO4 (rn_lt HR2) (app_lt (wordL_lt _) (rep_lt (by decide))) (by rw [List.length_append, List.length_replicate, wordL_length]; show 8 * 4 + 8 * m ≤ 40000; omega) (by decide) (by rw [List.length_append, List.length_replicate, wordL_length]; rfl)).mono ?_
  rintro e w5 ⟨a5, c5, rfl, HO5, HR5, o5⟩
  rw [hears_read (rest_new A) k hk m] at HO5
  have HB5 : Hid (Below w.heap.size w w5) := HB2.out.trans (rn_old HR5 hwb HB2.out.size)
  clear HO3 HO4 HB2 HR2 HR5 b3 b4 o5
  go_wp2_with fail
  refine (bytesOf_at _ _ _ 32 m _ HO5 (told_length 32 m _) (by omega) (told_lt 32 m _) hm0).mono ?_
  rintro e w6 ⟨g6, c6, rfl, HO6, b6⟩
  rw [told_back 32 m _ (fun i _ => ub_lt _ _)] at HO6
  have HC : Hid (∀ i, i < m → w6.cell? ⟨g6, i, none⟩ = some (.int .i64 ((ub A ((k + i) % 4096)).toNat : Int))) := fun i hi => by
    rw [HO6.out i hi, getD_range m i _ hi]
    show some (Value.int .i64 ((ub A ((k + i) % A.size)).toNat : Int)) = _
    rw [hA]
  obtain ⟨g5, rfl, hc5⟩ := owns_some HO5 (by rw [nums_length, told_length]) (by omega)
  have HX : Hid (∀ i, i < 32 → w6.cell? ⟨g5, i, none⟩ = some (.int .i64 15)) := fun i hi => by
    rw [owns_cell (owns_below HO5 b6.out) i (by rw [told_length]; omega), List.getD_eq_getElem?_getD, List.getElem?_append_left (by rw [List.length_replicate]; exact hi), List.getElem?_replicate]
    rw [if_pos hi]; rfl
  have HB6 : Hid (Below w.heap.size w w6) := below_then HB5.out b6.out
  clear HO6 HO5 b6 HB5 HA
  go_wp2_with fail
  go_loopw [13] (fun i wr => ∃ j : Nat, j ≤ m ∧ i = .int .i64 j ∧ Hid (Below w6.heap.size w6 wr)) (fun i _ => (m - intOf i).toNat)
  case atStart => exact ⟨0, by omega, rfl, Below.refl _ _⟩
  case round =>
    obtain ⟨j, hj, rfl, HW⟩ := hrel
    have hsz := HW.out.size
    by_cases hlt : j < m
    · have c0 := HC.out j hlt
      obtain ⟨q, Hq⟩ : ∃ q, Hid ((k + j) % 4096 = q) := ⟨_, rfl⟩
      have hq : q < 4096 := by have := Hq.out; omega
      rw [Hq.out] at c0
      have ck : wr.cell? ⟨g6, j, none⟩ = some (.int .i64 ((ub A q).toNat : Int)) := by rw [HW.out.cell (cell_lt c0)]; exact c0
      have hr : ((k : Int) + (j : Int)).tmod 4096 = (q : Int) := by rw [← Hq.out]; rfl
      have hwr := wrap_ub A q
      have hne : (((ub A q).toNat : Int) != ((ub A q).toNat : Int)) = false := by simp
      clear c0
      go_wp2
      go_region
      all_goals go_wp2
      all_goals go_roundw
      case rel => exact ⟨j + 1, by omega, by go_num, HW.out.drew⟩
      case measure => simp [intOf]; omega
    · go_wp2
      go_loopw [14] (fun i wr => ∃ j : Nat, j ≤ 32 ∧ i = .int .i64 j ∧ Hid (Below w6.heap.size w6 wr)) (fun i _ => (32 - intOf i).toNat)
      case atStart => exact ⟨0, by omega, rfl, HW⟩
      case round =>
        obtain ⟨j, hj, rfl, HW⟩ := hrel
        by_cases hlt : j < 32
        · have c0 := HX.out j hlt
          have ck : wr.cell? ⟨g5, j, none⟩ = some (.int .i64 15) := by rw [HW.out.cell (cell_lt c0)]; exact c0
          have hj2 : j < 32 + 8 * m := by omega
          clear c0
          go_wp2
          go_roundw
          case rel => exact ⟨j + 1, by omega, by go_num, by first | exact HW | exact HW.out.drew⟩
          case measure => simp [intOf]; omega
        · go_wp2
          go_ret
          exact ⟨rfl, below_then HB6.out HW.out⟩

set_option maxRecDepth 100000 in
theorem lifted (os : Os) (started : os.Started) (H : Type) (enc : TypeId × Value → H) :
    ReturnsInHanded {} Try.checked os 3 .any (Rows.chipReadsSpec.pre6 enc Try.prog Try.f3 Rows.chipReadsRow.domain false) (Rows.chipReadsSpec.post enc Try.prog Try.f3 false true false false) := by
  refine returnsInHanded_of_change (C := Try.checked) own started (by kernel_rfl) Try.func3
    (ChangeSpec.witness6 (enc := enc) (C := Try.checked) false ⟨#[], #[.string ByteArray.empty, .int .i64 0, .int .i64 0], []⟩ 8 (by kernel_rfl) (by kernel_rfl) (by kernel_rfl) (by kernel_rfl)) ?_
  intro W base args ds gs before hval0 hW hcnd _
  have hval : ∀ (j : Nat) t v, Try.f3.params[j]? = some t → args[j]? = some v → Value.okWide Try.prog W .any base t v := hval0
  have hW' := hW
  obtain ⟨p, q, hA0, hV, rfl, hfz, hnd⟩ := hW
  have hA : DataW.TrodAll enc Try.prog W 0 (fun _ => true) true Try.f3.params.toList args.toList ds p := hA0
  rw [Try.params3] at hA hval
  obtain ⟨v0, vs0, d0, ds0, p0, q0, hargs, rfl, rfl, h0, r0⟩ := trodAll_cons hA
  obtain ⟨v1, vs1, d1, ds1, p1, q1, rfl, rfl, rfl, h1, r1⟩ := trodAll_cons r0
  obtain ⟨v2, vs2, d2, ds2, p2, q2, rfl, rfl, rfl, h2, r2⟩ := trodAll_cons r1
  obtain ⟨rfl, rfl, rfl⟩ := trodAll_nil r2
  obtain rfl : args = #[v0, v1, v2] := by cases args; simp_all
  obtain ⟨rfl, rfl⟩ := trodVars_none hV
  obtain ⟨a0, rfl, rfl, rfl, w0⟩ := open_string Try.underlying9 (hval 0 9 v0 rfl rfl) h0
  obtain ⟨a1, rfl, rfl, rfl, w1⟩ := open_int Try.underlying3 (hval 1 3 v1 rfl rfl) h1
  obtain ⟨a2, rfl, rfl, rfl, w2⟩ := open_int Try.underlying3 (hval 2 3 v2 rfl rfl) h2
  clear hA0 hval0
  refine (walk a0 a1 a2 W w0 w1 w2).mono fun e W' ⟨he, bel⟩ => ?_
  subst he
  exact ⟨_, rfl, _, _, _, [], _, [], hW', trodAll_mk1 (shut_bool Try.underlying4 _), (trodAll_cons_mk (shut_string Try.underlying9 w0) (trodAll_cons_mk (shut_int Try.underlying3 w1) (trodAll_cons_mk (shut_int Try.underlying3 w2) trodAll_mk0))), rfl, bel.frame _, fun h => by cases h⟩

theorem over : Rows.chipReadsRow.holds Try.pinned (OpenSpec.ofChange Rows.chipReadsSpec) :=
  OpenClaim.holds_of_wide 3 Try.f3 rfl rfl rfl rfl rfl rfl rfl ⟨rfl, rfl, rfl, rfl, rfl⟩ rfl rfl rfl rfl rfl (by kernel_rfl) Try.func3 (by kernel_rfl)
    (of_decide_eq_true (by kernel_rfl)) (by unfold Func.isWrapper; first | (rw [if_pos (by decide +kernel)]; kernel_rfl) | (rw [if_neg (by decide +kernel)]; exact ⟨rfl, rfl⟩))
    (fun os started H enc _ => lifted os started H enc)

theorem proved : Rows.ChipReadsSaid := over
#print axioms proved
end Go.Proofs.Ythhchfldgkgfpaa.chipReads
