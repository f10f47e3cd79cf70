/-
  ChipSuspends: an erase that is suspended takes no time; resumed it goes on; reads between tell the cells as they were. No conditions.
-/
import Derived.Test.YthhchfldgkgfpaaGreatRows
import Derived.Test.YthhchfldgkgfpaaGreatAwake
import Derived.Test.YthhchfldgkgfpaaGreatSuspend
import Derived.Test.YthhchfldgkgfpaaGreatRefErase
import Derived.Test.YthhchfldgkgfpaaGreatCalls
import Derived.Deep.RegionHeld3
import Derived.WalkKit
import Derived.ProofKit
import Derived.OpenShut
import Derived.ShutString
import Derived.ChangeOld
import Derived.Below
namespace Go.Proofs.YthhchfldgkgfpaaGreat.chipSuspends
open Go.Proofs.YthhchfldgkgfpaaGreat.Plain
open Go.ChangeShapes Go.WideShapes Go.ChangeAt Go.RowKit
open Go.ChangeMaps (open_string shut_string)
set_option linter.unusedVariables false

theorem own : ownKnob Tryz.prog.godebug = none := by kernel_rfl
theorem laidOut : laidOutB Tryz.prog = true := by kernel_rfl

set_option maxRecDepth 100000 in
set_option maxHeartbeats 4000000 in
theorem walk (a0 : Int) (a1 : Int) (a2 : Int) (w : World) (w0 : (Lit.int .i64 a0).wf = true) (w1 : (Lit.int .i64 a1).wf = true) (w2 : (Lit.int .i64 a2).wf = true) :
    Calls Tryz.prog 4 #[.int .i64 a0, .int .i64 a1, .int .i64 a2] w fun e w' => e = .returned (.bool true) ∧ Below w.heap.size w w' := by
  obtain ⟨S, hS, eS⟩ := umod a0 8 (by decide) (by decide)
  have eS : wrap64 ((IntKind.u64.wrap a0).tmod 8) = (S : Int) := eS
  obtain ⟨k, Hk⟩ : ∃ k, Hid (k = S * 512) := ⟨_, rfl⟩
  have hk : k < 4096 := by have := Hk.out; omega
  have eK : (S : Int) * 512 = (k : Int) := by clear eS; have := Hk.out; omega
  have hkS : k / 512 = S := by have := Hk.out; omega
  obtain ⟨m, hm, em, -⟩ := mask_31 a1
  obtain ⟨t, ht, et, -⟩ := mask_127 a2
  obtain ⟨r, hr⟩ : ∃ r, r = 51 - m := ⟨_, rfl⟩
  have e52 : wrap64 (52 - (m : Int)) = 52 - (m : Int) := by clear eS eK em et; exact IntWalk.wrap64_in _ (by omega)
  have e51 : wrap64 (52 - (m : Int) - 1) = (r : Int) := by clear eS eK em et; rw [IntWalk.wrap64_in _ (by omega)]; omega
  have h255 : bits .and .i64 (k : Int) 255 = ((k % 256 : Nat) : Int) := by clear eS eK em et; rw [and_255]; omega
  have HSc := er_script (wide ⟨#[107]⟩) k hk
  obtain ⟨A, HA⟩ : ∃ A, Hid (wide ⟨#[107]⟩ = A) := ⟨_, rfl⟩
  have hA : A.size = 4096 := by rw [← HA.out]; exact wide_size _
  have HA7 : Hid (∀ j, j < 4096 → ub A j = 107) := by rw [← HA.out]; intro j hj; rw [wide_ub _ _ hj]; rw [if_neg (by decide)]; rw [show (⟨#[107]⟩ : ByteArray).size = 1 from rfl, Nat.mod_one]; rfl
  rw [HA.out] at HSc
  obtain ⟨s1, Hs1⟩ : ∃ s, Hid ((newSt A).next [60] = s) := ⟨_, rfl⟩
  have hs1 : s1.sel = false := by rw [← Hs1.out]; rfl
  rw [Hs1.out] at HSc
  obtain ⟨s2, Hs2⟩ : ∃ s, Hid (s1.say (wordL [6]) = s) := ⟨_, rfl⟩
  rw [Hs2.out] at HSc
  obtain ⟨s3, Hs3⟩ : ∃ s, Hid (s2.say (wordL [32, 0, k / 256, k % 256]) = s) := ⟨_, rfl⟩
  rw [Hs3.out] at HSc
  have HE3 : Hid (s3.Er A k 60 false) := HSc.1
  have hs2 : s2.sel = false := HSc.2
  clear HSc Hk
  go_enter Tryz.func4, Tryz.ntmps4
  go_wp2_with fail
  refine (awake_any _).mono ?_
  rintro e u1 ⟨rfl, b1⟩
  go_wp2_with fail
  refine (fresh_any 0 _ _ (one_ok 107)).mono ?_
  rintro e v2 ⟨b, rfl, hbb, hl, b2⟩
  rw [HA.out] at hl
  have HR2 := rn_start hl
  have hwb : w.heap.size ≤ b := Nat.le_trans b1.size hbb
  have HB2 : Hid (Below w.heap.size w v2) := below_then b1 b2
  clear hl b1 b2 hbb HA
  go_wp2_with fail
  refine (cells_run 0 b _ _ _ A HR2 rfl).mono ?_
  rintro e w' ⟨rfl, rfl⟩
  go_wp2_with fail
  refine (next_run 0 b _ _ _ _ [60] (rn_below HR2 (below_new _ _)) (lit_reads _ _ [60] 1 rfl rfl) (by decide)).mono ?_
  rintro e v3 ⟨rfl, HR3, o3⟩
  rw [Hs1.out] at HR3
  clear o3 HR2
  go_wp2_with fail
  refine (word_lit _ _ [6] 1 rfl rfl (by decide) (by decide)).mono ?_
  rintro e v4 ⟨a4, c4, rfl, HO4, b4⟩
  go_wp2_with fail
  refine (say_run _ 0 0 b _ _ _ _ 8 _ (rn_below HR3 b4) hs1 HO4 (rn_lt HR3) (wordL_lt _) (by decide) (by decide) rfl).mono ?_
  rintro e v5 ⟨a5, c5, rfl, HO5, HR5, o5⟩
  rw [Hs2.out] at HR5
  clear HO4 HO5 HR3 b4 o5
  go_wp2_with fail
  refine (word_lit _ _ [32, 0, k / 256, k % 256] 4 (by simp [nums]) rfl (by decide) (by intro x hx; simp at hx; omega)).mono ?_
  rintro e v6 ⟨a6, c6, rfl, HO6, b6⟩
  go_wp2_with fail
  refine (say_run _ 0 0 b _ _ _ _ 32 _ (rn_below HR5 b6) hs2 HO6 (rn_lt HR5) (wordL_lt _) (by simp [wordL_length]) (by decide) (by rw [wordL_length]; rfl)).mono ?_
  rintro e v7 ⟨a7, c7, rfl, HO7, HR7, o7⟩
  rw [Hs3.out] at HR7
  have HB7 : Hid (Below w.heap.size w v7) := HB2.out.trans (rn_old HR7 hwb HB2.out.size)
  replace HR7 := rn_again HR7
  have hb7 := HB7.out.size
  clear HO6 HO7 HR5 b6 o7 HB2 Hs1 Hs2 Hs3 hs1 hs2
  go_wp2_with fail
  go_loopw [12] (fun i wr => ∃ (j : Nat) (s : St), j ≤ m ∧ i = .int .i64 j ∧ Hid (s.Er A k (60 - j) false) ∧ Hid (Run 0 b v7 wr s)) (fun i _ => (m - intOf i).toNat)
  case atStart => exact ⟨0, s3, by omega, rfl, HE3, HR7⟩
  case round =>
    obtain ⟨j, s, hj, rfl, HE, HR⟩ := hrel
    by_cases hlt : j < m
    · have HEn : Hid (s.countDown.Er A k (60 - (j + 1)) false) := by
        have h9 := er_on HE.out (by omega)
        rw [show 60 - j - 1 = 60 - (j + 1) by omega] at h9
        exact h9
      have hsl : s.sel = false := HE.out.idle.sel
      clear HR7 HE3 HB7
      go_wp2_with fail
      refine (clock_run 0 b _ _ _ 15 HR hsl (by decide) (by decide)).mono ?_
      rintro e y1 ⟨rfl, HRk, ok⟩
      go_wp2_with fail
      go_roundw
      case rel => exact ⟨j + 1, s.countDown, by omega, by go_num, HEn, HRk⟩
      case measure => simp [intOf]; omega
    · obtain rfl : j = m := by omega
      have hsl : s.sel = false := HE.out.idle.sel
      have HEs := er_suspend HE.out (by omega)
      rw [show 60 - j - 8 = 52 - j by omega] at HEs
      clear HR7 HE3
      go_wp2_with fail
      refine (word_lit _ _ [117] 1 rfl rfl (by decide) (by decide)).mono ?_
      rintro e x1 ⟨_, _, rfl, HO1, b1⟩
      go_wp2_with fail
      refine (say_run _ 0 0 b _ _ _ _ 8 _ (rn_below HR b1) hsl HO1 (rn_lt HR) (wordL_lt _) (by decide) (by decide) rfl).mono ?_
      rintro e x2 ⟨_, _, rfl, HO2, HR2, o2⟩
      obtain ⟨s4, Hs4⟩ : ∃ s4, Hid (s.say (wordL [117]) = s4) := ⟨_, rfl⟩
      rw [Hs4.out] at HEs HR2
      have HE4 : Hid (s4.Er A k (52 - j) true) := HEs
      have hs4 : s4.sel = false := HE4.out.idle.sel
      have hc4 : s4.countDown = s4 := countDown_idle (er_still HE4.out)
      clear HO1 HO2 b1 o2 HR HE HEs Hs4 hsl
      go_wp2_with fail
      refine (status_run 0 b _ _ s4 2 128 HR2 (er_asleep HE4.out).1 (er_asleep HE4.out).2).mono ?_
      rintro e x3 ⟨rfl, HR3, b3⟩
      clear HR2 b3
      go_wp2_with fail
      go_loopw [15] (fun i wr => ∃ (q : Nat), q ≤ t ∧ i = .int .i64 q ∧ Hid (Run 0 b v7 wr s4)) (fun i _ => (t - intOf i).toNat)
      case atStart => exact ⟨0, by omega, rfl, HR3⟩
      case round =>
        obtain ⟨q, hq, rfl, HR⟩ := hrel
        by_cases hlt2 : q < t
        · clear HB7
          go_wp2_with fail
          refine (clock_run 0 b _ _ _ 15 HR hs4 (by decide) (by decide)).mono ?_
          rintro e y1 ⟨rfl, HRk, ok⟩
          rw [hc4] at HRk
          go_wp2_with fail
          go_roundw
          case rel => exact ⟨q + 1, by omega, by go_num, HRk⟩
          case measure => simp [intOf]; omega
        · have HXr : Hid (s4.hears (wordL [3, 0, k / 256, k % 256] ++ List.replicate 16 15) = List.replicate 32 15 ++ outBs ((List.range 2).map fun i => (ub A ((k + i) % A.size)).toNat)) := er_hears HE4.out k hk 2
          have HXe : Hid ((s4.say (wordL [3, 0, k / 256, k % 256] ++ List.replicate 16 15)).Er A k (52 - j) true) := by
            rw [Hid, wordL_cons, List.append_assoc]; exact er_read HE4.out _
          clear HR3 hc4
          go_wp2_with fail
          refine (word_lit _ _ [3, 0, k / 256, k % 256] 4 (by simp [nums]) rfl (by decide) (by intro x hx; simp at hx; omega)).mono ?_
          rintro e x4 ⟨_, _, rfl, HO4, b4⟩
          go_wp2_with fail
          refine (quiet_on _ _ _ 16 48 _ HO4 b4.size (by simp [wordL_length]) (by simp [wordL_length]) (by decide) (by rw [wordL_length]; rfl)).mono ?_
          rintro e x5 ⟨_, _, rfl, HO5, b5⟩
          go_wp2_with fail
          refine (say_run _ 0 0 b _ _ _ _ 48 _ (rn_below (rn_below HR b4) b5) hs4 HO5 (rn_lt HR) (app_lt (wordL_lt _) (rep_lt (by decide))) (by rw [List.length_append, List.length_replicate, wordL_length]; show 8 * 4 + 16 ≤ 40000; decide) (by decide) (by rw [List.length_append, List.length_replicate, wordL_length]; rfl)).mono ?_
          rintro e x6 ⟨a6, c6, rfl, HO6, HR6, o6⟩
          rw [HXr.out] at HO6
          obtain ⟨s5, Hs5⟩ := hid_name (s4.say (wordL [3, 0, k / 256, k % 256] ++ List.replicate 16 15))
          rw [Hs5.out] at HXe HR6
          have hs5 : s5.sel = false := HXe.out.idle.sel
          have HE6 := er_resume HXe.out
          have hb6 : b < x5.heap.size := rn_lt (rn_below (rn_below HR b4) b5)
          clear HO4 HO5 b4 b5 o6 HR HXr Hs5 HE4 hs4
          go_wp2_with fail
          refine (word_lit _ _ [122] 1 rfl rfl (by decide) (by decide)).mono ?_
          rintro e x7 ⟨_, _, rfl, HO7, b7⟩
          go_wp2_with fail
          refine (say_run _ 0 0 b _ _ _ _ 8 _ (rn_below HR6 b7) hs5 HO7 (rn_lt HR6) (wordL_lt _) (by decide) (by decide) rfl).mono ?_
          rintro e x8 ⟨_, _, rfl, HO8, HR8, o8⟩
          obtain ⟨s6, Hs6⟩ : ∃ s6, Hid (s5.say (wordL [122]) = s6) := ⟨_, rfl⟩
          rw [Hs6.out] at HE6 HR8
          have HE8 : Hid (s6.Er A k (52 - j) false) := HE6
          replace HO6 := owns_only (owns_below HO6 b7) o8 hb6
          clear HO7 HO8 b7 o8 HR6 HXe hs5 Hs6 HE6
          go_wp2_with fail
          refine (status_run 0 b _ _ s6 3 0 HR8 (er_first HE8.out (by omega)).1 (er_first HE8.out (by omega)).2).mono ?_
          rintro e x9 ⟨rfl, HR9, b9⟩
          replace HO6 := owns_below HO6 b9
          clear HR8 b9
          go_wp2_with fail
          go_loopw [19] (fun i wr => ∃ (q : Nat) (s : St), q ≤ r ∧ i = .int .i64 q ∧ Hid (s.Er A k (52 - j - q) false) ∧ Hid (Run 0 b v7 wr s) ∧ Hid (Owns x5.heap.size wr (.slice a6 48 c6) (nums (List.replicate 32 15 ++ outBs ((List.range 2).map fun i => (ub A ((k + i) % A.size)).toNat))))) (fun i _ => (r - intOf i).toNat)
          case atStart => exact ⟨0, s6, by omega, rfl, HE8, HR9, HO6⟩
          case round =>
            obtain ⟨p, s, hp, rfl, HE, HR, HO⟩ := hrel
            have hsl : s.sel = false := HE.out.idle.sel
            clear HO6 HR9 HE8
            by_cases hlt3 : p < r
            · have HEn : Hid (s.countDown.Er A k (52 - j - (p + 1)) false) := by
                have h9 := er_on HE.out (by omega)
                rw [show 52 - j - p - 1 = 52 - j - (p + 1) by omega] at h9
                exact h9
              clear HB7
              go_wp2_with fail
              refine (clock_run 0 b _ _ _ 15 HR hsl (by decide) (by decide)).mono ?_
              rintro e y1 ⟨rfl, HRk, ok⟩
              replace HO := owns_only HO ok hb6
              go_wp2_with fail
              go_roundw
              case rel => exact ⟨p + 1, s.countDown, by omega, by go_num, HEn, HRk, HO⟩
              case measure => simp [intOf]; omega
            · obtain rfl : p = r := by omega
              have HE1 : Hid (s.Er A k 1 false) := by
                have h9 := HE.out
                rw [show 52 - j - p = 1 by omega] at h9
                exact h9
              have HDn := er_done HE1.out
              rw [hkS] at HDn
              obtain ⟨E, HEr⟩ : ∃ E, Hid (erase A S ⟨#[255]⟩ = E) := ⟨_, rfl⟩
              rw [HEr.out] at HDn
              have HDA : Hid (s.countDown.A = E) := HDn
              clear HE HDn
              go_wp2_with fail
              refine (cells_run 0 b _ _ s A HR HE1.out.A).mono ?_
              rintro e w' ⟨rfl, rfl⟩
              go_wp2_with fail
              refine (clock_run 0 b _ _ _ 15 HR hsl (by decide) (by decide)).mono ?_
              rintro e y1 ⟨rfl, HRk, ok⟩
              replace HO := owns_only HO ok hb6
              clear HR ok
              go_wp2_with fail
              refine (cells_run 0 b _ _ _ E HRk HDA.out).mono ?_
              rintro e w' ⟨rfl, rfl⟩
              have HBy : Hid (Below w.heap.size w y1) := HB7.out.trans (rn_old HRk hwb hb7)
              go_wp2_with fail
              refine (refErase_yes A S _ hA hS).mono ?_
              rintro e y2 ⟨R, rfl, HRE, by2⟩
              obtain rfl : E = R := HEr.out.symm.trans HRE.out.symm
              replace HO := owns_below HO by2
              have HBz : Hid (Below w.heap.size w y2) := below_then HBy.out by2
              clear HBy by2 HRk HRE HEr HDA HE1
              go_wp2_with fail
              refine (bytesOf_any _ _ 32 2 _ HO.out.reads (told_length 32 2 _) (by rw [told_length]; decide) (told_lt 32 2 _)).mono ?_
              rintro e y3 ⟨a3, c3, rfl, HO3, b3⟩
              rw [told_back 32 2 _ (fun i _ => ub_lt _ _)] at HO3
              have HO3' : Hid (Owns y2.heap.size y3 (.slice a3 2 c3) (nums [107, 107])) := by
                have h9 := HO3.out
                rw [show (List.range 2).map (fun i => (ub A ((k + i) % A.size)).toNat) = [107, 107] by
                  show [(ub A ((k + 0) % A.size)).toNat, (ub A ((k + 1) % A.size)).toNat] = _
                  rw [HA7.out _ (by rw [hA]; omega), HA7.out _ (by rw [hA]; omega)]
                  rfl] at h9
                exact h9
              clear HO HO3
              go_wp2_with fail
              refine (same_any _ _ (nums [107, 107]) (nums [107, 107]) _ (HO3'.out.reads.below (below_new _ _)) (lit_reads _ _ (nums [107, 107]) 2 rfl rfl) (by decide) (by decide)).mono ?_
              rintro e y4 ⟨rfl, b4⟩
              have HB4 : Hid (Below w.heap.size w y4) := below_then (below_then (below_then HBz.out b3) (below_new _ _)) b4
              go_wp2
              go_ret
              exact ⟨rfl, HB4.out⟩

set_option maxRecDepth 100000 in
theorem lifted (os : Os) (started : os.Started) (H : Type) (enc : TypeId × Value → H) :
    ReturnsInHanded {} Tryz.checked os 4 .any (Rows.chipSuspendsSpec.pre6 enc Tryz.prog Tryz.f4 Rows.chipSuspendsRow.domain false) (Rows.chipSuspendsSpec.post enc Tryz.prog Tryz.f4 false true false false) := by
  refine returnsInHanded_of_change (C := Tryz.checked) own started (by kernel_rfl) Tryz.func4
    (ChangeSpec.witness6 (enc := enc) (C := Tryz.checked) false ⟨#[], #[.int .i64 0, .int .i64 0, .int .i64 0], []⟩ 8 (by kernel_rfl) (by kernel_rfl) (by kernel_rfl) (by kernel_rfl)) ?_
  intro W base args ds gs before hval0 hW hcnd _
  have hval : ∀ (j : Nat) t v, Tryz.f4.params[j]? = some t → args[j]? = some v → Value.okWide Tryz.prog W .any base t v := hval0
  have hW' := hW
  obtain ⟨p, q, hA0, hV, rfl, hfz, hnd⟩ := hW
  have hA : DataW.TrodAll enc Tryz.prog W 0 (fun _ => true) true Tryz.f4.params.toList args.toList ds p := hA0
  rw [Tryz.params4] at hA hval
  obtain ⟨v0, vs0, d0, ds0, p0, q0, hargs, rfl, rfl, h0, r0⟩ := trodAll_cons hA
  obtain ⟨v1, vs1, d1, ds1, p1, q1, rfl, rfl, rfl, h1, r1⟩ := trodAll_cons r0
  obtain ⟨v2, vs2, d2, ds2, p2, q2, rfl, rfl, rfl, h2, r2⟩ := trodAll_cons r1
  obtain ⟨rfl, rfl, rfl⟩ := trodAll_nil r2
  obtain rfl : args = #[v0, v1, v2] := by cases args; simp_all
  obtain ⟨rfl, rfl⟩ := trodVars_none hV
  obtain ⟨a0, rfl, rfl, rfl, w0⟩ := open_int Tryz.underlying3 (hval 0 3 v0 rfl rfl) h0
  obtain ⟨a1, rfl, rfl, rfl, w1⟩ := open_int Tryz.underlying3 (hval 1 3 v1 rfl rfl) h1
  obtain ⟨a2, rfl, rfl, rfl, w2⟩ := open_int Tryz.underlying3 (hval 2 3 v2 rfl rfl) h2
  clear hA0 hval0
  refine (walk a0 a1 a2 W w0 w1 w2).mono fun e W' ⟨he, bel⟩ => ?_
  subst he
  exact ⟨_, rfl, _, _, _, [], _, [], hW', trodAll_mk1 (shut_bool Tryz.underlying4 _), (trodAll_cons_mk (shut_int Tryz.underlying3 w0) (trodAll_cons_mk (shut_int Tryz.underlying3 w1) (trodAll_cons_mk (shut_int Tryz.underlying3 w2) trodAll_mk0))), rfl, bel.frame _, fun h => by cases h⟩

theorem over : Rows.chipSuspendsRow.holds Tryz.pinned (OpenSpec.ofChange Rows.chipSuspendsSpec) :=
  OpenClaim.holds_of_wide 4 Tryz.f4 rfl rfl rfl rfl rfl rfl rfl ⟨rfl, rfl, rfl, rfl, rfl⟩ rfl rfl rfl rfl rfl (by kernel_rfl) Tryz.func4 (by kernel_rfl)
    (of_decide_eq_true (by kernel_rfl)) (by unfold Func.isWrapper; first | (rw [if_pos (by decide +kernel)]; kernel_rfl) | (rw [if_neg (by decide +kernel)]; exact ⟨rfl, rfl⟩))
    (fun os started H enc _ => lifted os started H enc)

theorem proved : Rows.ChipSuspendsSaid := over
#print axioms proved
end Go.Proofs.YthhchfldgkgfpaaGreat.chipSuspends
