/-
  ChipLoss: behind a loss a chip is as a new one with its cells, but for what is protected, quad, counted. No conditions.
-/
import Derived.Test.YthhchfldgkgfpaaRows
import Derived.Test.YthhchfldgkgfpaaAwake
import Derived.Test.YthhchfldgkgfpaaLost
import Derived.Deep.RegionHeld3
import Derived.SizedLaws
import Derived.WalkKit
import Derived.ProofKit
import Derived.OpenShut
import Derived.ShutString
import Derived.ChangeOld
import Derived.Below
namespace Go.Proofs.Ythhchfldgkgfpaa.chipLoss
open Go.Proofs.Ythhchfldgkgfpaa.Plain
open Go.ChangeShapes Go.WideShapes Go.ChangeAt Go.RowKit
open Go.ChangeMaps (open_string shut_string)
set_option linter.unusedVariables false

theorem own : ownKnob Try.prog.godebug = none := by kernel_rfl
theorem laidOut : laidOutB Try.prog = true := by kernel_rfl

set_option maxRecDepth 100000 in
set_option maxHeartbeats 2000000 in
theorem walk (a0 : ByteArray) (a1 : Option Addr) (len1 cap1 : Nat) (z1 : List Int) (a2 : ByteArray) (w : World) (w0 : a0.size ≤ maxLen) (w1 : Came w a1 len1 cap1 z1) (s1 : len1 * 8 ≤ 140737488351232) (w2 : a2.size ≤ maxLen) :
    Calls Try.prog 7 #[.string a0, .slice a1 len1 cap1, .string a2] w fun e w' => e = .returned (.bool true) ∧ Below w.heap.size w w' := by
  have HCm : Hid (Reads w (.slice a1 len1 cap1) z1) := w1.reads
  have HZl : Hid (z1.length = len1) := w1.1
  clear w1
  obtain ⟨A, HA⟩ : ∃ A, Hid (wide a0 = A) := ⟨_, rfl⟩
  have hA : A.size = 4096 := by rw [← HA.out]; exact wide_size a0
  go_enter Try.func7, Try.ntmps7
  go_wp2_with fail
  refine (awake_any _).mono ?_
  rintro e u1 ⟨rfl, b1⟩
  go_wp2_with fail
  refine (fresh_any 0 _ _ w0).mono ?_
  rintro e v2 ⟨b, rfl, hbb, hl, b2⟩
  rw [HA.out] at hl
  have HR2 := rn_start hl
  have hwb : w.heap.size ≤ b := Nat.le_trans b1.size hbb
  have HB2 : Hid (Below w.heap.size w v2) := below_then b1 b2
  clear hl b1 b2 hbb HA
  go_wp2_with fail
  obtain ⟨v3, Hv3⟩ : ∃ v3, Hid (v2.alloc (.cells #[.int .i64 6, .int .i64 4, .int .i64 5, .int .i64 159, .int .i64 117, .int .i64 122, .int .i64 3, .int .i64 0] 3) = v3) := ⟨_, rfl⟩
  obtain ⟨gB, hgB⟩ : ∃ gB, gB = v2.heap.size := ⟨_, rfl⟩
  have HT : Hid (∀ t, t < 8 → v3.cell? ⟨gB, t, none⟩ = some (.int .i64 ((tableB.getD t 0 : Nat) : Int))) := fun t ht => by
    rw [← Hv3.out, hgB]
    rcases (by omega : t = 0 ∨ t = 1 ∨ t = 2 ∨ t = 3 ∨ t = 4 ∨ t = 5 ∨ t = 6 ∨ t = 7) with rfl | rfl | rfl | rfl | rfl | rfl | rfl | rfl <;> simp [tableB]
  have HR3 : Hid (Run 0 b v3 v3 (newSt A)) := by rw [← Hv3.out]; exact rn_again (rn_below HR2 (below_new _ _))
  have HB3 : Hid (Below w.heap.size w v3) := by rw [← Hv3.out]; exact below_then HB2.out (below_new _ _)
  have hgb : gB ≠ b := by have := rn_lt HR2; omega
  rw [← hgB, Hv3.out]
  clear HR2 HB2 Hv3 hgB
  go_loopw [9] (fun i wr => ∃ (j : Nat) (s : St), j ≤ len1 ∧ j ≤ 10 ∧ i = .int .i64 j ∧ Hid (Run 0 b v3 wr s) ∧ Hid (s.Still A)) (fun i _ => (len1 - intOf i).toNat)
  case atStart => exact ⟨0, newSt A, by omega, by omega, rfl, HR3, still_new A⟩
  case round =>
    obtain ⟨j, s, hj1, hj2, rfl, HR, HS⟩ := hrel
    by_cases hlt : j < len1 ∧ j < 10
    · obtain ⟨hlt1, hlt2⟩ := hlt
      obtain ⟨x, Hx⟩ : ∃ x, Hid (z1.getD j 0 = x) := ⟨_, rfl⟩
      obtain ⟨r, hr, er, -⟩ := mask_7 x
      obtain ⟨n, hn, en, -⟩ := mask_31 (x / 8)
      obtain ⟨c0, cap, e0, hread⟩ := HCm.out
      rw [HZl.out] at hread
      obtain ⟨ga, oa, e1, hcell⟩ := hread (by omega)
      simp only [Value.slice.injEq] at e0
      obtain ⟨rfl, -, rfl⟩ := e0
      subst e1
      have hwv : Below w.heap.size w wr := HB3.out.trans (rn_old HR hwb HB3.out.size)
      have ca : wr.cell? ⟨ga, oa + j, none⟩ = some (.int .i64 x) := by rw [← Hx.out, hwv.cell (cell_lt (hcell j hlt1))]; exact hcell j hlt1
      obtain ⟨y, Hy⟩ : ∃ y, Hid (tableB.getD r 0 = y) := ⟨_, rfl⟩
      have HyB : Hid (y = 6 ∨ y = 4 ∨ y = 5 ∨ y = 159 ∨ y = 117 ∨ y = 122 ∨ y = 3 ∨ y = 0) := by rw [← Hy.out]; exact tableB_is r hr
      have cb0 := HT.out r hr
      rw [Hy.out] at cb0
      have cb : wr.cell? ⟨gB, r, none⟩ = some (.int .i64 (y : Int)) := by rw [HR.out.only.cell (cell_lt cb0) hgb]; exact cb0
      have hy : y < 256 := by have := HyB.out; omega
      have HLt : Hid (∀ x ∈ [y], x < 256) := by intro x hx; simp at hx; omega
      have HKeep : Hid (∀ v u : World, (v.cell? ⟨ga, oa + j, none⟩ = some (.int .i64 x) ∧ v.cell? ⟨gB, r, none⟩ = some (.int .i64 (y : Int))) → Below v.heap.size v u → (u.cell? ⟨ga, oa + j, none⟩ = some (.int .i64 x) ∧ u.cell? ⟨gB, r, none⟩ = some (.int .i64 (y : Int)))) := fun v u h k => ⟨by rw [k.cell (cell_lt h.1)]; exact h.1, by rw [k.cell (cell_lt h.2)]; exact h.2⟩
      have hgab : ga ≠ b := by have := cell_lt (hcell j hlt1); have : ga < w.heap.size := this; omega
      have HKeepO : Hid (∀ v u : World, (v.cell? ⟨ga, oa + j, none⟩ = some (.int .i64 x) ∧ v.cell? ⟨gB, r, none⟩ = some (.int .i64 (y : Int))) → Only b v u → (u.cell? ⟨ga, oa + j, none⟩ = some (.int .i64 x) ∧ u.cell? ⟨gB, r, none⟩ = some (.int .i64 (y : Int)))) := fun v u h k => ⟨by rw [k.cell (cell_lt h.1) hgab]; exact h.1, by rw [k.cell (cell_lt h.2) hgb]; exact h.2⟩
      have S0 : wr.drew.cell? ⟨ga, oa + j, none⟩ = some (.int .i64 x) ∧ wr.drew.cell? ⟨gB, r, none⟩ = some (.int .i64 (y : Int)) := ⟨ca, cb⟩
      have HRd : Hid (Run 0 b v3 wr.drew s) := rn_below HR ((Below.refl _ _).drew)
      have hsel : s.sel = false := HS.out.rest.idle.sel
      have hr1 : (r : Int) < 8 := by omega
      have hr0 : (0 : Int) ≤ (r : Int) := by omega
      have hj0 : (0 : Int) ≤ (j : Int) := by omega
      have hjl : (j : Int) < (len1 : Int) := by omega
      have HS' : Hid ((s.say (wordL [y] ++ List.replicate n 15)).Still A) := still_say HS.out y HyB.out n
      clear hread hcell cb0 HT HCm HZl Hx Hy HyB HB3 HR3 HR HS hwv hgab hgb
      go_wp2_with fail
      go_region_held3 (fun v => v.cell? ⟨ga, oa + j, none⟩ = some (.int .i64 x) ∧ v.cell? ⟨gB, r, none⟩ = some (.int .i64 (y : Int))) (first | exact S0 | exact HKeep.out _ _ S0 b3 | exact HKeep.out _ _ (HKeep.out _ _ S0 b3) b4 | exact HKeepO.out _ _ (HKeep.out _ _ (HKeep.out _ _ S0 b3) b4) o5 | exact HKeep.out _ _ (by assumption) (by assumption) | exact HKeep.out _ _ (by assumption) (below_new _ _) | exact HKeepO.out _ _ (by assumption) (by assumption) | exact HKeepO.out _ _ (HKeep.out _ _ (HKeep.out _ _ S0 (by assumption)) (by assumption)) (by assumption)) (first | (go_at_call 17; refine (word_lit wr.drew #[.int .i64 (y : Int)] [y] 1 (by simp [nums]) rfl (by decide) HLt.out).mono ?_; rintro e w3 ⟨a3, c3, rfl, HO3, b3⟩) | (go_at_call 16; refine (quiet_on _ _ _ n (8 + n) _ HO3 b3.size (by simp [wordL_length]) (by simp [wordL_length]) (by omega) (by rw [wordL_length]; rfl)).mono ?_; rintro e w4 ⟨a4, c4, rfl, HO4, b4⟩) | (go_at_call 15; refine (say_run _ 0 0 b _ _ _ _ (8 + n) _ (rn_below (rn_below HRd b3) b4) hsel HO4 (rn_lt HRd) (app_lt (wordL_lt _) (rep_lt (by decide))) (by rw [List.length_append, List.length_replicate, wordL_length]; show 8 * 1 + n ≤ 40000; omega) (by decide) (by rw [List.length_append, List.length_replicate, wordL_length]; rfl)).mono ?_; rintro e w5 ⟨a5, c5, rfl, HO5, HR5, o5⟩))
      all_goals go_wp2
      all_goals go_roundw
      case rel => exact ⟨j + 1, _, by omega, by omega, by go_num, HR5, HS'⟩
      case measure => simp [intOf]; omega
    · rcases (by omega : ¬ j < len1 ∨ (j < len1 ∧ ¬ j < 10)) with hq | hq
      · have d1 : decide ((j : Int) < (len1 : Int)) = false := decide_eq_false (by omega)
        have d3 : decide ((10 : Int) < (len1 : Int)) = false := decide_eq_false (by omega)
        go_wp2_with fail
        refine (next_run 0 b _ _ _ _ [300] (rn_below HR (below_new _ _)) (lit_reads _ _ [300] 1 rfl rfl) (by decide)).mono ?_
        rintro e v4 ⟨rfl, HRt, o4⟩
        have HSn : Hid ((s.next [300]).Still A) := still_next HS.out [300]
        obtain ⟨t, Ht⟩ : ∃ t, Hid (s.next [300] = t) := ⟨_, rfl⟩
        rw [Ht.out] at HSn HRt
        clear o4 Ht HR HS
        have HOff : Hid (t.Off A) := ⟨HSn.out.A, HSn.out.rest.left, HSn.out.prot, HSn.out.quad⟩
        clear HSn
        go_wp2_with fail
        refine (cells_run 0 b _ _ t A HRt HOff.out.A).mono ?_
        rintro e w' ⟨rfl, rfl⟩
        go_wp2_with fail
        refine (loss_run 0 0 b _ _ t a2 HRt w2).mono ?_
        rintro e x1 ⟨rfl, HRl, ol⟩
        have HP0 := loss_plain HOff.out.A HOff.out.left HOff.out.prot HOff.out.quad a2
        obtain ⟨p, Hp⟩ : ∃ p, Hid (t.loss a2 = p) := ⟨_, rfl⟩
        rw [Hp.out] at HP0 HRl
        have HPl : Hid (p.Plain A) := HP0.1
        have HPe : Hid (p.en = false) := HP0.2.1
        have HPf : Hid (p.first = 0) := HP0.2.2.1
        have HPs : Hid (p.second = 0) := HP0.2.2.2
        have hpsel : p.sel = false := HPl.out.rest.idle.sel
        clear HP0 Hp ol HRt HOff
        go_wp2_with fail
        refine (status_run 0 b _ _ p 0 0 HRl HPf.out HPs.out).mono ?_
        rintro e x2 ⟨rfl, HR2, b2⟩
        clear b2 HRl
        go_wp2_with fail
        refine (select_run 0 b _ _ p HR2 hpsel).mono ?_
        rintro e x3 ⟨rfl, HR3, o3⟩
        clear o3 HR2
        go_wp2_with fail
        refine (deselect_run 0 0 b _ _ _ HR3 (select_sel p) (by decide)).mono ?_
        rintro e x4 ⟨rfl, HR4, o4⟩
        rw [touch HPl.out.rest.idle] at HR4
        clear o4 HR3
        go_wp2_with fail
        refine (word_lit _ _ [6] 1 rfl rfl (by decide) (by decide)).mono ?_
        rintro e x5 ⟨a5, c5, rfl, HO5, b5⟩
        go_wp2_with fail
        refine (say_run _ 0 0 b _ _ _ _ 8 _ (rn_below HR4 b5) hpsel HO5 (rn_lt HR4) (wordL_lt _) (by decide) (by decide) rfl).mono ?_
        rintro e x6 ⟨a6, c6, rfl, HO6, HR6, o6⟩
        have HE := say_en HPl.out
        obtain ⟨q, Hq⟩ : ∃ q, Hid (p.say (wordL [6]) = q) := ⟨_, rfl⟩
        rw [Hq.out] at HE HR6
        have HEp : Hid (q.Plain A) := HE.1
        have HEe : Hid (q.en = true) := HE.2
        have hqsel : q.sel = false := HEp.out.rest.idle.sel
        clear HE Hq HR4 HO5 HO6 b5 o6 HPl HPe HPf HPs hpsel
        go_wp2_with fail
        refine (word_lit _ _ [32, 0, 8, 0] 4 rfl rfl (by decide) (by decide)).mono ?_
        rintro e x7 ⟨a7, c7, rfl, HO7, b7⟩
        go_wp2_with fail
        refine (say_run _ 0 0 b _ _ _ _ 32 _ (rn_below HR6 b7) hqsel HO7 (rn_lt HR6) (wordL_lt _) (by decide) (by decide) rfl).mono ?_
        rintro e x8 ⟨a8, c8, rfl, HO8, HR8, o8⟩
        have HW := erase_runs HEp.out HEe.out 2048 (by decide)
        rw [show wordL [32, 0, 2048 / 256, 2048 % 256] = wordL [32, 0, 8, 0] from rfl] at HW
        obtain ⟨r, Hr⟩ : ∃ r, Hid (q.say (wordL [32, 0, 8, 0]) = r) := ⟨_, rfl⟩
        rw [Hr.out] at HW HR8
        have HRu : Hid (r.Runs true 2048 ⟨#[]⟩ A) := HW
        have hrsel : r.sel = false := HRu.out.idle.sel
        clear HW Hr HR6 HO7 HO8 b7 o8 HEp HEe hqsel
        have HB8 : Hid (Below w.heap.size w x8) := HB3.out.trans (rn_old HR8 hwb HB3.out.size)
        replace HR8 := rn_again HR8
        have hbw : w.heap.size ≤ x8.heap.size := HB8.out.size
        clear HB3 HR3 HT HCm HZl
        go_wp2_with fail
        go_loopw [16] (fun i wr => ∃ j : Nat, j ≤ 8 ∧ i = .int .i64 j ∧ Hid (Run 0 b x8 wr (r.wait j))) (fun i _ => (8 - intOf i).toNat)
        case atStart => exact ⟨0, by omega, rfl, HR8⟩
        case round =>
          obtain ⟨m, hm, rfl, HRm⟩ := hrel
          by_cases hlm : m < 8
          · go_wp2_with fail
            refine (clock_run 0 b _ _ _ 15 HRm ((wait_sel r m).trans hrsel) (by decide) (by decide)).mono ?_
            rintro e y1 ⟨rfl, HRk, ok⟩
            go_wp2_with fail
            go_roundw
            case rel => exact ⟨m + 1, by omega, by go_num, HRk⟩
            case measure => simp [intOf]; omega
          · obtain rfl : m = 8 := by omega
            rw [runs_wait HRu.out] at HRm
            obtain ⟨z, Hz⟩ : ∃ z, Hid (r.done = z) := ⟨_, rfl⟩
            have HZp := runs_plain HRu.out
            rw [runs_on_erase HRu.out, Hz.out] at HZp
            have HZf : Hid (z.first = 0) := by rw [Hid, plain_first HZp, ← Hz.out]; rfl
            obtain ⟨E, HEr⟩ : ∃ E, Hid (erase A (2048 / 512) ⟨#[255]⟩ = E) := ⟨_, rfl⟩
            have hEs : E.size = 4096 := by rw [← HEr.out, erase_size]; exact hA
            rw [HEr.out] at HZp
            have HZA : Hid (z.A = E) := HZp.A
            rw [Hz.out] at HRm
            have HLow : Hid (∀ j, j < 2048 → ub E j = ub A j) := by rw [← HEr.out]; exact erase_low A hA 2048 (by decide)
            have hEx : ((E.extract 0 2048).toList == (A.extract 0 2048).toList) = true := cut_same E A 2048 (by omega) (by omega) HLow.out
            clear HZp Hz HRu hrsel HEr HR8
            go_wp2_with fail
            refine (status_run 0 b _ _ z 0 z.second HRm HZf.out rfl).mono ?_
            rintro e y2 ⟨rfl, HRn, bn⟩
            go_wp2_with fail
            refine (cells_run 0 b _ _ z E HRn HZA.out).mono ?_
            rintro e y3 ⟨rfl, rfl⟩
            have HBn : Hid (Below w.heap.size w y2) := HB8.out.trans (rn_old HRn hwb hbw)
            clear HRm HRn bn HB8 HZf HZA HLow
            go_wp2_with fail
            go_region_held3 (fun _ => True) (trivial) (first | (go_at_call 27; refine (num_any _ _).mono ?_; rintro e w' ⟨rfl, rfl⟩))
            all_goals go_wp2
            all_goals go_ret
            all_goals exact ⟨rfl, HBn.out.drew⟩
      · have d1 : decide ((j : Int) < (len1 : Int)) = true := decide_eq_true (by omega)
        have d2 : decide ((j : Int) < 10) = false := decide_eq_false (by omega)
        have d3 : decide ((10 : Int) < (len1 : Int)) = true := decide_eq_true (by omega)
        go_wp2_with fail
        refine (next_run 0 b _ _ _ _ [300] (rn_below HR (below_new _ _)) (lit_reads _ _ [300] 1 rfl rfl) (by decide)).mono ?_
        rintro e v4 ⟨rfl, HRt0, o4⟩
        have HSn : Hid ((s.next [300]).Still A) := still_next HS.out [300]
        obtain ⟨t0, Ht⟩ : ∃ t, Hid (s.next [300] = t) := ⟨_, rfl⟩
        rw [Ht.out] at HSn HRt0
        clear o4 Ht HR HS
        go_wp2_with fail
        refine (select_run 0 b _ _ _ HRt0 HSn.out.rest.idle.sel).mono ?_
        rintro e v5 ⟨rfl, HRt1, o5⟩
        clear HRt0 o5
        go_wp2_with fail
        refine (clock_at 0 b _ _ _ 14 15 HRt1 (by decide) (by decide) (clock_picked HSn.out).2.2.2.2).mono ?_
        rintro e v6 ⟨rfl, HRt, o6⟩
        have HOf := off_clock HSn.out
        obtain ⟨t, Ht⟩ : ∃ t, Hid ((t0.select.clock 14).1 = t) := ⟨_, rfl⟩
        rw [Ht.out] at HOf HRt
        clear HRt1 o6 Ht
        have HOff : Hid (t.Off A) := HOf
        clear HSn
        go_wp2_with fail
        refine (cells_run 1 b _ _ t A HRt HOff.out.A).mono ?_
        rintro e w' ⟨rfl, rfl⟩
        go_wp2_with fail
        refine (loss_run 1 0 b _ _ t a2 HRt w2).mono ?_
        rintro e x1 ⟨rfl, HRl, ol⟩
        have HP0 := loss_plain HOff.out.A HOff.out.left HOff.out.prot HOff.out.quad a2
        obtain ⟨p, Hp⟩ : ∃ p, Hid (t.loss a2 = p) := ⟨_, rfl⟩
        rw [Hp.out] at HP0 HRl
        have HPl : Hid (p.Plain A) := HP0.1
        have HPe : Hid (p.en = false) := HP0.2.1
        have HPf : Hid (p.first = 0) := HP0.2.2.1
        have HPs : Hid (p.second = 0) := HP0.2.2.2
        have hpsel : p.sel = false := HPl.out.rest.idle.sel
        clear HP0 Hp ol HRt HOff
        go_wp2_with fail
        refine (status_run 0 b _ _ p 0 0 HRl HPf.out HPs.out).mono ?_
        rintro e x2 ⟨rfl, HR2, b2⟩
        clear b2 HRl
        go_wp2_with fail
        refine (select_run 0 b _ _ p HR2 hpsel).mono ?_
        rintro e x3 ⟨rfl, HR3, o3⟩
        clear o3 HR2
        go_wp2_with fail
        refine (deselect_run 0 0 b _ _ _ HR3 (select_sel p) (by decide)).mono ?_
        rintro e x4 ⟨rfl, HR4, o4⟩
        rw [touch HPl.out.rest.idle] at HR4
        clear o4 HR3
        go_wp2_with fail
        refine (word_lit _ _ [6] 1 rfl rfl (by decide) (by decide)).mono ?_
        rintro e x5 ⟨a5, c5, rfl, HO5, b5⟩
        go_wp2_with fail
        refine (say_run _ 0 0 b _ _ _ _ 8 _ (rn_below HR4 b5) hpsel HO5 (rn_lt HR4) (wordL_lt _) (by decide) (by decide) rfl).mono ?_
        rintro e x6 ⟨a6, c6, rfl, HO6, HR6, o6⟩
        have HE := say_en HPl.out
        obtain ⟨q, Hq⟩ : ∃ q, Hid (p.say (wordL [6]) = q) := ⟨_, rfl⟩
        rw [Hq.out] at HE HR6
        have HEp : Hid (q.Plain A) := HE.1
        have HEe : Hid (q.en = true) := HE.2
        have hqsel : q.sel = false := HEp.out.rest.idle.sel
        clear HE Hq HR4 HO5 HO6 b5 o6 HPl HPe HPf HPs hpsel
        go_wp2_with fail
        refine (word_lit _ _ [32, 0, 8, 0] 4 rfl rfl (by decide) (by decide)).mono ?_
        rintro e x7 ⟨a7, c7, rfl, HO7, b7⟩
        go_wp2_with fail
        refine (say_run _ 0 0 b _ _ _ _ 32 _ (rn_below HR6 b7) hqsel HO7 (rn_lt HR6) (wordL_lt _) (by decide) (by decide) rfl).mono ?_
        rintro e x8 ⟨a8, c8, rfl, HO8, HR8, o8⟩
        have HW := erase_runs HEp.out HEe.out 2048 (by decide)
        rw [show wordL [32, 0, 2048 / 256, 2048 % 256] = wordL [32, 0, 8, 0] from rfl] at HW
        obtain ⟨r, Hr⟩ : ∃ r, Hid (q.say (wordL [32, 0, 8, 0]) = r) := ⟨_, rfl⟩
        rw [Hr.out] at HW HR8
        have HRu : Hid (r.Runs true 2048 ⟨#[]⟩ A) := HW
        have hrsel : r.sel = false := HRu.out.idle.sel
        clear HW Hr HR6 HO7 HO8 b7 o8 HEp HEe hqsel
        have HB8 : Hid (Below w.heap.size w x8) := HB3.out.trans (rn_old HR8 hwb HB3.out.size)
        replace HR8 := rn_again HR8
        have hbw : w.heap.size ≤ x8.heap.size := HB8.out.size
        clear HB3 HR3 HT HCm HZl
        go_wp2_with fail
        go_loopw [16] (fun i wr => ∃ j : Nat, j ≤ 8 ∧ i = .int .i64 j ∧ Hid (Run 0 b x8 wr (r.wait j))) (fun i _ => (8 - intOf i).toNat)
        case atStart => exact ⟨0, by omega, rfl, HR8⟩
        case round =>
          obtain ⟨m, hm, rfl, HRm⟩ := hrel
          by_cases hlm : m < 8
          · go_wp2_with fail
            refine (clock_run 0 b _ _ _ 15 HRm ((wait_sel r m).trans hrsel) (by decide) (by decide)).mono ?_
            rintro e y1 ⟨rfl, HRk, ok⟩
            go_wp2_with fail
            go_roundw
            case rel => exact ⟨m + 1, by omega, by go_num, HRk⟩
            case measure => simp [intOf]; omega
          · obtain rfl : m = 8 := by omega
            rw [runs_wait HRu.out] at HRm
            obtain ⟨z, Hz⟩ : ∃ z, Hid (r.done = z) := ⟨_, rfl⟩
            have HZp := runs_plain HRu.out
            rw [runs_on_erase HRu.out, Hz.out] at HZp
            have HZf : Hid (z.first = 0) := by rw [Hid, plain_first HZp, ← Hz.out]; rfl
            obtain ⟨E, HEr⟩ : ∃ E, Hid (erase A (2048 / 512) ⟨#[255]⟩ = E) := ⟨_, rfl⟩
            have hEs : E.size = 4096 := by rw [← HEr.out, erase_size]; exact hA
            rw [HEr.out] at HZp
            have HZA : Hid (z.A = E) := HZp.A
            rw [Hz.out] at HRm
            have HLow : Hid (∀ j, j < 2048 → ub E j = ub A j) := by rw [← HEr.out]; exact erase_low A hA 2048 (by decide)
            have hEx : ((E.extract 0 2048).toList == (A.extract 0 2048).toList) = true := cut_same E A 2048 (by omega) (by omega) HLow.out
            clear HZp Hz HRu hrsel HEr HR8
            go_wp2_with fail
            refine (status_run 0 b _ _ z 0 z.second HRm HZf.out rfl).mono ?_
            rintro e y2 ⟨rfl, HRn, bn⟩
            go_wp2_with fail
            refine (cells_run 0 b _ _ z E HRn HZA.out).mono ?_
            rintro e y3 ⟨rfl, rfl⟩
            have HBn : Hid (Below w.heap.size w y2) := HB8.out.trans (rn_old HRn hwb hbw)
            clear HRm HRn bn HB8 HZf HZA HLow
            go_wp2_with fail
            go_region_held3 (fun _ => True) (trivial) (first | (go_at_call 27; refine (num_any _ _).mono ?_; rintro e w' ⟨rfl, rfl⟩))
            all_goals go_wp2
            all_goals go_ret
            all_goals exact ⟨rfl, HBn.out.drew⟩

set_option maxRecDepth 100000 in
theorem lifted (os : Os) (started : os.Started) (H : Type) (enc : TypeId × Value → H) :
    ReturnsInHanded {} Try.checked os 7 .any (Rows.chipLossSpec.pre6 enc Try.prog Try.f7 Rows.chipLossRow.domain false) (Rows.chipLossSpec.post enc Try.prog Try.f7 false true false false) := by
  refine returnsInHanded_of_change_sized (C := Try.checked) own started (by kernel_rfl) Try.func7
    (ChangeSpec.witness6 (enc := enc) (C := Try.checked) false ⟨#[], #[.string ByteArray.empty, .slice none 0 0, .string ByteArray.empty], []⟩ 8 (by kernel_rfl) (by kernel_rfl) (by kernel_rfl) (by kernel_rfl)) ?_
  intro W base args ds gs before hval0 hW hcnd hsz0 _
  have hsz : (DataW.weightsEach Try.prog (Try.f7.params.toList ++ Rows.chipLossSpec.plain.varTypes Try.prog) (ds ++ gs)).all (· ≤ reachBytes) = true := hsz0
  clear hsz0
  have hval : ∀ (j : Nat) t v, Try.f7.params[j]? = some t → args[j]? = some v → Value.okWide Try.prog W .any base t v := hval0
  have hW' := hW
  obtain ⟨p, q, hA0, hV, rfl, hfz, hnd⟩ := hW
  have hA : DataW.TrodAll enc Try.prog W 0 (fun _ => true) true Try.f7.params.toList args.toList ds p := hA0
  rw [Try.params7] at hA hval hsz
  obtain ⟨v0, vs0, d0, ds0, p0, q0, hargs, rfl, rfl, h0, r0⟩ := trodAll_cons hA
  obtain ⟨v1, vs1, d1, ds1, p1, q1, rfl, rfl, rfl, h1, r1⟩ := trodAll_cons r0
  obtain ⟨v2, vs2, d2, ds2, p2, q2, rfl, rfl, rfl, h2, r2⟩ := trodAll_cons r1
  obtain ⟨rfl, rfl, rfl⟩ := trodAll_nil r2
  obtain rfl : args = #[v0, v1, v2] := by cases args; simp_all
  obtain ⟨rfl, rfl⟩ := trodVars_none hV
  obtain ⟨a0, rfl, rfl, rfl, w0⟩ := open_string Try.underlying9 (hval 0 9 v0 rfl rfl) h0
  obtain ⟨a1, len1, cap1, rfl⟩ := okWide_slice Try.underlying27 (hval 1 27 v1 rfl rfl)
  have k1 := h1
  have lt1 : ∀ x ∈ p1, x.block < W.heap.size := by obtain ⟨m, hm⟩ := k1; exact DataW.trod_lt m _ _ _ hm
  obtain ⟨z1, w1, s1⟩ : ∃ zs, Came W a1 len1 cap1 zs ∧ len1 * 8 ≤ 140737488351232 := by
    obtain ⟨fuel, hf⟩ := h1
    rcases open_ints Try.underlying27 Try.underlying3 (by kernel_rfl) hf with ⟨hcs, _⟩ | ⟨x, l, c, zs, hcs, _, hl, hm, hz, hx, hcell, hwz⟩
    · simp [Value.cells] at hcs
      obtain ⟨rfl, rfl, rfl⟩ := hcs
      exact ⟨[], ⟨rfl, .inl ⟨rfl, rfl, rfl⟩⟩, by omega⟩
    · simp [Value.cells] at hcs
      obtain ⟨rfl, rfl, rfl⟩ := hcs
      simp only [Prod.mk.injEq] at hx
      obtain ⟨rfl, -⟩ := hx
      have hzl : zs.length = cap1 := by simpa using hz
      have hreach := sized_slice hsz (j := 1) (t := 27) (e := 3) rfl rfl Try.underlying27
      rw [show Try.prog.bytesOf 3 = 8 from by kernel_rfl] at hreach
      simp only [lits, List.length_map, List.length_take, List.length_drop, reachBytes] at hreach
      exact ⟨zs.take len1, came_of hl hzl hcell, by omega⟩
  obtain ⟨a2, rfl, rfl, rfl, w2⟩ := open_string Try.underlying9 (hval 2 9 v2 rfl rfl) h2
  clear hA0 hval0
  refine (walk a0 a1 len1 cap1 z1 a2 W w0 w1 s1 w2).mono fun e W' ⟨he, bel⟩ => ?_
  subst he
  exact ⟨_, rfl, _, _, _, [], _, [], hW', trodAll_mk1 (shut_bool Try.underlying4 _), (trodAll_cons_mk (shut_string Try.underlying9 w0) (trodAll_cons_mk (Below.trod laidOut (by kernel_rfl) (of_decide_eq_true (by kernel_rfl)) k1 bel lt1) (trodAll_cons_mk (shut_string Try.underlying9 w2) trodAll_mk0))), rfl, bel.frame _, fun h => by cases h⟩

theorem over : Rows.chipLossRow.holds Try.pinned (OpenSpec.ofChange Rows.chipLossSpec) :=
  OpenClaim.holds_of_wide 7 Try.f7 rfl rfl rfl rfl rfl rfl rfl ⟨rfl, rfl, rfl, rfl, rfl⟩ rfl rfl rfl rfl rfl (by kernel_rfl) Try.func7 (by kernel_rfl)
    (of_decide_eq_true (by kernel_rfl)) (by unfold Func.isWrapper; first | (rw [if_pos (by decide +kernel)]; kernel_rfl) | (rw [if_neg (by decide +kernel)]; exact ⟨rfl, rfl⟩))
    (fun os started H enc _ => lifted os started H enc)

theorem proved : Rows.ChipLossSaid := over
#print axioms proved
end Go.Proofs.Ythhchfldgkgfpaa.chipLoss
