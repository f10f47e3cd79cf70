/-
  ChipBusy: while something is under way nothing is taken but asking, and suspending. No conditions.
-/
import Derived.Test.YthhchfldgkgfpaaRows
import Derived.Test.YthhchfldgkgfpaaAwake
import Derived.Test.YthhchfldgkgfpaaBusy
import Derived.SizedLaws
import Derived.WalkKit
import Derived.ProofKit
import Derived.OpenShut
import Derived.ShutString
import Derived.ChangeOld
import Derived.Below
namespace Go.Proofs.Ythhchfldgkgfpaa.chipBusy
open Go.Proofs.Ythhchfldgkgfpaa.Plain
open Go.ChangeShapes Go.WideShapes Go.ChangeAt Go.RowKit
open Go.ChangeMaps (open_string shut_string)
set_option linter.unusedVariables false

theorem own : ownKnob Try.prog.godebug = none := by kernel_rfl
theorem laidOut : laidOutB Try.prog = true := by kernel_rfl

set_option maxRecDepth 100000 in
set_option maxHeartbeats 400000 in
theorem walk (a0 : Int) (a1 : Option Addr) (len1 cap1 : Nat) (z1 : List Int) (w : World) (w0 : (Lit.int .i64 a0).wf = true) (w1 : Came w a1 len1 cap1 z1) (s1 : len1 * 8 ≤ 140737488351232) :
    Calls Try.prog 6 #[.int .i64 a0, .slice a1 len1 cap1] w fun e w' => e = .returned (.bool true) ∧ Below w.heap.size w w' := by
  have HCm : Hid (Reads w (.slice a1 len1 cap1) z1) := w1.reads
  have HZl : Hid (z1.length = len1) := w1.1
  clear w1
  obtain ⟨o, ho, eo, -⟩ := mask_255 a0
  have HBS := bz_script (wide ⟨#[109]⟩)
  obtain ⟨A, HA⟩ : ∃ A, Hid (wide ⟨#[109]⟩ = A) := ⟨_, rfl⟩
  rw [HA.out] at HBS
  obtain ⟨s1, Hs1⟩ : ∃ s1, Hid ((newSt A).next [400] = s1) := ⟨_, rfl⟩
  have hs1 : s1.sel = false := by rw [← Hs1.out]; rfl
  rw [Hs1.out] at HBS
  obtain ⟨s2, Hs2⟩ : ∃ s2, Hid (s1.say (wordL [6]) = s2) := ⟨_, rfl⟩
  rw [Hs2.out] at HBS
  obtain ⟨s3, Hs3⟩ : ∃ s3, Hid (s2.say (wordL [32, 0, 8, 0]) = s3) := ⟨_, rfl⟩
  rw [Hs3.out] at HBS
  have HZ : Hid (s3.Bz) := HBS.1
  have hs2 : s2.sel = false := HBS.2
  clear HBS
  go_enter Try.func6, Try.ntmps6
  go_wp2_with fail
  refine (awake_any _).mono ?_
  rintro e u1 ⟨rfl, b1⟩
  go_wp2_with fail
  refine (fresh_any 0 _ _ (one_ok 109)).mono ?_
  rintro e v2 ⟨b, rfl, hbb, hl, b2⟩
  rw [HA.out] at hl
  have HR2 := rn_start hl
  have hwb : w.heap.size ≤ b := Nat.le_trans b1.size hbb
  have HB2 : Hid (Below w.heap.size w v2) := below_then b1 b2
  clear hl b1 b2 hbb HA
  go_wp2_with fail
  refine (next_run 0 b _ _ _ _ [400] (rn_below HR2 (below_new _ _)) (lit_reads _ _ [400] 1 rfl rfl) (by decide)).mono ?_
  rintro e v3 ⟨rfl, HR3, o3⟩
  rw [Hs1.out] at HR3
  clear o3 HR2
  go_wp2_with fail
  refine (word_lit _ _ [6] 1 rfl rfl (by decide) (by decide)).mono ?_
  rintro e v4 ⟨a4, c4, rfl, HO4, b4⟩
  go_wp2_with fail
  refine (say_run _ 0 0 b _ _ _ _ 8 _ (rn_below HR3 b4) hs1 HO4 (rn_lt HR3) (wordL_lt _) (by decide) (by decide) rfl).mono ?_
  rintro e v5 ⟨a5, c5, rfl, HO5, HR5, o5⟩
  rw [Hs2.out] at HR5
  clear HO4 HO5 HR3 b4 o5
  go_wp2_with fail
  refine (word_lit _ _ [32, 0, 8, 0] 4 rfl rfl (by decide) (by decide)).mono ?_
  rintro e v6 ⟨a6, c6, rfl, HO6, b6⟩
  go_wp2_with fail
  refine (say_run _ 0 0 b _ _ _ _ 32 _ (rn_below HR5 b6) hs2 HO6 (rn_lt HR5) (wordL_lt _) (by decide) (by decide) rfl).mono ?_
  rintro e v7 ⟨a7, c7, rfl, HO7, HR7, o7⟩
  rw [Hs3.out] at HR7
  have HB7 : Hid (Below w.heap.size w v7) := HB2.out.trans (rn_old HR7 hwb HB2.out.size)
  replace HR7 := rn_again HR7
  have hbv : b < v7.heap.size := rn_lt HR7
  clear HO6 HO7 HR5 b6 o7 HB2 Hs1 Hs2 Hs3 hs1 hs2
  by_cases h7 : o = 117
  · subst h7
    go_wp2
    go_ret
    exact ⟨rfl, HB7.out⟩
  · have d7 : ((o : Int) == 117) = false := by simp; omega
    obtain ⟨i0, hi, hz0, hz1, hz2⟩ := info_parts info3
    go_wp2_with fail
    have HO8 : Hid (Owns v7.heap.size (v7.alloc (.cells #[.int .i64 (o : Int)] 3)) (.slice (some ⟨v7.heap.size, 0, none⟩) 1 1) (nums [o])) := Owns.lit (nums [o]) 1 _ rfl rfl (by unfold maxLen; omega)
    have HR8 : Hid (Run 0 b v7 (v7.alloc (.cells #[.int .i64 (o : Int)] 3)) s3) := rn_below HR7 (below_new _ _)
    clear HR7
    go_loopw [7, 8] (fun v i wr => ∃ (j : Nat) (N : List Nat), j ≤ len1 ∧ j ≤ 4 ∧ i = .int .i64 j ∧ Hid (Owns v7.heap.size wr v (nums (o :: N))) ∧ Hid (N.length = j ∧ ∀ x ∈ N, x < 256) ∧ Hid (Run 0 b v7 wr s3)) (fun _ i _ => (len1 - intOf i).toNat)
    case atStart => exact ⟨0, [], by omega, by omega, rfl, HO8, ⟨rfl, by simp⟩, HR8⟩
    case round =>
      obtain ⟨j, N, hj1, hj2, rfl, HO, HN, HR⟩ := hrel
      by_cases hlt : j < len1 ∧ j < 4
      · obtain ⟨hlt1, hlt2⟩ := hlt
        obtain ⟨x, Hx⟩ : ∃ x, Hid (z1.getD j 0 = x) := ⟨_, rfl⟩
        obtain ⟨y, hy, ey, -⟩ := mask_255 x
        obtain ⟨c0, cap, e0, hread⟩ := HCm.out
        rw [HZl.out] at hread
        obtain ⟨ga, oa, e1, hcell⟩ := hread (by omega)
        simp only [Value.slice.injEq] at e0
        obtain ⟨rfl, -, rfl⟩ := e0
        subst e1
        have hwv : Below w.heap.size w wr := HB7.out.trans (rn_old HR hwb HB7.out.size)
        have ca : wr.cell? ⟨ga, oa + j, none⟩ = some (.int .i64 x) := by rw [← Hx.out, hwv.cell (cell_lt (hcell j hlt1))]; exact hcell j hlt1
        clear hread hcell HCm HZl Hx eo d7 hwv
        have hM : wr.ownsRow v7.heap.size 3 1 u7 (nums (o :: N)).length ((nums (o :: N)).map (Value.int .i64)) := HO.out
        have hMl : (nums (o :: N)).length ≤ 50000 := by rw [nums_length, List.length_cons, HN.out.1]; omega
        have hsz : v7.heap.size ≤ wr.heap.size := HR.out.only.size
        clear HO
        go_wp2_with (at_builtin; refine wpList_append_lies _ rfl _ _ 27 rfl v7.heap.size 3 i0 (.int .i64 0) 1 8 Try.underlying27 hi hz0 hz1 hz2 rfl (by decide) _ _ _ rfl (hM.alloc _) ⟨wr.heap.size, 0, none⟩ 1 1 [.int .i64 (y : Int)] rfl rfl ?c1 ?c2 (by decide) ?c3 ?c4 ?c5 (wr.heap.size + 1) (by simp) ?_)
        case c1 =>
          intro j u hj
          match j, hj with
          | 0, hj => simp at hj; subst hj; simp [Addr.add]
        case c2 => intro u hu; simp at hu; subst hu; rfl
        case c3 => unfold maxLen; omega
        case c4 => omega
        case c5 => simp; omega
        intro g2 cap2 w3 hown hgrow hat hlt2'
        have HO3 : Hid (Owns v7.heap.size w3 (.slice (some ⟨g2, 0, none⟩) ((nums (o :: N)).length + 1) cap2) (nums (o :: (N ++ [y])))) := by
          show w3.ownsRow _ _ _ _ (nums ((o :: N) ++ [y])).length ((nums ((o :: N) ++ [y])).map (Value.int .i64))
          rw [nums_append, List.map_append, List.length_append]; exact hown
        have HBl : Below v7.heap.size wr w3 := ((Below.refl _ wr).alloc hsz _).grown hgrow (by simp; omega) fun k hk => (hM.lt k hk).1
        have HR3 := rn_grow HR HZ.out.durs hbv HBl
        have HN3 : Hid ((N ++ [y]).length = j + 1 ∧ ∀ x ∈ N ++ [y], x < 256) := ⟨by rw [List.length_append, HN.out.1]; rfl, app_lt HN.out.2 (by intro x hx; simp at hx; omega)⟩
        clear hown hgrow hat hlt2' hM hsz hMl HBl ca
        go_wp2
        go_roundw
        case rel =>
          exact ⟨j + 1, N ++ [y], by omega, by omega, by go_num, HO3, HN3, HR3⟩
        case measure => simp [intOf]; omega
      · rcases (by omega : ¬ j < len1 ∨ (j < len1 ∧ ¬ j < 4)) with hq | hq
        · have d1 : decide ((j : Int) < (len1 : Int)) = false := decide_eq_false (by omega)
          obtain ⟨K, HK⟩ : ∃ K, Hid (8 * (o :: N).length + 16 = K) := ⟨_, rfl⟩
          have hK : 24 ≤ K ∧ K ≤ 56 := by have h1 := HK.out; rw [List.length_cons, HN.out.1] at h1; omega
          have hK1 := hK.1
          have hK2 := hK.2
          have hMl : (o :: N).length ≤ 5 := by rw [List.length_cons, HN.out.1]; omega
          have HMb : Hid (∀ x ∈ o :: N, x < 256) := by
            intro x hx
            rcases List.mem_cons.1 hx with rfl | hx
            · exact ho
            · exact HN.out.2 x hx
          have HX : Hid (wordL (o :: N) ++ List.replicate 16 15 = bitsOf o ++ (wordL N ++ List.replicate 16 15)) := by rw [Hid, wordL_cons, List.append_assoc]
          have HRl : Hid (8 + (wordL N ++ List.replicate 16 15).length = K) := by
            have h1 := HK.out
            rw [Hid, List.length_append, List.length_replicate, wordL_length]
            rw [List.length_cons] at h1
            omega
          have HXl : Hid ((wordL (o :: N) ++ List.replicate 16 15).length = K) := by rw [Hid, List.length_append, List.length_replicate, wordL_length]; exact HK.out
          have HS := bz_say HZ.out o ho h7 (wordL N ++ List.replicate 16 15) (by rw [HRl.out]; omega)
          rw [← HX.out] at HS
          have HF1 : Hid ((s3.say (wordL (o :: N) ++ List.replicate 16 15)).first = 3) := HS.1
          have HF2 : Hid ((s3.say (wordL (o :: N) ++ List.replicate 16 15)).second = 0) := HS.2
          have hs3 : s3.sel = false := HZ.out.idle.sel
          clear HS hK hi hz0 hz1 hz2 hj1 hj2 HCm HZl
          go_wp2_with fail
          refine (word_any _ (o :: N) _ HO.out.reads (by omega) HMb.out).mono ?_
          rintro e x1 ⟨ax, cx, rfl, HOx, bx⟩
          go_wp2_with fail
          refine (quiet_on _ _ _ 16 K _ HOx (Nat.le_trans (Nat.le_refl _) bx.size) (by rw [wordL_length, List.length_cons]; omega) (by rw [wordL_length]; omega) (by decide) (by rw [wordL_length]; exact HK.out)).mono ?_
          rintro e x2 ⟨ay, cy, rfl, HOy, by2⟩
          go_wp2_with fail
          refine (say_run _ 0 0 b _ _ _ _ K _ (rn_below (rn_below HR bx) by2) hs3 HOy (rn_lt HR) (app_lt (wordL_lt _) (rep_lt (by decide))) (by rw [HXl.out]; omega) (by decide) HXl.out).mono ?_
          rintro e x3 ⟨az, cz, rfl, HOz, HRz, oz⟩
          have hLl : (s3.hears (wordL (o :: N) ++ List.replicate 16 15)).length = K := (run_length _ _).trans HXl.out
          obtain ⟨gz, rfl, hcz⟩ := owns_some HOz (by rw [nums_length, hLl]) (by omega)
          clear HO HOx HOy bx by2 oz HMb
          go_wp2_with fail
          refine (status_run 0 b _ _ _ 3 0 HRz HF1.out HF2.out).mono ?_
          rintro e x4 ⟨rfl, HR4, b4⟩
          have HOz4 := owns_below HOz b4
          have HB4 : Hid (Below w.heap.size w x4) := HB7.out.trans (rn_old HR4 hwb HB7.out.size)
          clear HOz HRz HR4 b4 HB7 HR HR8 HO8
          by_cases h5 : o = 5 ∨ o = 53
          · have HT : Hid (x4.cell? ⟨gz, 8, none⟩ = some (.int .i64 13)) := by
              obtain ⟨x, R, hxR⟩ : ∃ x R, wordL N ++ List.replicate 16 15 = x :: R := by
                cases hc : wordL N ++ List.replicate 16 15 with
                | nil => have h1 := HRl.out; rw [hc] at h1; simp at h1; omega
                | cons x R => exact ⟨x, R, rfl⟩
              obtain ⟨L, hL⟩ := bz_tells HZ.out o h5 x R
              rw [← hxR, ← HX.out] at hL
              rw [Hid, owns_cell HOz4 8 (by rw [hLl]; omega), hL]
              rfl
            clear HOz4 HX HRl HXl HF1 HF2 HN HZ HK
            go_wp2_with fail
            go_loopw [12, 13] (fun v i wr => ∃ t : Nat, 8 ≤ t ∧ t ≤ K ∧ i = .int .i64 t ∧ v = .bool (decide (8 < t)) ∧ Hid (Below x4.heap.size x4 wr)) (fun _ i _ => (K - intOf i).toNat)
            case atStart => exact ⟨8, by omega, by omega, rfl, rfl, Below.refl _ _⟩
            case round =>
              obtain ⟨t, ht1, ht2, rfl, rfl, HW⟩ := hrel
              by_cases hlt : t < K
              · by_cases h8 : t = 8
                · subst h8
                  have ck : wr.cell? ⟨gz, 8, none⟩ = some (.int .i64 13) := by rw [HW.out.cell (cell_lt HT.out)]; exact HT.out
                  rw [show decide (8 < 8) = false from rfl]
                  go_wp2
                  go_roundw
                  case rel => exact ⟨9, by omega, by omega, by go_num, by rfl, by first | exact HW | exact HW.out.drew⟩
                  case measure => simp [intOf]; omega
                · rw [decide_eq_true (show 8 < t by omega)]
                  go_wp2
                  go_roundw
                  case rel => exact ⟨t + 1, by omega, by omega, by go_num, by rw [decide_eq_true (show 8 < t + 1 by omega)], by first | exact HW | exact HW.out.drew⟩
                  case measure => simp [intOf]; omega
              · rw [decide_eq_true (show 8 < t by omega)]
                rcases h5 with rfl | rfl
                · go_wp2
                  go_ret
                  exact ⟨rfl, below_then HB4.out HW.out⟩
                · go_wp2
                  go_ret
                  exact ⟨rfl, below_then HB4.out HW.out⟩
          · have HT : Hid (∀ t, t < K → x4.cell? ⟨gz, t, none⟩ = some (.int .i64 15)) := fun t ht => by
              rw [owns_cell HOz4 t (by rw [hLl]; exact ht), HX.out, bz_none HZ.out o ho h7 h5, HRl.out, List.getD_eq_getElem?_getD, List.getElem?_replicate, if_pos ht]; rfl
            have d5 : ((o : Int) == 5) = false := by simp; omega
            have d53 : ((o : Int) == 53) = false := by simp; omega
            clear HOz4 HX HRl HXl HF1 HF2 HN HZ HK h5
            go_wp2_with fail
            go_loopw [12, 13] (fun v i wr => ∃ t : Nat, 8 ≤ t ∧ t ≤ K ∧ i = .int .i64 t ∧ v = .bool false ∧ Hid (Below x4.heap.size x4 wr)) (fun _ i _ => (K - intOf i).toNat)
            case atStart => exact ⟨8, by omega, by omega, rfl, rfl, Below.refl _ _⟩
            case round =>
              obtain ⟨t, ht1, ht2, rfl, rfl, HW⟩ := hrel
              by_cases hlt : t < K
              · have ck : wr.cell? ⟨gz, t, none⟩ = some (.int .i64 15) := by rw [HW.out.cell (cell_lt (HT.out t hlt))]; exact HT.out t hlt
                go_wp2
                go_roundw
                case rel => exact ⟨t + 1, by omega, by omega, by go_num, by rfl, by first | exact HW | exact HW.out.drew⟩
                case measure => simp [intOf]; omega
              · go_wp2
                go_ret
                exact ⟨rfl, below_then HB4.out HW.out⟩
        · have d1 : decide ((j : Int) < (len1 : Int)) = true := decide_eq_true (by omega)
          have d2 : decide ((j : Int) < 4) = false := decide_eq_false (by omega)
          obtain ⟨K, HK⟩ : ∃ K, Hid (8 * (o :: N).length + 16 = K) := ⟨_, rfl⟩
          have hK : 24 ≤ K ∧ K ≤ 56 := by have h1 := HK.out; rw [List.length_cons, HN.out.1] at h1; omega
          have hK1 := hK.1
          have hK2 := hK.2
          have hMl : (o :: N).length ≤ 5 := by rw [List.length_cons, HN.out.1]; omega
          have HMb : Hid (∀ x ∈ o :: N, x < 256) := by
            intro x hx
            rcases List.mem_cons.1 hx with rfl | hx
            · exact ho
            · exact HN.out.2 x hx
          have HX : Hid (wordL (o :: N) ++ List.replicate 16 15 = bitsOf o ++ (wordL N ++ List.replicate 16 15)) := by rw [Hid, wordL_cons, List.append_assoc]
          have HRl : Hid (8 + (wordL N ++ List.replicate 16 15).length = K) := by
            have h1 := HK.out
            rw [Hid, List.length_append, List.length_replicate, wordL_length]
            rw [List.length_cons] at h1
            omega
          have HXl : Hid ((wordL (o :: N) ++ List.replicate 16 15).length = K) := by rw [Hid, List.length_append, List.length_replicate, wordL_length]; exact HK.out
          have HS := bz_say HZ.out o ho h7 (wordL N ++ List.replicate 16 15) (by rw [HRl.out]; omega)
          rw [← HX.out] at HS
          have HF1 : Hid ((s3.say (wordL (o :: N) ++ List.replicate 16 15)).first = 3) := HS.1
          have HF2 : Hid ((s3.say (wordL (o :: N) ++ List.replicate 16 15)).second = 0) := HS.2
          have hs3 : s3.sel = false := HZ.out.idle.sel
          clear HS hK hi hz0 hz1 hz2 hj1 hj2 HCm HZl
          go_wp2_with fail
          refine (word_any _ (o :: N) _ HO.out.reads (by omega) HMb.out).mono ?_
          rintro e x1 ⟨ax, cx, rfl, HOx, bx⟩
          go_wp2_with fail
          refine (quiet_on _ _ _ 16 K _ HOx (Nat.le_trans (Nat.le_refl _) bx.size) (by rw [wordL_length, List.length_cons]; omega) (by rw [wordL_length]; omega) (by decide) (by rw [wordL_length]; exact HK.out)).mono ?_
          rintro e x2 ⟨ay, cy, rfl, HOy, by2⟩
          go_wp2_with fail
          refine (say_run _ 0 0 b _ _ _ _ K _ (rn_below (rn_below HR bx) by2) hs3 HOy (rn_lt HR) (app_lt (wordL_lt _) (rep_lt (by decide))) (by rw [HXl.out]; omega) (by decide) HXl.out).mono ?_
          rintro e x3 ⟨az, cz, rfl, HOz, HRz, oz⟩
          have hLl : (s3.hears (wordL (o :: N) ++ List.replicate 16 15)).length = K := (run_length _ _).trans HXl.out
          obtain ⟨gz, rfl, hcz⟩ := owns_some HOz (by rw [nums_length, hLl]) (by omega)
          clear HO HOx HOy bx by2 oz HMb
          go_wp2_with fail
          refine (status_run 0 b _ _ _ 3 0 HRz HF1.out HF2.out).mono ?_
          rintro e x4 ⟨rfl, HR4, b4⟩
          have HOz4 := owns_below HOz b4
          have HB4 : Hid (Below w.heap.size w x4) := HB7.out.trans (rn_old HR4 hwb HB7.out.size)
          clear HOz HRz HR4 b4 HB7 HR HR8 HO8
          by_cases h5 : o = 5 ∨ o = 53
          · have HT : Hid (x4.cell? ⟨gz, 8, none⟩ = some (.int .i64 13)) := by
              obtain ⟨x, R, hxR⟩ : ∃ x R, wordL N ++ List.replicate 16 15 = x :: R := by
                cases hc : wordL N ++ List.replicate 16 15 with
                | nil => have h1 := HRl.out; rw [hc] at h1; simp at h1; omega
                | cons x R => exact ⟨x, R, rfl⟩
              obtain ⟨L, hL⟩ := bz_tells HZ.out o h5 x R
              rw [← hxR, ← HX.out] at hL
              rw [Hid, owns_cell HOz4 8 (by rw [hLl]; omega), hL]
              rfl
            clear HOz4 HX HRl HXl HF1 HF2 HN HZ HK
            go_wp2_with fail
            go_loopw [12, 13] (fun v i wr => ∃ t : Nat, 8 ≤ t ∧ t ≤ K ∧ i = .int .i64 t ∧ v = .bool (decide (8 < t)) ∧ Hid (Below x4.heap.size x4 wr)) (fun _ i _ => (K - intOf i).toNat)
            case atStart => exact ⟨8, by omega, by omega, rfl, rfl, Below.refl _ _⟩
            case round =>
              obtain ⟨t, ht1, ht2, rfl, rfl, HW⟩ := hrel
              by_cases hlt : t < K
              · by_cases h8 : t = 8
                · subst h8
                  have ck : wr.cell? ⟨gz, 8, none⟩ = some (.int .i64 13) := by rw [HW.out.cell (cell_lt HT.out)]; exact HT.out
                  rw [show decide (8 < 8) = false from rfl]
                  go_wp2
                  go_roundw
                  case rel => exact ⟨9, by omega, by omega, by go_num, by rfl, by first | exact HW | exact HW.out.drew⟩
                  case measure => simp [intOf]; omega
                · rw [decide_eq_true (show 8 < t by omega)]
                  go_wp2
                  go_roundw
                  case rel => exact ⟨t + 1, by omega, by omega, by go_num, by rw [decide_eq_true (show 8 < t + 1 by omega)], by first | exact HW | exact HW.out.drew⟩
                  case measure => simp [intOf]; omega
              · rw [decide_eq_true (show 8 < t by omega)]
                rcases h5 with rfl | rfl
                · go_wp2
                  go_ret
                  exact ⟨rfl, below_then HB4.out HW.out⟩
                · go_wp2
                  go_ret
                  exact ⟨rfl, below_then HB4.out HW.out⟩
          · have HT : Hid (∀ t, t < K → x4.cell? ⟨gz, t, none⟩ = some (.int .i64 15)) := fun t ht => by
              rw [owns_cell HOz4 t (by rw [hLl]; exact ht), HX.out, bz_none HZ.out o ho h7 h5, HRl.out, List.getD_eq_getElem?_getD, List.getElem?_replicate, if_pos ht]; rfl
            have d5 : ((o : Int) == 5) = false := by simp; omega
            have d53 : ((o : Int) == 53) = false := by simp; omega
            clear HOz4 HX HRl HXl HF1 HF2 HN HZ HK h5
            go_wp2_with fail
            go_loopw [12, 13] (fun v i wr => ∃ t : Nat, 8 ≤ t ∧ t ≤ K ∧ i = .int .i64 t ∧ v = .bool false ∧ Hid (Below x4.heap.size x4 wr)) (fun _ i _ => (K - intOf i).toNat)
            case atStart => exact ⟨8, by omega, by omega, rfl, rfl, Below.refl _ _⟩
            case round =>
              obtain ⟨t, ht1, ht2, rfl, rfl, HW⟩ := hrel
              by_cases hlt : t < K
              · have ck : wr.cell? ⟨gz, t, none⟩ = some (.int .i64 15) := by rw [HW.out.cell (cell_lt (HT.out t hlt))]; exact HT.out t hlt
                go_wp2
                go_roundw
                case rel => exact ⟨t + 1, by omega, by omega, by go_num, by rfl, by first | exact HW | exact HW.out.drew⟩
                case measure => simp [intOf]; omega
              · go_wp2
                go_ret
                exact ⟨rfl, below_then HB4.out HW.out⟩

set_option maxRecDepth 100000 in
theorem lifted (os : Os) (started : os.Started) (H : Type) (enc : TypeId × Value → H) :
    ReturnsInHanded {} Try.checked os 6 .any (Rows.chipBusySpec.pre6 enc Try.prog Try.f6 Rows.chipBusyRow.domain false) (Rows.chipBusySpec.post enc Try.prog Try.f6 false true false false) := by
  refine returnsInHanded_of_change_sized (C := Try.checked) own started (by kernel_rfl) Try.func6
    (ChangeSpec.witness6 (enc := enc) (C := Try.checked) false ⟨#[], #[.int .i64 0, .slice none 0 0], []⟩ 8 (by kernel_rfl) (by kernel_rfl) (by kernel_rfl) (by kernel_rfl)) ?_
  intro W base args ds gs before hval0 hW hcnd hsz0 _
  have hsz : (DataW.weightsEach Try.prog (Try.f6.params.toList ++ Rows.chipBusySpec.plain.varTypes Try.prog) (ds ++ gs)).all (· ≤ reachBytes) = true := hsz0
  clear hsz0
  have hval : ∀ (j : Nat) t v, Try.f6.params[j]? = some t → args[j]? = some v → Value.okWide Try.prog W .any base t v := hval0
  have hW' := hW
  obtain ⟨p, q, hA0, hV, rfl, hfz, hnd⟩ := hW
  have hA : DataW.TrodAll enc Try.prog W 0 (fun _ => true) true Try.f6.params.toList args.toList ds p := hA0
  rw [Try.params6] at hA hval hsz
  obtain ⟨v0, vs0, d0, ds0, p0, q0, hargs, rfl, rfl, h0, r0⟩ := trodAll_cons hA
  obtain ⟨v1, vs1, d1, ds1, p1, q1, rfl, rfl, rfl, h1, r1⟩ := trodAll_cons r0
  obtain ⟨rfl, rfl, rfl⟩ := trodAll_nil r1
  obtain rfl : args = #[v0, v1] := by cases args; simp_all
  obtain ⟨rfl, rfl⟩ := trodVars_none hV
  obtain ⟨a0, rfl, rfl, rfl, w0⟩ := open_int Try.underlying3 (hval 0 3 v0 rfl rfl) h0
  obtain ⟨a1, len1, cap1, rfl⟩ := okWide_slice Try.underlying27 (hval 1 27 v1 rfl rfl)
  have k1 := h1
  have lt1 : ∀ x ∈ p1, x.block < W.heap.size := by obtain ⟨m, hm⟩ := k1; exact DataW.trod_lt m _ _ _ hm
  obtain ⟨z1, w1, s1⟩ : ∃ zs, Came W a1 len1 cap1 zs ∧ len1 * 8 ≤ 140737488351232 := by
    obtain ⟨fuel, hf⟩ := h1
    rcases open_ints Try.underlying27 Try.underlying3 (by kernel_rfl) hf with ⟨hcs, _⟩ | ⟨x, l, c, zs, hcs, _, hl, hm, hz, hx, hcell, hwz⟩
    · simp [Value.cells] at hcs
      obtain ⟨rfl, rfl, rfl⟩ := hcs
      exact ⟨[], ⟨rfl, .inl ⟨rfl, rfl, rfl⟩⟩, by omega⟩
    · simp [Value.cells] at hcs
      obtain ⟨rfl, rfl, rfl⟩ := hcs
      simp only [Prod.mk.injEq] at hx
      obtain ⟨rfl, -⟩ := hx
      have hzl : zs.length = cap1 := by simpa using hz
      have hreach := sized_slice hsz (j := 1) (t := 27) (e := 3) rfl rfl Try.underlying27
      rw [show Try.prog.bytesOf 3 = 8 from by kernel_rfl] at hreach
      simp only [lits, List.length_map, List.length_take, List.length_drop, reachBytes] at hreach
      exact ⟨zs.take len1, came_of hl hzl hcell, by omega⟩
  clear hA0 hval0
  refine (walk a0 a1 len1 cap1 z1 W w0 w1 s1).mono fun e W' ⟨he, bel⟩ => ?_
  subst he
  exact ⟨_, rfl, _, _, _, [], _, [], hW', trodAll_mk1 (shut_bool Try.underlying4 _), (trodAll_cons_mk (shut_int Try.underlying3 w0) (trodAll_cons_mk (Below.trod laidOut (by kernel_rfl) (of_decide_eq_true (by kernel_rfl)) k1 bel lt1) trodAll_mk0)), rfl, bel.frame _, fun h => by cases h⟩

theorem over : Rows.chipBusyRow.holds Try.pinned (OpenSpec.ofChange Rows.chipBusySpec) :=
  OpenClaim.holds_of_wide 6 Try.f6 rfl rfl rfl rfl rfl rfl rfl ⟨rfl, rfl, rfl, rfl, rfl⟩ rfl rfl rfl rfl rfl (by kernel_rfl) Try.func6 (by kernel_rfl)
    (of_decide_eq_true (by kernel_rfl)) (by unfold Func.isWrapper; first | (rw [if_pos (by decide +kernel)]; kernel_rfl) | (rw [if_neg (by decide +kernel)]; exact ⟨rfl, rfl⟩))
    (fun os started H enc _ => lifted os started H enc)

theorem proved : Rows.ChipBusySaid := over
#print axioms proved
end Go.Proofs.Ythhchfldgkgfpaa.chipBusy
