/-
  ChipGuards: without being enabled, of a protected sector, in part, with a clock too many: nothing is programmed, or erased. No conditions.
-/
import Derived.Test.YthhchfldgkgfpaaRows
import Derived.Test.YthhchfldgkgfpaaAwake
import Derived.Test.YthhchfldgkgfpaaGuard
import Derived.WalkKit
import Derived.ProofKit
import Derived.OpenShut
import Derived.ShutString
import Derived.ChangeOld
import Derived.Below
namespace Go.Proofs.Ythhchfldgkgfpaa.chipGuards
open Go.Proofs.Ythhchfldgkgfpaa.Plain
open Go.ChangeShapes Go.WideShapes Go.ChangeAt Go.RowKit
open Go.ChangeMaps (open_string shut_string)
set_option linter.unusedVariables false

theorem own : ownKnob Try.prog.godebug = none := by kernel_rfl
theorem laidOut : laidOutB Try.prog = true := by kernel_rfl

set_option maxRecDepth 100000 in
set_option maxHeartbeats 10000000 in
theorem walk (a0 : Int) (a1 : Int) (w : World) (w0 : (Lit.int .i64 a0).wf = true) (w1 : (Lit.int .i64 a1).wf = true) :
    Calls Try.prog 5 #[.int .i64 a0, .int .i64 a1] w fun e w' => e = .returned (.bool true) ∧ Below w.heap.size w w' := by
  obtain ⟨W, hW, eW⟩ : ∃ W : Nat, W < 9 ∧ (IntKind.u64.wrap a0).tmod 9 = (W : Int) := by
    have h0 : 0 ≤ IntKind.u64.wrap a0 := by rw [IntKind.wrap_u64]; omega
    obtain ⟨u, hu⟩ := Int.eq_ofNat_of_zero_le h0
    exact ⟨u % 9, Nat.mod_lt _ (by decide), by rw [hu]; rfl⟩
  obtain ⟨k, hk, ek⟩ := umod a1 2048 (by omega) (by omega)
  have ek : wrap64 ((IntKind.u64.wrap a1).tmod 2048) = (k : Int) := ek
  have h255 : bits .and .i64 (k : Int) 255 = ((k % 256 : Nat) : Int) := by rw [and_255]; omega
  obtain ⟨A, HA⟩ : ∃ A, Hid (wide ⟨#[113]⟩ = A) := ⟨_, rfl⟩
  have hA : A.size = 4096 := by rw [← HA.out]; exact wide_size _
  go_enter Try.func5, Try.ntmps5
  go_wp2_with fail
  refine (awake_any _).mono ?_
  rintro e u1 ⟨rfl, b1⟩
  go_wp2_with fail
  refine (fresh_any 0 _ _ (one_ok 113)).mono ?_
  rintro e w2 ⟨b, rfl, hbb, hl, b2⟩
  rw [HA.out] at hl
  have HR2 := rn_start hl
  have hwb : w.heap.size ≤ b := Nat.le_trans b1.size hbb
  have HB2 : Hid (Below w.heap.size w w2) := below_then b1 b2
  clear hl b1 b2 hbb HA
  go_wp2_with fail
  refine (cells_run 0 b _ _ _ A HR2 rfl).mono ?_
  rintro e w' ⟨rfl, rfl⟩
  go_wp2_with fail
  refine (word_lit _ _ [6] 1 rfl rfl (by decide) (by decide)).mono ?_
  rintro e w3 ⟨a3, c3, rfl, HOe, b3⟩
  go_wp2_with fail
  refine (word_lit _ _ [32, 0, k / 256, k % 256] 4 (by simp [nums]) rfl (by decide) (by intro x hx; simp at hx; omega)).mono ?_
  rintro e w4 ⟨a4, c4, rfl, HOr, b4⟩
  go_wp2_with fail
  refine (word_lit _ _ [2, 0, k / 256, k % 256, 0] 5 (by simp [nums]) rfl (by decide) (by intro x hx; simp at hx; omega)).mono ?_
  rintro e w5 ⟨a5, c5, rfl, HOp, b5⟩
  have hb2 : b < w2.heap.size := rn_lt HR2
  have HR5 := rn_below (rn_below (rn_below HR2 b3) b4) b5
  replace HOe := owns_below (owns_below HOe b4) b5
  replace HOr := owns_below HOr b5
  have hb3 : b < w3.heap.size := Nat.lt_of_lt_of_le hb2 b3.size
  have hb4 : b < w4.heap.size := Nat.lt_of_lt_of_le hb3 b4.size
  obtain ⟨gr, rfl, hcr⟩ := owns_some HOr (by rw [nums_length, wordL_length]; rfl) (by decide)
  obtain ⟨gp, rfl, hcp⟩ := owns_some HOp (by rw [nums_length, wordL_length]; rfl) (by decide)
  obtain ⟨ge, rfl, hce⟩ := owns_some HOe (by rw [nums_length, wordL_length]; rfl) (by decide)
  have hgr : b < gr := Nat.lt_of_lt_of_le hb3 (owns_owned HOr (by rw [nums_length, wordL_length]; rfl) (by decide))
  have hgp : b < gp := Nat.lt_of_lt_of_le hb4 (owns_owned HOp (by rw [nums_length, wordL_length]; rfl) (by decide))
  clear b3 b4 b5 HR2
  obtain ⟨i0, hi, hz0, hz1, hz2⟩ := info_parts info3
  have hr0 : (newSt A).Rest := rest_new A
  obtain ⟨sE, HsE⟩ : ∃ sE : St, Hid (({ newSt A with en := true } : St) = sE) := ⟨_, rfl⟩
  have HE : Hid ((newSt A).say (wordL [6]) = sE) := by rw [← HsE.out]; exact say_enable hr0
  have hE : sE.Rest := by rw [← HsE.out]; exact rest_en hr0 true
  have hEe : Hid (sE.en = true) := by rw [← HsE.out]; rfl
  have HEc : Hid (sE.Calm A) := by rw [← HsE.out]; exact calm_en (calm_new A) true
  clear HsE
  rcases (by omega : W = 0 ∨ W = 1 ∨ W = 2 ∨ W = 3 ∨ W = 4 ∨ W = 5 ∨ W = 6 ∨ W = 7 ∨ W = 8) with rfl | rfl | rfl | rfl | rfl | rfl | rfl | rfl | rfl
  · go_wp2_with fail
    refine (say_run _ 0 0 b _ _ _ _ 32 _ HR5 hr0.idle.sel HOr hb3 (wordL_lt _) (by simp [wordL_length]) (by decide) (by rw [wordL_length]; rfl)).mono ?_
    rintro e v1 ⟨_, _, rfl, _, HR, o1⟩
    replace HOe := owns_only HOe o1 hb2
    replace HOr := owns_only HOr o1 hb3
    replace HOp := owns_only HOp o1 hb4
    clear o1
    rw [say_erase hr0 k (by omega), begin_off rfl] at HR
    obtain ⟨s, Hs⟩ : ∃ s, Hid (newSt A = s) := ⟨_, rfl⟩
    rw [Hs.out] at HR
    have HC : Hid (s.Calm A) := by rw [← Hs.out]; exact calm_new A
    clear HOe HOr HOp HE hE hEe HEc hr0 hi hz0 hz1 hz2 hcr hcp hce hgr hgp hb2 hb3 hb4 HR5 h255 ek
    go_wp2_with fail
    go_loopw [13] (fun i wr => ∃ j : Nat, j ≤ 20 ∧ i = .int .i64 j ∧ Hid (Run 0 b w2 wr s)) (fun i _ => (20 - intOf i).toNat)
    case atStart => exact ⟨0, by omega, rfl, HR⟩
    case round =>
      obtain ⟨j, hj, rfl, HRj⟩ := hrel
      by_cases hlt : j < 20
      · go_wp2_with fail
        refine (clock_run 0 b _ _ _ 15 HRj HC.out.rest.idle.sel (by decide) (by decide)).mono ?_
        rintro e v2 ⟨rfl, HRk, ok⟩
        rw [countDown_idle (rest_busy HC.out.rest)] at HRk
        go_wp2_with fail
        go_roundw
        case rel => exact ⟨j + 1, by omega, by go_num, HRk⟩
        case measure => simp [intOf]; omega
      · go_wp2_with fail
        refine (status_run 0 b _ _ s s.first s.second HRj rfl rfl).mono ?_
        rintro e v2 ⟨rfl, HRk, bk⟩
        have hbit : bits .and .i64 (s.first : Int) 1 = 0 := by rw [and_1]; have := calm_first HC.out; omega
        have HRd : Hid (Run 0 b w2 v2.drew s) := rn_below HRk ((Below.refl _ _).drew)
        have HBd : Hid (Below w.heap.size w v2.drew) := HB2.out.trans (rn_old HRd hwb HB2.out.size)
        obtain ⟨cs, hmk, Hcs⟩ := make8
        have HRa : Hid (Run 0 b w2 (v2.alloc (.cells cs 3)).drew s) := rn_below HRk ((below_new _ _).drew)
        have HBa : Hid (Below w.heap.size w (v2.alloc (.cells cs 3)).drew) := HB2.out.trans (rn_old HRa hwb HB2.out.size)
        clear HRk HRj bk HR
        go_wp2_with fail
        go_region_held3 (fun _ => True) (trivial) (first | (go_at_call 14; refine (cells_run 0 b w2 _ s A (by first | exact HRd | exact HRa) HC.out.A).mono ?_; rintro e w' ⟨rfl, rfl⟩) | (go_at_call 23; refine (wipes_at b s w2 _ (by first | exact HRd | exact HRa)).mono ?_; rintro e v3 ⟨a9, c9, rfl, HO9, b9⟩) | (go_at_call 22; refine (same8 _ _ s A _ HC (by first | exact HO9.out | exact HO9.out.below (below_new _ _)) (by first | exact (reads_lit (w := (v2.alloc (.cells cs 3)).drew) _ (heap_alloc_new v2 _) Hcs.out rfl 8).below b9 | exact reads_lit _ (heap_alloc_new _ _) Hcs.out rfl 8)).mono ?_; rintro e v4 ⟨rfl, b4⟩))
        all_goals go_wp2
        all_goals go_ret
        all_goals first | exact ⟨rfl, below_then (below_then (below_then HBd.out b9) (below_new _ _)) b4⟩ | exact ⟨rfl, below_then (below_then HBa.out b9) b4⟩
  · go_wp2_with fail
    refine (say_run _ 0 0 b _ _ _ _ 40 _ HR5 hr0.idle.sel HOp hb4 (wordL_lt _) (by simp [wordL_length]) (by decide) (by rw [wordL_length]; rfl)).mono ?_
    rintro e v1 ⟨_, _, rfl, _, HR, o1⟩
    replace HOe := owns_only HOe o1 hb2
    replace HOr := owns_only HOr o1 hb3
    replace HOp := owns_only HOp o1 hb4
    clear o1
    rw [say_program_off hr0 rfl k (by omega) [0] (by intro x hx; simp at hx; omega)] at HR
    obtain ⟨s, Hs⟩ : ∃ s, Hid (newSt A = s) := ⟨_, rfl⟩
    rw [Hs.out] at HR
    have HC : Hid (s.Calm A) := by rw [← Hs.out]; exact calm_new A
    clear HOe HOr HOp HE hE hEe HEc hr0 hi hz0 hz1 hz2 hcr hcp hce hgr hgp hb2 hb3 hb4 HR5 h255 ek
    go_wp2_with fail
    go_loopw [13] (fun i wr => ∃ j : Nat, j ≤ 20 ∧ i = .int .i64 j ∧ Hid (Run 0 b w2 wr s)) (fun i _ => (20 - intOf i).toNat)
    case atStart => exact ⟨0, by omega, rfl, HR⟩
    case round =>
      obtain ⟨j, hj, rfl, HRj⟩ := hrel
      by_cases hlt : j < 20
      · go_wp2_with fail
        refine (clock_run 0 b _ _ _ 15 HRj HC.out.rest.idle.sel (by decide) (by decide)).mono ?_
        rintro e v2 ⟨rfl, HRk, ok⟩
        rw [countDown_idle (rest_busy HC.out.rest)] at HRk
        go_wp2_with fail
        go_roundw
        case rel => exact ⟨j + 1, by omega, by go_num, HRk⟩
        case measure => simp [intOf]; omega
      · go_wp2_with fail
        refine (status_run 0 b _ _ s s.first s.second HRj rfl rfl).mono ?_
        rintro e v2 ⟨rfl, HRk, bk⟩
        have hbit : bits .and .i64 (s.first : Int) 1 = 0 := by rw [and_1]; have := calm_first HC.out; omega
        have HRd : Hid (Run 0 b w2 v2.drew s) := rn_below HRk ((Below.refl _ _).drew)
        have HBd : Hid (Below w.heap.size w v2.drew) := HB2.out.trans (rn_old HRd hwb HB2.out.size)
        obtain ⟨cs, hmk, Hcs⟩ := make8
        have HRa : Hid (Run 0 b w2 (v2.alloc (.cells cs 3)).drew s) := rn_below HRk ((below_new _ _).drew)
        have HBa : Hid (Below w.heap.size w (v2.alloc (.cells cs 3)).drew) := HB2.out.trans (rn_old HRa hwb HB2.out.size)
        clear HRk HRj bk HR
        go_wp2_with fail
        go_region_held3 (fun _ => True) (trivial) (first | (go_at_call 14; refine (cells_run 0 b w2 _ s A (by first | exact HRd | exact HRa) HC.out.A).mono ?_; rintro e w' ⟨rfl, rfl⟩) | (go_at_call 23; refine (wipes_at b s w2 _ (by first | exact HRd | exact HRa)).mono ?_; rintro e v3 ⟨a9, c9, rfl, HO9, b9⟩) | (go_at_call 22; refine (same8 _ _ s A _ HC (by first | exact HO9.out | exact HO9.out.below (below_new _ _)) (by first | exact (reads_lit (w := (v2.alloc (.cells cs 3)).drew) _ (heap_alloc_new v2 _) Hcs.out rfl 8).below b9 | exact reads_lit _ (heap_alloc_new _ _) Hcs.out rfl 8)).mono ?_; rintro e v4 ⟨rfl, b4⟩))
        all_goals go_wp2
        all_goals go_ret
        all_goals first | exact ⟨rfl, below_then (below_then (below_then HBd.out b9) (below_new _ _)) b4⟩ | exact ⟨rfl, below_then (below_then HBa.out b9) b4⟩
  · go_wp2_with fail
    refine (say_run _ 0 0 b _ _ _ _ 8 _ HR5 hr0.idle.sel HOe hb2 (wordL_lt _) (by simp [wordL_length]) (by decide) (by rw [wordL_length]; rfl)).mono ?_
    rintro e v1 ⟨_, _, rfl, _, HR, o1⟩
    replace HOe := owns_only HOe o1 hb2
    replace HOr := owns_only HOr o1 hb3
    replace HOp := owns_only HOp o1 hb4
    clear o1
    rw [HE.out] at HR
    go_wp2_with fail
    refine (say_part 0 0 b gr _ _ _ ((wordL [32, 0, k / 256, k % 256]).take 31) 31 _ HR hE.idle.sel (part_reads HOr 31 _ (by simp [wordL_length])) hgr (fun x hx => wordL_lt _ x (List.mem_of_mem_take hx)) (by rw [List.length_take, wordL_length]; show min 31 _ ≤ 40000; omega) (by decide) (by rw [List.length_take, wordL_length]; rfl)).mono ?_
    rintro e v2 ⟨_, _, rfl, _, HR, o1⟩
    clear o1
    rw [show (wordL [32, 0, k / 256, k % 256]).take 31 = bitsOf 32 ++ (wordL [0, k / 256, k % 256]).take 23 from rfl, say_cut hE 32 (by decide) (by decide) rfl _ (by rw [List.length_take]; omega)] at HR
    obtain ⟨s, Hs⟩ : ∃ s, Hid (sE = s) := ⟨_, rfl⟩
    rw [Hs.out] at HR
    have HC : Hid (s.Calm A) := by rw [← Hs.out]; exact HEc
    clear HOe HOr HOp HE hE hEe HEc hr0 hi hz0 hz1 hz2 hcr hcp hce hgr hgp hb2 hb3 hb4 HR5 h255 ek
    go_wp2_with fail
    go_loopw [13] (fun i wr => ∃ j : Nat, j ≤ 20 ∧ i = .int .i64 j ∧ Hid (Run 0 b w2 wr s)) (fun i _ => (20 - intOf i).toNat)
    case atStart => exact ⟨0, by omega, rfl, HR⟩
    case round =>
      obtain ⟨j, hj, rfl, HRj⟩ := hrel
      by_cases hlt : j < 20
      · go_wp2_with fail
        refine (clock_run 0 b _ _ _ 15 HRj HC.out.rest.idle.sel (by decide) (by decide)).mono ?_
        rintro e v2 ⟨rfl, HRk, ok⟩
        rw [countDown_idle (rest_busy HC.out.rest)] at HRk
        go_wp2_with fail
        go_roundw
        case rel => exact ⟨j + 1, by omega, by go_num, HRk⟩
        case measure => simp [intOf]; omega
      · go_wp2_with fail
        refine (status_run 0 b _ _ s s.first s.second HRj rfl rfl).mono ?_
        rintro e v2 ⟨rfl, HRk, bk⟩
        have hbit : bits .and .i64 (s.first : Int) 1 = 0 := by rw [and_1]; have := calm_first HC.out; omega
        have HRd : Hid (Run 0 b w2 v2.drew s) := rn_below HRk ((Below.refl _ _).drew)
        have HBd : Hid (Below w.heap.size w v2.drew) := HB2.out.trans (rn_old HRd hwb HB2.out.size)
        obtain ⟨cs, hmk, Hcs⟩ := make8
        have HRa : Hid (Run 0 b w2 (v2.alloc (.cells cs 3)).drew s) := rn_below HRk ((below_new _ _).drew)
        have HBa : Hid (Below w.heap.size w (v2.alloc (.cells cs 3)).drew) := HB2.out.trans (rn_old HRa hwb HB2.out.size)
        clear HRk HRj bk HR
        go_wp2_with fail
        go_region_held3 (fun _ => True) (trivial) (first | (go_at_call 14; refine (cells_run 0 b w2 _ s A (by first | exact HRd | exact HRa) HC.out.A).mono ?_; rintro e w' ⟨rfl, rfl⟩) | (go_at_call 23; refine (wipes_at b s w2 _ (by first | exact HRd | exact HRa)).mono ?_; rintro e v3 ⟨a9, c9, rfl, HO9, b9⟩) | (go_at_call 22; refine (same8 _ _ s A _ HC (by first | exact HO9.out | exact HO9.out.below (below_new _ _)) (by first | exact (reads_lit (w := (v2.alloc (.cells cs 3)).drew) _ (heap_alloc_new v2 _) Hcs.out rfl 8).below b9 | exact reads_lit _ (heap_alloc_new _ _) Hcs.out rfl 8)).mono ?_; rintro e v4 ⟨rfl, b4⟩))
        all_goals go_wp2
        all_goals go_ret
        all_goals first | exact ⟨rfl, below_then (below_then (below_then HBd.out b9) (below_new _ _)) b4⟩ | exact ⟨rfl, below_then (below_then HBa.out b9) b4⟩
  · go_wp2_with fail
    refine (say_run _ 0 0 b _ _ _ _ 8 _ HR5 hr0.idle.sel HOe hb2 (wordL_lt _) (by simp [wordL_length]) (by decide) (by rw [wordL_length]; rfl)).mono ?_
    rintro e v1 ⟨_, _, rfl, _, HR, o1⟩
    replace HOe := owns_only HOe o1 hb2
    replace HOr := owns_only HOr o1 hb3
    replace HOp := owns_only HOp o1 hb4
    clear o1
    rw [HE.out] at HR
    have HS := src_cells HOr (.cells #[] 3)
    go_wp2_with (at_builtin; refine wpList_append_lies _ rfl _ _ 27 rfl v1.heap.size 3 i0 (.int .i64 0) 1 8 Try.underlying27 hi hz0 hz1 hz2 rfl (by decide) _ _ _ rfl (owns_empty v1) ⟨gr, 0, none⟩ 32 c4 ((nums (wordL [32, 0, k / 256, k % 256])).map (Value.int .i64)) rfl (by rw [List.length_map, nums_length, wordL_length]; rfl) HS.out ?c2 (by decide) ?c3 ?c4 ?c5 (v1.heap.size + 1) (by simp) ?_)
    case c2 => intro u hu; simp at hu; obtain ⟨x, _, rfl⟩ := hu; rfl
    case c3 => unfold maxLen; omega
    case c4 => omega
    case c5 => simp
    intro g2 cap2 v6 hown hgrow hat hlt2
    have hM : Hid (v6.ownsRow v1.heap.size 3 1 (.slice (some ⟨g2, 0, none⟩) 32 cap2) 32 ((nums (wordL [32, 0, k / 256, k % 256])).map (Value.int .i64))) := hown
    have hB6 : Below v1.heap.size v1 v6 := (below_new v1 _).grown hgrow (by simp) fun k hk => by cases hk; exact Nat.le_refl _
    have hsz6 : v1.heap.size ≤ v6.heap.size := hB6.size
    clear hown hgrow hat hlt2 HS
    go_wp2_with (at_builtin; refine wpList_append_lies _ rfl _ _ 27 rfl v1.heap.size 3 i0 (.int .i64 0) 1 8 Try.underlying27 hi hz0 hz1 hz2 rfl (by decide) _ _ _ rfl (hM.out.alloc _) ⟨v6.heap.size, 0, none⟩ 1 1 [.int .i64 14] rfl rfl ?c1 ?c2 (by decide) ?c3 ?c4 ?c5 (v6.heap.size + 1) (by simp) ?_)
    case c1 =>
      intro j u hj
      match j, hj with
      | 0, hj => simp at hj; subst hj; simp [Addr.add]
    case c2 => intro u hu; simp at hu; subst hu; rfl
    case c3 => unfold maxLen; omega
    case c4 => omega
    case c5 => simp; omega
    intro g3 cap3 v7 hown hgrow hat hlt2
    have HOm : Hid (Owns v1.heap.size v7 (.slice (some ⟨g3, 0, none⟩) (32 + 1) cap3) (nums (wordL [32, 0, k / 256, k % 256] ++ [14]))) := by
      show v7.ownsRow _ _ _ _ (nums (wordL [32, 0, k / 256, k % 256] ++ [14])).length ((nums (wordL [32, 0, k / 256, k % 256] ++ [14])).map (Value.int .i64))
      rw [nums_append, List.map_append, List.length_append, nums_length, wordL_length]; exact hown
    have hB7 : Below v1.heap.size v1 v7 := (hB6.alloc hsz6 _).grown hgrow (by simp; omega) fun k hk => (hM.out.lt k hk).1
    clear hown hgrow hat hlt2 hM hB6 hsz6
    go_wp2_with fail
    refine (say_run _ 0 0 b _ _ _ _ 33 _ (rn_below HR hB7) hE.idle.sel HOm (rn_lt HR) (app_lt (wordL_lt _) (by decide)) (by simp [wordL_length]) (by decide) (by rw [List.length_append, wordL_length]; rfl)).mono ?_
    rintro e v8 ⟨_, _, rfl, _, HR, o1⟩
    clear o1 HOm
    rw [say_more_erase hE k (by omega)] at HR
    obtain ⟨s, Hs⟩ : ∃ s, Hid (sE = s) := ⟨_, rfl⟩
    rw [Hs.out] at HR
    have HC : Hid (s.Calm A) := by rw [← Hs.out]; exact HEc
    clear HOe HOr HOp HE hE hEe HEc hr0 hi hz0 hz1 hz2 hcr hcp hce hgr hgp hb2 hb3 hb4 HR5 h255 ek
    go_wp2_with fail
    go_loopw [13] (fun i wr => ∃ j : Nat, j ≤ 20 ∧ i = .int .i64 j ∧ Hid (Run 0 b w2 wr s)) (fun i _ => (20 - intOf i).toNat)
    case atStart => exact ⟨0, by omega, rfl, HR⟩
    case round =>
      obtain ⟨j, hj, rfl, HRj⟩ := hrel
      by_cases hlt : j < 20
      · go_wp2_with fail
        refine (clock_run 0 b _ _ _ 15 HRj HC.out.rest.idle.sel (by decide) (by decide)).mono ?_
        rintro e v2 ⟨rfl, HRk, ok⟩
        rw [countDown_idle (rest_busy HC.out.rest)] at HRk
        go_wp2_with fail
        go_roundw
        case rel => exact ⟨j + 1, by omega, by go_num, HRk⟩
        case measure => simp [intOf]; omega
      · go_wp2_with fail
        refine (status_run 0 b _ _ s s.first s.second HRj rfl rfl).mono ?_
        rintro e v2 ⟨rfl, HRk, bk⟩
        have hbit : bits .and .i64 (s.first : Int) 1 = 0 := by rw [and_1]; have := calm_first HC.out; omega
        have HRd : Hid (Run 0 b w2 v2.drew s) := rn_below HRk ((Below.refl _ _).drew)
        have HBd : Hid (Below w.heap.size w v2.drew) := HB2.out.trans (rn_old HRd hwb HB2.out.size)
        obtain ⟨cs, hmk, Hcs⟩ := make8
        have HRa : Hid (Run 0 b w2 (v2.alloc (.cells cs 3)).drew s) := rn_below HRk ((below_new _ _).drew)
        have HBa : Hid (Below w.heap.size w (v2.alloc (.cells cs 3)).drew) := HB2.out.trans (rn_old HRa hwb HB2.out.size)
        clear HRk HRj bk HR
        go_wp2_with fail
        go_region_held3 (fun _ => True) (trivial) (first | (go_at_call 14; refine (cells_run 0 b w2 _ s A (by first | exact HRd | exact HRa) HC.out.A).mono ?_; rintro e w' ⟨rfl, rfl⟩) | (go_at_call 23; refine (wipes_at b s w2 _ (by first | exact HRd | exact HRa)).mono ?_; rintro e v3 ⟨a9, c9, rfl, HO9, b9⟩) | (go_at_call 22; refine (same8 _ _ s A _ HC (by first | exact HO9.out | exact HO9.out.below (below_new _ _)) (by first | exact (reads_lit (w := (v2.alloc (.cells cs 3)).drew) _ (heap_alloc_new v2 _) Hcs.out rfl 8).below b9 | exact reads_lit _ (heap_alloc_new _ _) Hcs.out rfl 8)).mono ?_; rintro e v4 ⟨rfl, b4⟩))
        all_goals go_wp2
        all_goals go_ret
        all_goals first | exact ⟨rfl, below_then (below_then (below_then HBd.out b9) (below_new _ _)) b4⟩ | exact ⟨rfl, below_then (below_then HBa.out b9) b4⟩
  · go_wp2_with fail
    refine (say_run _ 0 0 b _ _ _ _ 8 _ HR5 hr0.idle.sel HOe hb2 (wordL_lt _) (by simp [wordL_length]) (by decide) (by rw [wordL_length]; rfl)).mono ?_
    rintro e v1 ⟨_, _, rfl, _, HR, o1⟩
    replace HOe := owns_only HOe o1 hb2
    replace HOr := owns_only HOr o1 hb3
    replace HOp := owns_only HOp o1 hb4
    clear o1
    rw [HE.out] at HR
    go_wp2_with fail
    refine (say_part 0 0 b gp _ _ _ ((wordL [2, 0, k / 256, k % 256, 0]).take 39) 39 _ HR hE.idle.sel (part_reads HOp 39 _ (by simp [wordL_length])) hgp (fun x hx => wordL_lt _ x (List.mem_of_mem_take hx)) (by rw [List.length_take, wordL_length]; show min 39 _ ≤ 40000; omega) (by decide) (by rw [List.length_take, wordL_length]; rfl)).mono ?_
    rintro e v2 ⟨_, _, rfl, _, HR, o1⟩
    clear o1
    rw [show (wordL [2, 0, k / 256, k % 256, 0]).take 39 = wordL [2, 0, k / 256, k % 256] ++ (bitsOf 0).take 7 from rfl, say_cut_data hE k (by omega) _ (by decide) (by decide)] at HR
    obtain ⟨s, Hs⟩ : ∃ s, Hid (sE = s) := ⟨_, rfl⟩
    rw [Hs.out] at HR
    have HC : Hid (s.Calm A) := by rw [← Hs.out]; exact HEc
    clear HOe HOr HOp HE hE hEe HEc hr0 hi hz0 hz1 hz2 hcr hcp hce hgr hgp hb2 hb3 hb4 HR5 h255 ek
    go_wp2_with fail
    go_loopw [13] (fun i wr => ∃ j : Nat, j ≤ 20 ∧ i = .int .i64 j ∧ Hid (Run 0 b w2 wr s)) (fun i _ => (20 - intOf i).toNat)
    case atStart => exact ⟨0, by omega, rfl, HR⟩
    case round =>
      obtain ⟨j, hj, rfl, HRj⟩ := hrel
      by_cases hlt : j < 20
      · go_wp2_with fail
        refine (clock_run 0 b _ _ _ 15 HRj HC.out.rest.idle.sel (by decide) (by decide)).mono ?_
        rintro e v2 ⟨rfl, HRk, ok⟩
        rw [countDown_idle (rest_busy HC.out.rest)] at HRk
        go_wp2_with fail
        go_roundw
        case rel => exact ⟨j + 1, by omega, by go_num, HRk⟩
        case measure => simp [intOf]; omega
      · go_wp2_with fail
        refine (status_run 0 b _ _ s s.first s.second HRj rfl rfl).mono ?_
        rintro e v2 ⟨rfl, HRk, bk⟩
        have hbit : bits .and .i64 (s.first : Int) 1 = 0 := by rw [and_1]; have := calm_first HC.out; omega
        have HRd : Hid (Run 0 b w2 v2.drew s) := rn_below HRk ((Below.refl _ _).drew)
        have HBd : Hid (Below w.heap.size w v2.drew) := HB2.out.trans (rn_old HRd hwb HB2.out.size)
        obtain ⟨cs, hmk, Hcs⟩ := make8
        have HRa : Hid (Run 0 b w2 (v2.alloc (.cells cs 3)).drew s) := rn_below HRk ((below_new _ _).drew)
        have HBa : Hid (Below w.heap.size w (v2.alloc (.cells cs 3)).drew) := HB2.out.trans (rn_old HRa hwb HB2.out.size)
        clear HRk HRj bk HR
        go_wp2_with fail
        go_region_held3 (fun _ => True) (trivial) (first | (go_at_call 14; refine (cells_run 0 b w2 _ s A (by first | exact HRd | exact HRa) HC.out.A).mono ?_; rintro e w' ⟨rfl, rfl⟩) | (go_at_call 23; refine (wipes_at b s w2 _ (by first | exact HRd | exact HRa)).mono ?_; rintro e v3 ⟨a9, c9, rfl, HO9, b9⟩) | (go_at_call 22; refine (same8 _ _ s A _ HC (by first | exact HO9.out | exact HO9.out.below (below_new _ _)) (by first | exact (reads_lit (w := (v2.alloc (.cells cs 3)).drew) _ (heap_alloc_new v2 _) Hcs.out rfl 8).below b9 | exact reads_lit _ (heap_alloc_new _ _) Hcs.out rfl 8)).mono ?_; rintro e v4 ⟨rfl, b4⟩))
        all_goals go_wp2
        all_goals go_ret
        all_goals first | exact ⟨rfl, below_then (below_then (below_then HBd.out b9) (below_new _ _)) b4⟩ | exact ⟨rfl, below_then (below_then HBa.out b9) b4⟩
  · have HS := src_cells HOe (.cells #[] 3)
    go_wp2_with (at_builtin; refine wpList_append_lies _ rfl _ _ 27 rfl w5.heap.size 3 i0 (.int .i64 0) 1 8 Try.underlying27 hi hz0 hz1 hz2 rfl (by decide) _ _ _ rfl (owns_empty w5) ⟨ge, 0, none⟩ 8 c3 ((nums (wordL [6])).map (Value.int .i64)) rfl (by rw [List.length_map, nums_length, wordL_length]; rfl) HS.out ?c2 (by decide) ?c3 ?c4 ?c5 (w5.heap.size + 1) (by simp) ?_)
    case c2 => intro u hu; simp at hu; obtain ⟨x, _, rfl⟩ := hu; rfl
    case c3 => unfold maxLen; omega
    case c4 => omega
    case c5 => simp
    intro g2 cap2 v6 hown hgrow hat hlt2
    have hM : Hid (v6.ownsRow w5.heap.size 3 1 (.slice (some ⟨g2, 0, none⟩) 8 cap2) 8 ((nums (wordL [6])).map (Value.int .i64))) := hown
    have hB6 : Below w5.heap.size w5 v6 := (below_new w5 _).grown hgrow (by simp) fun k hk => by cases hk; exact Nat.le_refl _
    have hsz6 : w5.heap.size ≤ v6.heap.size := hB6.size
    clear hown hgrow hat hlt2 HS
    go_wp2_with (at_builtin; refine wpList_append_lies _ rfl _ _ 27 rfl w5.heap.size 3 i0 (.int .i64 0) 1 8 Try.underlying27 hi hz0 hz1 hz2 rfl (by decide) _ _ _ rfl (hM.out.alloc _) ⟨v6.heap.size, 0, none⟩ 1 1 [.int .i64 14] rfl rfl ?c1 ?c2 (by decide) ?c3 ?c4 ?c5 (v6.heap.size + 1) (by simp) ?_)
    case c1 =>
      intro j u hj
      match j, hj with
      | 0, hj => simp at hj; subst hj; simp [Addr.add]
    case c2 => intro u hu; simp at hu; subst hu; rfl
    case c3 => unfold maxLen; omega
    case c4 => omega
    case c5 => simp; omega
    intro g3 cap3 v7 hown hgrow hat hlt2
    have HOm : Hid (Owns w5.heap.size v7 (.slice (some ⟨g3, 0, none⟩) (8 + 1) cap3) (nums (wordL [6] ++ [14]))) := by
      show v7.ownsRow _ _ _ _ (nums (wordL [6] ++ [14])).length ((nums (wordL [6] ++ [14])).map (Value.int .i64))
      rw [nums_append, List.map_append, List.length_append, nums_length, wordL_length]; exact hown
    have hB7 : Below w5.heap.size w5 v7 := (hB6.alloc hsz6 _).grown hgrow (by simp; omega) fun k hk => (hM.out.lt k hk).1
    clear hown hgrow hat hlt2 hM hB6 hsz6
    go_wp2_with fail
    refine (say_run _ 0 0 b _ _ _ _ 9 _ (rn_below HR5 hB7) hr0.idle.sel HOm (rn_lt HR5) (app_lt (wordL_lt _) (by decide)) (by simp [wordL_length]) (by decide) (by rw [List.length_append, wordL_length]; rfl)).mono ?_
    rintro e v8 ⟨_, _, rfl, _, HR, o1⟩
    replace HOe := owns_only (owns_below HOe hB7) o1 hb2
    replace HOr := owns_only (owns_below HOr hB7) o1 hb3
    replace HOp := owns_only (owns_below HOp hB7) o1 hb4
    clear o1 HOm
    rw [say_more_enable hr0] at HR
    go_wp2_with fail
    refine (say_run _ 0 0 b _ _ _ _ 32 _ HR hr0.idle.sel HOr hb3 (wordL_lt _) (by simp [wordL_length]) (by decide) (by rw [wordL_length]; rfl)).mono ?_
    rintro e v9 ⟨_, _, rfl, _, HR, o1⟩
    replace HOe := owns_only HOe o1 hb2
    replace HOr := owns_only HOr o1 hb3
    replace HOp := owns_only HOp o1 hb4
    clear o1
    rw [say_erase hr0 k (by omega), begin_off rfl] at HR
    obtain ⟨s, Hs⟩ : ∃ s, Hid (newSt A = s) := ⟨_, rfl⟩
    rw [Hs.out] at HR
    have HC : Hid (s.Calm A) := by rw [← Hs.out]; exact calm_new A
    clear HOe HOr HOp HE hE hEe HEc hr0 hi hz0 hz1 hz2 hcr hcp hce hgr hgp hb2 hb3 hb4 HR5 h255 ek
    go_wp2_with fail
    go_loopw [13] (fun i wr => ∃ j : Nat, j ≤ 20 ∧ i = .int .i64 j ∧ Hid (Run 0 b w2 wr s)) (fun i _ => (20 - intOf i).toNat)
    case atStart => exact ⟨0, by omega, rfl, HR⟩
    case round =>
      obtain ⟨j, hj, rfl, HRj⟩ := hrel
      by_cases hlt : j < 20
      · go_wp2_with fail
        refine (clock_run 0 b _ _ _ 15 HRj HC.out.rest.idle.sel (by decide) (by decide)).mono ?_
        rintro e v2 ⟨rfl, HRk, ok⟩
        rw [countDown_idle (rest_busy HC.out.rest)] at HRk
        go_wp2_with fail
        go_roundw
        case rel => exact ⟨j + 1, by omega, by go_num, HRk⟩
        case measure => simp [intOf]; omega
      · go_wp2_with fail
        refine (status_run 0 b _ _ s s.first s.second HRj rfl rfl).mono ?_
        rintro e v2 ⟨rfl, HRk, bk⟩
        have hbit : bits .and .i64 (s.first : Int) 1 = 0 := by rw [and_1]; have := calm_first HC.out; omega
        have HRd : Hid (Run 0 b w2 v2.drew s) := rn_below HRk ((Below.refl _ _).drew)
        have HBd : Hid (Below w.heap.size w v2.drew) := HB2.out.trans (rn_old HRd hwb HB2.out.size)
        obtain ⟨cs, hmk, Hcs⟩ := make8
        have HRa : Hid (Run 0 b w2 (v2.alloc (.cells cs 3)).drew s) := rn_below HRk ((below_new _ _).drew)
        have HBa : Hid (Below w.heap.size w (v2.alloc (.cells cs 3)).drew) := HB2.out.trans (rn_old HRa hwb HB2.out.size)
        clear HRk HRj bk HR
        go_wp2_with fail
        go_region_held3 (fun _ => True) (trivial) (first | (go_at_call 14; refine (cells_run 0 b w2 _ s A (by first | exact HRd | exact HRa) HC.out.A).mono ?_; rintro e w' ⟨rfl, rfl⟩) | (go_at_call 23; refine (wipes_at b s w2 _ (by first | exact HRd | exact HRa)).mono ?_; rintro e v3 ⟨a9, c9, rfl, HO9, b9⟩) | (go_at_call 22; refine (same8 _ _ s A _ HC (by first | exact HO9.out | exact HO9.out.below (below_new _ _)) (by first | exact (reads_lit (w := (v2.alloc (.cells cs 3)).drew) _ (heap_alloc_new v2 _) Hcs.out rfl 8).below b9 | exact reads_lit _ (heap_alloc_new _ _) Hcs.out rfl 8)).mono ?_; rintro e v4 ⟨rfl, b4⟩))
        all_goals go_wp2
        all_goals go_ret
        all_goals first | exact ⟨rfl, below_then (below_then (below_then HBd.out b9) (below_new _ _)) b4⟩ | exact ⟨rfl, below_then (below_then HBa.out b9) b4⟩
  · go_wp2_with fail
    refine (say_run _ 0 0 b _ _ _ _ 8 _ HR5 hr0.idle.sel HOe hb2 (wordL_lt _) (by simp [wordL_length]) (by decide) (by rw [wordL_length]; rfl)).mono ?_
    rintro e v1 ⟨_, _, rfl, _, HR, o1⟩
    replace HOe := owns_only HOe o1 hb2
    replace HOr := owns_only HOr o1 hb3
    replace HOp := owns_only HOp o1 hb4
    clear o1
    rw [HE.out] at HR
    go_wp2_with fail
    refine (word_lit _ _ [4] 1 rfl rfl (by decide) (by decide)).mono ?_
    rintro e v2 ⟨_, _, rfl, HOw, bw⟩
    go_wp2_with fail
    refine (say_run _ 0 0 b _ _ _ _ 8 _ (rn_below HR bw) hE.idle.sel HOw (rn_lt HR) (wordL_lt _) (by decide) (by decide) rfl).mono ?_
    rintro e v3 ⟨_, _, rfl, _, HR, o1⟩
    replace HOe := owns_only (owns_below HOe bw) o1 hb2
    replace HOr := owns_only (owns_below HOr bw) o1 hb3
    replace HOp := owns_only (owns_below HOp bw) o1 hb4
    clear o1 bw HOw
    rw [say_disable hE] at HR
    go_wp2_with fail
    refine (say_run _ 0 0 b _ _ _ _ 40 _ HR hE.idle.sel HOp hb4 (wordL_lt _) (by simp [wordL_length]) (by decide) (by rw [wordL_length]; rfl)).mono ?_
    rintro e v4 ⟨_, _, rfl, _, HR, o1⟩
    replace HOe := owns_only HOe o1 hb2
    replace HOr := owns_only HOr o1 hb3
    replace HOp := owns_only HOp o1 hb4
    clear o1
    rw [say_program_off (rest_en hE false) rfl k (by omega) [0] (by intro x hx; simp at hx; omega)] at HR
    obtain ⟨s, Hs⟩ : ∃ s, Hid (({ sE with en := false } : St) = s) := ⟨_, rfl⟩
    rw [Hs.out] at HR
    have HC : Hid (s.Calm A) := by rw [← Hs.out]; exact calm_en HEc.out false
    clear HOe HOr HOp HE hE hEe HEc hr0 hi hz0 hz1 hz2 hcr hcp hce hgr hgp hb2 hb3 hb4 HR5 h255 ek
    go_wp2_with fail
    go_loopw [13] (fun i wr => ∃ j : Nat, j ≤ 20 ∧ i = .int .i64 j ∧ Hid (Run 0 b w2 wr s)) (fun i _ => (20 - intOf i).toNat)
    case atStart => exact ⟨0, by omega, rfl, HR⟩
    case round =>
      obtain ⟨j, hj, rfl, HRj⟩ := hrel
      by_cases hlt : j < 20
      · go_wp2_with fail
        refine (clock_run 0 b _ _ _ 15 HRj HC.out.rest.idle.sel (by decide) (by decide)).mono ?_
        rintro e v2 ⟨rfl, HRk, ok⟩
        rw [countDown_idle (rest_busy HC.out.rest)] at HRk
        go_wp2_with fail
        go_roundw
        case rel => exact ⟨j + 1, by omega, by go_num, HRk⟩
        case measure => simp [intOf]; omega
      · go_wp2_with fail
        refine (status_run 0 b _ _ s s.first s.second HRj rfl rfl).mono ?_
        rintro e v2 ⟨rfl, HRk, bk⟩
        have hbit : bits .and .i64 (s.first : Int) 1 = 0 := by rw [and_1]; have := calm_first HC.out; omega
        have HRd : Hid (Run 0 b w2 v2.drew s) := rn_below HRk ((Below.refl _ _).drew)
        have HBd : Hid (Below w.heap.size w v2.drew) := HB2.out.trans (rn_old HRd hwb HB2.out.size)
        obtain ⟨cs, hmk, Hcs⟩ := make8
        have HRa : Hid (Run 0 b w2 (v2.alloc (.cells cs 3)).drew s) := rn_below HRk ((below_new _ _).drew)
        have HBa : Hid (Below w.heap.size w (v2.alloc (.cells cs 3)).drew) := HB2.out.trans (rn_old HRa hwb HB2.out.size)
        clear HRk HRj bk HR
        go_wp2_with fail
        go_region_held3 (fun _ => True) (trivial) (first | (go_at_call 14; refine (cells_run 0 b w2 _ s A (by first | exact HRd | exact HRa) HC.out.A).mono ?_; rintro e w' ⟨rfl, rfl⟩) | (go_at_call 23; refine (wipes_at b s w2 _ (by first | exact HRd | exact HRa)).mono ?_; rintro e v3 ⟨a9, c9, rfl, HO9, b9⟩) | (go_at_call 22; refine (same8 _ _ s A _ HC (by first | exact HO9.out | exact HO9.out.below (below_new _ _)) (by first | exact (reads_lit (w := (v2.alloc (.cells cs 3)).drew) _ (heap_alloc_new v2 _) Hcs.out rfl 8).below b9 | exact reads_lit _ (heap_alloc_new _ _) Hcs.out rfl 8)).mono ?_; rintro e v4 ⟨rfl, b4⟩))
        all_goals go_wp2
        all_goals go_ret
        all_goals first | exact ⟨rfl, below_then (below_then (below_then HBd.out b9) (below_new _ _)) b4⟩ | exact ⟨rfl, below_then (below_then HBa.out b9) b4⟩
  · have HP := calm_put HEc.out hEe.out
    obtain ⟨s2, Hs2⟩ : ∃ s2, Hid (sE.say (wordL [1, 4, 0]) = s2) := ⟨_, rfl⟩
    rw [Hs2.out] at HP
    have h2c : Hid (s2.Calm A) := HP.1
    have h2p : Hid (s2.prot = true) := HP.2.1
    have h2r : s2.Rest := HP.1.rest
    clear HP
    go_wp2_with fail
    refine (say_run _ 0 0 b _ _ _ _ 8 _ HR5 hr0.idle.sel HOe hb2 (wordL_lt _) (by simp [wordL_length]) (by decide) (by rw [wordL_length]; rfl)).mono ?_
    rintro e v1 ⟨_, _, rfl, _, HR, o1⟩
    replace HOe := owns_only HOe o1 hb2
    replace HOr := owns_only HOr o1 hb3
    replace HOp := owns_only HOp o1 hb4
    clear o1
    rw [HE.out] at HR
    go_wp2_with fail
    refine (word_lit _ _ [1, 4, 0] 3 rfl rfl (by decide) (by decide)).mono ?_
    rintro e v2 ⟨_, _, rfl, HOw, bw⟩
    go_wp2_with fail
    refine (say_run _ 0 0 b _ _ _ _ 24 _ (rn_below HR bw) hE.idle.sel HOw (rn_lt HR) (wordL_lt _) (by decide) (by decide) rfl).mono ?_
    rintro e v3 ⟨_, _, rfl, _, HR, o1⟩
    replace HOe := owns_only (owns_below HOe bw) o1 hb2
    replace HOr := owns_only (owns_below HOr bw) o1 hb3
    replace HOp := owns_only (owns_below HOp bw) o1 hb4
    clear o1 bw HOw
    rw [Hs2.out] at HR
    go_wp2_with fail
    refine (say_run _ 0 0 b _ _ _ _ 8 _ HR h2r.idle.sel HOe hb2 (wordL_lt _) (by simp [wordL_length]) (by decide) (by rw [wordL_length]; rfl)).mono ?_
    rintro e v4 ⟨_, _, rfl, _, HR, o1⟩
    replace HOe := owns_only HOe o1 hb2
    replace HOr := owns_only HOr o1 hb3
    replace HOp := owns_only HOp o1 hb4
    clear o1
    rw [say_enable h2r] at HR
    go_wp2_with fail
    refine (say_run _ 0 0 b _ _ _ _ 32 _ HR h2r.idle.sel HOr hb3 (wordL_lt _) (by simp [wordL_length]) (by decide) (by rw [wordL_length]; rfl)).mono ?_
    rintro e v5 ⟨_, _, rfl, _, HR, o1⟩
    replace HOe := owns_only HOe o1 hb2
    replace HOr := owns_only HOr o1 hb3
    replace HOp := owns_only HOp o1 hb4
    clear o1
    rw [say_erase (rest_en h2r true) k (by omega), begin_guard (s := { s2 with en := true }) rfl h2p.out true k (by omega)] at HR
    obtain ⟨s, Hs⟩ : ∃ s, Hid (({ s2 with en := false } : St) = s) := ⟨_, rfl⟩
    rw [show ({ ({ s2 with en := true } : St) with en := false } : St) = { s2 with en := false } from rfl, Hs.out] at HR
    have HC : Hid (s.Calm A) := by rw [← Hs.out]; exact calm_en h2c.out false
    clear Hs2 h2c h2p h2r
    clear HOe HOr HOp HE hE hEe HEc hr0 hi hz0 hz1 hz2 hcr hcp hce hgr hgp hb2 hb3 hb4 HR5 h255 ek
    go_wp2_with fail
    go_loopw [13] (fun i wr => ∃ j : Nat, j ≤ 20 ∧ i = .int .i64 j ∧ Hid (Run 0 b w2 wr s)) (fun i _ => (20 - intOf i).toNat)
    case atStart => exact ⟨0, by omega, rfl, HR⟩
    case round =>
      obtain ⟨j, hj, rfl, HRj⟩ := hrel
      by_cases hlt : j < 20
      · go_wp2_with fail
        refine (clock_run 0 b _ _ _ 15 HRj HC.out.rest.idle.sel (by decide) (by decide)).mono ?_
        rintro e v2 ⟨rfl, HRk, ok⟩
        rw [countDown_idle (rest_busy HC.out.rest)] at HRk
        go_wp2_with fail
        go_roundw
        case rel => exact ⟨j + 1, by omega, by go_num, HRk⟩
        case measure => simp [intOf]; omega
      · go_wp2_with fail
        refine (status_run 0 b _ _ s s.first s.second HRj rfl rfl).mono ?_
        rintro e v2 ⟨rfl, HRk, bk⟩
        have hbit : bits .and .i64 (s.first : Int) 1 = 0 := by rw [and_1]; have := calm_first HC.out; omega
        have HRd : Hid (Run 0 b w2 v2.drew s) := rn_below HRk ((Below.refl _ _).drew)
        have HBd : Hid (Below w.heap.size w v2.drew) := HB2.out.trans (rn_old HRd hwb HB2.out.size)
        obtain ⟨cs, hmk, Hcs⟩ := make8
        have HRa : Hid (Run 0 b w2 (v2.alloc (.cells cs 3)).drew s) := rn_below HRk ((below_new _ _).drew)
        have HBa : Hid (Below w.heap.size w (v2.alloc (.cells cs 3)).drew) := HB2.out.trans (rn_old HRa hwb HB2.out.size)
        clear HRk HRj bk HR
        go_wp2_with fail
        go_region_held3 (fun _ => True) (trivial) (first | (go_at_call 14; refine (cells_run 0 b w2 _ s A (by first | exact HRd | exact HRa) HC.out.A).mono ?_; rintro e w' ⟨rfl, rfl⟩) | (go_at_call 23; refine (wipes_at b s w2 _ (by first | exact HRd | exact HRa)).mono ?_; rintro e v3 ⟨a9, c9, rfl, HO9, b9⟩) | (go_at_call 22; refine (same8 _ _ s A _ HC (by first | exact HO9.out | exact HO9.out.below (below_new _ _)) (by first | exact (reads_lit (w := (v2.alloc (.cells cs 3)).drew) _ (heap_alloc_new v2 _) Hcs.out rfl 8).below b9 | exact reads_lit _ (heap_alloc_new _ _) Hcs.out rfl 8)).mono ?_; rintro e v4 ⟨rfl, b4⟩))
        all_goals go_wp2
        all_goals go_ret
        all_goals first | exact ⟨rfl, below_then (below_then (below_then HBd.out b9) (below_new _ _)) b4⟩ | exact ⟨rfl, below_then (below_then HBa.out b9) b4⟩
  · have HP := calm_put HEc.out hEe.out
    obtain ⟨s2, Hs2⟩ : ∃ s2, Hid (sE.say (wordL [1, 4, 0]) = s2) := ⟨_, rfl⟩
    rw [Hs2.out] at HP
    have h2c : Hid (s2.Calm A) := HP.1
    have h2p : Hid (s2.prot = true) := HP.2.1
    have h2r : s2.Rest := HP.1.rest
    clear HP
    go_wp2_with fail
    refine (say_run _ 0 0 b _ _ _ _ 8 _ HR5 hr0.idle.sel HOe hb2 (wordL_lt _) (by simp [wordL_length]) (by decide) (by rw [wordL_length]; rfl)).mono ?_
    rintro e v1 ⟨_, _, rfl, _, HR, o1⟩
    replace HOe := owns_only HOe o1 hb2
    replace HOr := owns_only HOr o1 hb3
    replace HOp := owns_only HOp o1 hb4
    clear o1
    rw [HE.out] at HR
    go_wp2_with fail
    refine (word_lit _ _ [1, 4, 0] 3 rfl rfl (by decide) (by decide)).mono ?_
    rintro e v2 ⟨_, _, rfl, HOw, bw⟩
    go_wp2_with fail
    refine (say_run _ 0 0 b _ _ _ _ 24 _ (rn_below HR bw) hE.idle.sel HOw (rn_lt HR) (wordL_lt _) (by decide) (by decide) rfl).mono ?_
    rintro e v3 ⟨_, _, rfl, _, HR, o1⟩
    replace HOe := owns_only (owns_below HOe bw) o1 hb2
    replace HOr := owns_only (owns_below HOr bw) o1 hb3
    replace HOp := owns_only (owns_below HOp bw) o1 hb4
    clear o1 bw HOw
    rw [Hs2.out] at HR
    go_wp2_with fail
    refine (say_run _ 0 0 b _ _ _ _ 8 _ HR h2r.idle.sel HOe hb2 (wordL_lt _) (by simp [wordL_length]) (by decide) (by rw [wordL_length]; rfl)).mono ?_
    rintro e v4 ⟨_, _, rfl, _, HR, o1⟩
    replace HOe := owns_only HOe o1 hb2
    replace HOr := owns_only HOr o1 hb3
    replace HOp := owns_only HOp o1 hb4
    clear o1
    rw [say_enable h2r] at HR
    go_wp2_with fail
    refine (say_run _ 0 0 b _ _ _ _ 40 _ HR h2r.idle.sel HOp hb4 (wordL_lt _) (by simp [wordL_length]) (by decide) (by rw [wordL_length]; rfl)).mono ?_
    rintro e v5 ⟨_, _, rfl, _, HR, o1⟩
    replace HOe := owns_only HOe o1 hb2
    replace HOr := owns_only HOr o1 hb3
    replace HOp := owns_only HOp o1 hb4
    clear o1
    rw [say_program_guard (rest_en h2r true) rfl h2p.out k (by omega) [0] (by intro x hx; simp at hx; omega) (show 0 < 1 by decide)] at HR
    obtain ⟨s, Hs⟩ : ∃ s, Hid (({ s2 with en := false } : St) = s) := ⟨_, rfl⟩
    rw [show ({ ({ s2 with en := true } : St) with en := false } : St) = { s2 with en := false } from rfl, Hs.out] at HR
    have HC : Hid (s.Calm A) := by rw [← Hs.out]; exact calm_en h2c.out false
    clear Hs2 h2c h2p h2r
    clear HOe HOr HOp HE hE hEe HEc hr0 hi hz0 hz1 hz2 hcr hcp hce hgr hgp hb2 hb3 hb4 HR5 h255 ek
    go_wp2_with fail
    go_loopw [13] (fun i wr => ∃ j : Nat, j ≤ 20 ∧ i = .int .i64 j ∧ Hid (Run 0 b w2 wr s)) (fun i _ => (20 - intOf i).toNat)
    case atStart => exact ⟨0, by omega, rfl, HR⟩
    case round =>
      obtain ⟨j, hj, rfl, HRj⟩ := hrel
      by_cases hlt : j < 20
      · go_wp2_with fail
        refine (clock_run 0 b _ _ _ 15 HRj HC.out.rest.idle.sel (by decide) (by decide)).mono ?_
        rintro e v2 ⟨rfl, HRk, ok⟩
        rw [countDown_idle (rest_busy HC.out.rest)] at HRk
        go_wp2_with fail
        go_roundw
        case rel => exact ⟨j + 1, by omega, by go_num, HRk⟩
        case measure => simp [intOf]; omega
      · go_wp2_with fail
        refine (status_run 0 b _ _ s s.first s.second HRj rfl rfl).mono ?_
        rintro e v2 ⟨rfl, HRk, bk⟩
        have hbit : bits .and .i64 (s.first : Int) 1 = 0 := by rw [and_1]; have := calm_first HC.out; omega
        have HRd : Hid (Run 0 b w2 v2.drew s) := rn_below HRk ((Below.refl _ _).drew)
        have HBd : Hid (Below w.heap.size w v2.drew) := HB2.out.trans (rn_old HRd hwb HB2.out.size)
        obtain ⟨cs, hmk, Hcs⟩ := make8
        have HRa : Hid (Run 0 b w2 (v2.alloc (.cells cs 3)).drew s) := rn_below HRk ((below_new _ _).drew)
        have HBa : Hid (Below w.heap.size w (v2.alloc (.cells cs 3)).drew) := HB2.out.trans (rn_old HRa hwb HB2.out.size)
        clear HRk HRj bk HR
        go_wp2_with fail
        go_region_held3 (fun _ => True) (trivial) (first | (go_at_call 14; refine (cells_run 0 b w2 _ s A (by first | exact HRd | exact HRa) HC.out.A).mono ?_; rintro e w' ⟨rfl, rfl⟩) | (go_at_call 23; refine (wipes_at b s w2 _ (by first | exact HRd | exact HRa)).mono ?_; rintro e v3 ⟨a9, c9, rfl, HO9, b9⟩) | (go_at_call 22; refine (same8 _ _ s A _ HC (by first | exact HO9.out | exact HO9.out.below (below_new _ _)) (by first | exact (reads_lit (w := (v2.alloc (.cells cs 3)).drew) _ (heap_alloc_new v2 _) Hcs.out rfl 8).below b9 | exact reads_lit _ (heap_alloc_new _ _) Hcs.out rfl 8)).mono ?_; rintro e v4 ⟨rfl, b4⟩))
        all_goals go_wp2
        all_goals go_ret
        all_goals first | exact ⟨rfl, below_then (below_then (below_then HBd.out b9) (below_new _ _)) b4⟩ | exact ⟨rfl, below_then (below_then HBa.out b9) b4⟩

set_option maxRecDepth 100000 in
theorem lifted (os : Os) (started : os.Started) (H : Type) (enc : TypeId × Value → H) :
    ReturnsInHanded {} Try.checked os 5 .any (Rows.chipGuardsSpec.pre6 enc Try.prog Try.f5 Rows.chipGuardsRow.domain false) (Rows.chipGuardsSpec.post enc Try.prog Try.f5 false true false false) := by
  refine returnsInHanded_of_change (C := Try.checked) own started (by kernel_rfl) Try.func5
    (ChangeSpec.witness6 (enc := enc) (C := Try.checked) false ⟨#[], #[.int .i64 0, .int .i64 0], []⟩ 8 (by kernel_rfl) (by kernel_rfl) (by kernel_rfl) (by kernel_rfl)) ?_
  intro W base args ds gs before hval0 hW hcnd _
  have hval : ∀ (j : Nat) t v, Try.f5.params[j]? = some t → args[j]? = some v → Value.okWide Try.prog W .any base t v := hval0
  have hW' := hW
  obtain ⟨p, q, hA0, hV, rfl, hfz, hnd⟩ := hW
  have hA : DataW.TrodAll enc Try.prog W 0 (fun _ => true) true Try.f5.params.toList args.toList ds p := hA0
  rw [Try.params5] at hA hval
  obtain ⟨v0, vs0, d0, ds0, p0, q0, hargs, rfl, rfl, h0, r0⟩ := trodAll_cons hA
  obtain ⟨v1, vs1, d1, ds1, p1, q1, rfl, rfl, rfl, h1, r1⟩ := trodAll_cons r0
  obtain ⟨rfl, rfl, rfl⟩ := trodAll_nil r1
  obtain rfl : args = #[v0, v1] := by cases args; simp_all
  obtain ⟨rfl, rfl⟩ := trodVars_none hV
  obtain ⟨a0, rfl, rfl, rfl, w0⟩ := open_int Try.underlying3 (hval 0 3 v0 rfl rfl) h0
  obtain ⟨a1, rfl, rfl, rfl, w1⟩ := open_int Try.underlying3 (hval 1 3 v1 rfl rfl) h1
  clear hA0 hval0
  refine (walk a0 a1 W w0 w1).mono fun e W' ⟨he, bel⟩ => ?_
  subst he
  exact ⟨_, rfl, _, _, _, [], _, [], hW', trodAll_mk1 (shut_bool Try.underlying4 _), (trodAll_cons_mk (shut_int Try.underlying3 w0) (trodAll_cons_mk (shut_int Try.underlying3 w1) trodAll_mk0)), rfl, bel.frame _, fun h => by cases h⟩

theorem over : Rows.chipGuardsRow.holds Try.pinned (OpenSpec.ofChange Rows.chipGuardsSpec) :=
  OpenClaim.holds_of_wide 5 Try.f5 rfl rfl rfl rfl rfl rfl rfl ⟨rfl, rfl, rfl, rfl, rfl⟩ rfl rfl rfl rfl rfl (by kernel_rfl) Try.func5 (by kernel_rfl)
    (of_decide_eq_true (by kernel_rfl)) (by unfold Func.isWrapper; first | (rw [if_pos (by decide +kernel)]; kernel_rfl) | (rw [if_neg (by decide +kernel)]; exact ⟨rfl, rfl⟩))
    (fun os started H enc _ => lifted os started H enc)

theorem proved : Rows.ChipGuardsSaid := over
#print axioms proved
end Go.Proofs.Ythhchfldgkgfpaa.chipGuards
