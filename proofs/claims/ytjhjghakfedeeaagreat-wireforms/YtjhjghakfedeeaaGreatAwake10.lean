/-
  What every program answers that is one: the laws' own call. No conditions.
-/
import Derived.Test.YtjhjghakfedeeaaGreatMine
namespace Go.Proofs.YtjhjghakfedeeaaGreat
open Go.RowKit Plain
set_option linter.unusedVariables false

set_option maxRecDepth 100000 in
set_option maxHeartbeats 8000000 in
theorem wawake_any (w : World) :
    Calls Tryz.prog 26 #[] w fun e w' => e = .returned (.bool true) ∧ Below w.heap.size w w' := by
  go_enter Tryz.func26, Tryz.ntmps26
  go_wp2_with fail
  refine (twins_mine _ w (by unfold maxLen; decide)).mono ?_
  rintro e w1 ⟨bp, b, rfl, hbp, hB, hbw⟩
  have HB0 : Hid (Below w.heap.size w w1) := hbw
  have HR1 : Hid (Run 0 bp w1 w1 (newSt (wide ⟨#[120, 121, 122]⟩))) := rn_start hB.out
  obtain ⟨s, s2, Hs, Hs2, hl, hl2, Hd, HL3, HL1⟩ := id_facts (wide ⟨#[120, 121, 122]⟩)
  rw [Hs.out] at HR1
  have hbl : bp < w1.heap.size := rn_lt HR1
  have hp1 := lit_two (Q := fun g => g ≠ bp) w1 #[.int .i64 159] [159] 1 3 rfl rfl (fun g hg => by omega)
  have hb2 := below_then (below_new w1 (.cells #[.int .i64 159] 3)) (below_new (w1.alloc (.cells #[.int .i64 159] 3)) (.cells #[.int .i64 1, .slice (some ⟨w1.heap.size, 0, none⟩) 1 1, .int .i64 0, .int .i64 0, .int .i64 1, .slice none 0 0, .int .i64 0, .int .i64 3] 49))
  have HP : Hid (PIn (fun g => g ≠ bp) _ _ idP) := hp1
  have HR2 : Hid (Run 0 bp w1 _ s) := rn_below HR1 hb2
  have HB2 : Hid (Below w.heap.size w _) := below_then HB0.out hb2
  clear hB Hs hp1 hb2 HR1
  go_upto_region 5 with fail
  generalize ((w1.alloc (.cells #[.int .i64 159] 3)).alloc (.cells #[.int .i64 1, .slice (some ⟨w1.heap.size, 0, none⟩) 1 1, .int .i64 0, .int .i64 0, .int .i64 1, .slice none 0 0, .int .i64 0, .int .i64 3] 49)) = w2 at HP HR2 HB2 ⊢
  go_wp2_with fail
  refine (rowclocks_any _ idP _ HP.out.reads idP_ok.2.1).mono ?_
  rintro e w3 ⟨rfl, b3⟩
  rw [idP_ok.2.2.1, idP_ok.2.2.2]
  have HP3 := pin_below HP b3
  have HR3 := rn_again (rn_below HR2 b3)
  have HB3 : Hid (Below w.heap.size w w3) := below_then HB2.out b3
  clear b3 HP HR2 HB2
  go_wp2_with fail
  refine (run_drive 0 bp w3 w3 s _ idP (-1) HR3 hl HP3.out idP_ok.2.1 idP_ok.1 (by decide) (by decide)).mono ?_
  rintro e w4 ⟨xa, xc, rfl, ho4, hr4⟩
  rw [HL3.out] at ho4 ⊢
  rw [Hd.out] at hr4
  rw [id_numbers.1] at hr4 ⊢
  rw [id_numbers.2.2.1]
  have HP4 := pin_only HP3 hr4.out.only
  have HB4 := old_only HB3 hr4.out.only hbp HB3.out.size
  have HR4 := rn_again hr4
  have HX4 : Hid (Owns w3.heap.size w4 _ _) := ho4
  have hb3l : bp < w3.heap.size := rn_lt HR3
  clear HP3 HR3 HB3 ho4 hr4 HL3 Hd
  go_wp2_with fail
  refine (run_drive 32 bp w4 w4 s _ idP 20 HR4 hl HP4.out idP_ok.2.1 idP_ok.1 (by decide) (by decide)).mono ?_
  rintro e w5 ⟨ya, yc, rfl, ho5, hr5⟩
  rw [HL1.out] at ho5 ⊢
  rw [Hs2.out] at hr5
  rw [id_numbers.2.1] at hr5 ⊢
  rw [id_numbers.2.2.2]
  have HP5 := pin_only HP4 hr5.out.only
  have HB5 := old_only HB4 hr5.out.only hbp HB4.out.size
  have HX5 := owns_only HX4 hr5.out.only hb3l
  have HR5 := rn_again hr5
  have HY5 : Hid (Owns w4.heap.size w5 _ _) := ho5
  clear HP4 HR4 HB4 HX4 ho5 hr5 HL1 Hs2
  go_wp2_with fail
  refine (run_drive_held _ bp w5 w5 s2 _ idP (-1) HR5 hl2 HP5.out.reads idP_ok.2.1 idP_ok.1).mono ?_
  rintro e w6 ⟨rfl, b6, hr6⟩
  have HB6 : Hid (Below w.heap.size w w6) := below_then HB5.out b6
  have HX6 := owns_below HX5 b6
  have HY6 := owns_below HY5 b6
  have HP6 := pin_below HP5 b6
  have hb6 : bp < w6.heap.size := rn_lt hr6
  clear b6 HB5 HX5 HY5 HP5 HR5 hr6
  have hp7 := lit_one (Q := fun g => g ≠ bp) w6 0 0 0 (by show w6.heap.size ≠ bp; omega)
  have HP7 : Hid (PIn (fun g => g ≠ bp) _ _ _) := hp7
  have HX7 := owns_below HX6 (below_new w6 (.cells #[.int .i64 0, .slice none 0 0, .int .i64 0, .int .i64 0] 49))
  have HY7 := owns_below HY6 (below_new w6 (.cells #[.int .i64 0, .slice none 0 0, .int .i64 0, .int .i64 0] 49))
  have HB7 : Hid (Below w.heap.size w _) := below_then HB6.out (below_new w6 (.cells #[.int .i64 0, .slice none 0 0, .int .i64 0, .int .i64 0] 49))
  clear hp7 HB6 HX6 HY6
  go_wp2_with fail
  refine (rowclocks_any _ _ _ HP7.out.reads ⟨by decide, by intro p hp; simp at hp; subst hp; decide⟩).mono ?_
  rintro e w8 ⟨rfl, b8⟩
  have HX8 := owns_below HX7 b8
  have HY8 := owns_below HY7 b8
  have HB8 : Hid (Below w.heap.size w w8) := below_then HB7.out b8
  clear b8 HX7 HY7 HB7 HP7
  rw [show (clkN [((0 : Int), ([] : List Int), (0 : Int), (0 : Int))] : Int) = 0 from by decide, show clkX [((0 : Int), ([] : List Int), (0 : Int), (0 : Int))] = 1000 from by decide]
  go_wp2_with fail
  refine (drive_nil _ _ _).mono ?_
  rintro e w9 ⟨rfl, rfl⟩
  clear HP6 hb6 hb3l hbl hl hl2 hbp HB0
  go_wp2_with fail
  refine (num_any _ _).mono ?_
  rintro e w10 ⟨rfl, rfl⟩
  have hb10 := below_new w8 (.cells #[.int .i64 239, .int .i64 64, .int .i64 12] 3)
  have HX10 := owns_below HX8 hb10
  have HY10 := owns_below HY8 hb10
  have HB10 : Hid (Below w.heap.size w _) := below_then HB8.out hb10
  have HL10 : Hid (Reads _ _ _) := lit_reads w8 #[.int .i64 239, .int .i64 64, .int .i64 12] [239, 64, 12] 3 rfl rfl
  clear hb10 HX8 HY8 HB8
  go_wp2_with fail
  refine (same_any _ _ _ _ _ HX10.out.reads HL10.out (by decide) (by decide)).mono ?_
  rintro e w11 ⟨rfl, b11⟩
  have HY11 := owns_below HY10 b11
  have HB11 : Hid (Below w.heap.size w w11) := below_then HB10.out b11
  clear b11 HX10 HY10 HB10 HL10
  go_wp2_with fail
  refine (num_any _ _).mono ?_
  rintro e w12 ⟨rfl, rfl⟩
  have hb12 := below_new w11 (.cells #[.int .i64 239] 3)
  have HY12 := owns_below HY11 hb12
  have HB12 : Hid (Below w.heap.size w _) := below_then HB11.out hb12
  have HL12 : Hid (Reads _ _ _) := lit_reads w11 #[.int .i64 239] [239] 1 rfl rfl
  clear hb12 HY11 HB11
  go_wp2_with fail
  refine (same_any _ _ _ _ _ HY12.out.reads HL12.out (by decide) (by decide)).mono ?_
  rintro e w13 ⟨rfl, b13⟩
  have HB13 : Hid (Below w.heap.size w w13) := below_then HB12.out b13
  clear b13 HY12 HB12 HL12
  go_wp2_with (go_at_call 19; refine (num_any _ _).mono ?_; rintro e w14 ⟨rfl, rfl⟩)
  go_ret
  exact ⟨rfl, HB13.out⟩
end Go.Proofs.YtjhjghakfedeeaaGreat
