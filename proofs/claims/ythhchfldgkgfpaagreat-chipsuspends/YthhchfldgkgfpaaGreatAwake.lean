/-
  What every program answers that is one: it is so. Conditions: none.
-/
import Derived.Test.YthhchfldgkgfpaaGreatSteps
import Derived.Test.YthhchfldgkgfpaaGreatKnown
import Derived.Test.YthhchfldgkgfpaaGreatCalls
namespace Go.Proofs.YthhchfldgkgfpaaGreat
open Go.RowKit Plain
set_option linter.unusedVariables false

theorem awake_script {F : ByteArray} (hF : F = full 4096) : ∃ s1 s2 s3 : St,
    Hid ((newSt F).say (wordL [159] ++ List.replicate 8 15) = newSt F) ∧ Hid ((newSt F).hears (wordL [159] ++ List.replicate 8 15) = List.replicate 8 15 ++ [15, 15, 15, 13, 15, 15, 15, 15]) ∧
    Hid ((newSt F).say (wordL [6]) = s1) ∧ Hid (s1.say (wordL [2, 0, 8, 1, 65]) = s2) ∧ Hid (s2.say (List.replicate 8 15) = s3) ∧
    Hid ((s1.first : Int) = 2) ∧ Hid ((s2.first : Int) = 3) ∧ Hid ((s3.first : Int) = 0) ∧ Hid (s3.A.size = 4096) ∧ Hid (((ub s3.A 2049).toNat : Int) = 65) ∧ Hid (((ub s3.A 2048).toNat : Int) = 255) ∧ s1.sel = false ∧ s2.sel = false ∧ s3.sel = false := by
  have hs : F.size = 4096 := full_size hF
  have h0 := plain_new F
  obtain ⟨h1, e1⟩ := say_en h0
  have h2 := prog_runs h1 e1 2049 (by decide) [65] (by decide) (by decide)
  obtain ⟨h3, e3⟩ := prog_done h2 8 (by decide)
  refine ⟨_, _, _, say_id (rest_new F) 1, (hears_id (rest_new F) 1).trans ?_, rfl, rfl, rfl, ?_, ?_, ?_, ?_, ?_, ?_, h1.rest.idle.sel, h2.idle.sel, h3.rest.idle.sel⟩
  · congr 1
  · show _ = _
    rw [plain_first h1, e1]; rfl
  · show _ = _
    have := runs_first h2
    rw [show wordL [2, 0, 8, 1, 65] = wordL (2 :: 0 :: 2049 / 256 :: 2049 % 256 :: [65]) from rfl, this]; rfl
  · show _ = _
    rw [show wordL [2, 0, 8, 1, 65] = wordL (2 :: 0 :: 2049 / 256 :: 2049 % 256 :: [65]) from rfl, plain_first h3, e3]; rfl
  · show _ = _
    rw [show wordL [2, 0, 8, 1, 65] = wordL (2 :: 0 :: 2049 / 256 :: 2049 % 256 :: [65]) from rfl, h3.A, progA_size, hs]
  · show _ = _
    rw [show wordL [2, 0, 8, 1, 65] = wordL (2 :: 0 :: 2049 / 256 :: 2049 % 256 :: [65]) from rfl, h3.A, progA_ub _ _ _ (by decide) _ (by omega), if_pos (by decide), full_ub hF (by omega)]
    rfl
  · show _ = _
    rw [show wordL [2, 0, 8, 1, 65] = wordL (2 :: 0 :: 2049 / 256 :: 2049 % 256 :: [65]) from rfl, h3.A, progA_ub _ _ _ (by decide) _ (by omega), if_neg (by decide), full_ub hF (by omega)]
    rfl

set_option maxRecDepth 100000 in
set_option maxHeartbeats 800000 in
theorem awake_any (w : World) : Calls Tryz.prog 28 #[] w fun e w' => e = .returned (.bool true) ∧ Below w.heap.size w w' := by
  go_enter Tryz.func28, Tryz.ntmps28
  go_wp2_with (go_at_call 6; refine (refBlank_is _).mono ?_; rintro e w1 ⟨F, rfl, HF, hb1⟩)
  have hFs : F.size = 4096 := full_size HF.out
  obtain ⟨s1, s2, s3, E0, E1, E2, E3, E4, f1, f2, f3, z3, u1, u2, l1, l2, l3⟩ := awake_script HF.out
  refine (new_lies 0 _ _ hFs).mono ?_
  rintro e w2 ⟨b, rfl, hbb, hl, hb2⟩
  have HR2 : Hid (Run 0 b w2 w2 (newSt F)) := rn_start hl
  have hwb : w.heap.size ≤ b := Nat.le_trans hb1.size hbb
  have HB2 : Hid (Below w.heap.size w w2) := below_then hb1 hb2
  clear hl hb1 hb2 hbb
  go_wp2_with fail
  refine (new_no _ _ (by decide)).mono ?_
  rintro e w' ⟨rfl, rfl⟩
  go_wp2_with fail
  refine (num_any _ _).mono ?_
  rintro e w' ⟨rfl, rfl⟩
  go_wp2_with fail
  refine (word_lit _ _ [159] 1 rfl rfl (by decide) (by decide)).mono ?_
  rintro e w3 ⟨a3, c3, rfl, HO3, b3⟩
  go_wp2_with fail
  refine (quiet_on _ _ _ 8 16 _ HO3 b3.size (by decide) (by decide) (by decide) rfl).mono ?_
  rintro e w4 ⟨a4, c4, rfl, HO4, b4⟩
  go_wp2_with fail
  refine (say_run _ 0 0 b _ _ _ _ 16 _ (rn_below (rn_below HR2 b3) b4) rfl HO4 (rn_lt HR2) (app_lt (wordL_lt _) (rep_lt (by decide))) (by decide) (by decide) rfl).mono ?_
  rintro e w5 ⟨a5, c5, rfl, HO5, HR5, o5⟩
  rw [E0.out] at HR5
  rw [E1.out] at HO5
  have hb4 : b < w4.heap.size := rn_lt (rn_below (rn_below HR2 b3) b4)
  have HB5 : Hid (Below w.heap.size w w5) := HB2.out.trans (rn_old HR5 hwb HB2.out.size)
  replace HR5 := rn_again HR5
  clear HO3 HO4 HB2
  go_wp2_with fail
  refine (word_lit _ _ [6] 1 rfl rfl (by decide) (by decide)).mono ?_
  rintro e w6 ⟨a6, c6, rfl, HO6, b6⟩
  go_wp2_with fail
  refine (say_run _ 0 0 b _ _ _ _ 8 _ (rn_below HR5 b6) rfl HO6 (rn_lt HR5) (wordL_lt _) (by decide) (by decide) rfl).mono ?_
  rintro e w7 ⟨a7, c7, rfl, HO7, HR7, o7⟩
  rw [E2.out] at HR7
  clear HO6 HO7
  go_wp2_with fail
  refine (status_lies 0 _ _ _ HR7.out.lies).mono ?_
  rintro e w8 ⟨rfl, b8⟩
  rw [f1.out]
  go_wp2_with fail
  refine (word_lit _ _ [2, 0, 8, 1, 65] 5 rfl rfl (by decide) (by decide)).mono ?_
  rintro e w9 ⟨a9, c9, rfl, HO9, b9⟩
  go_wp2_with fail
  refine (say_run _ 0 0 b _ _ _ _ 40 _ (rn_below (rn_below HR7 b8) b9) l1 HO9 (rn_lt (rn_below HR7 b8)) (wordL_lt _) (by decide) (by decide) rfl).mono ?_
  rintro e w10 ⟨a10, c10, rfl, HO10, HR10, o10⟩
  rw [E3.out] at HR10
  clear HO9 HO10
  go_wp2_with fail
  refine (status_lies 0 _ _ _ HR10.out.lies).mono ?_
  rintro e w11 ⟨rfl, b11⟩
  rw [f2.out]
  go_wp2_with fail
  refine (quiet_nil 8 _ (by decide)).mono ?_
  rintro e w12 ⟨a12, c12, rfl, HO12, b12⟩
  go_wp2_with fail
  refine (say_run _ 0 0 b _ _ _ _ 8 _ (rn_below (rn_below HR10 b11) b12) l2 HO12 (rn_lt (rn_below HR10 b11)) (rep_lt (by decide)) (by decide) (by decide) rfl).mono ?_
  rintro e w13 ⟨a13, c13, rfl, HO13, HR13, o13⟩
  rw [E4.out] at HR13
  clear HO12 HO13
  go_wp2_with fail
  refine (status_lies 0 _ _ _ HR13.out.lies).mono ?_
  rintro e w14 ⟨rfl, b14⟩
  rw [f3.out]
  have HR14 := rn_below HR13 b14
  go_wp2_with fail
  refine (cells_lies 0 _ _ _ HR14.out.lies).mono ?_
  rintro e w' ⟨rfl, rfl⟩
  go_wp2_with fail
  obtain ⟨ds, hAt, hDs⟩ := HR14.out.lies.1
  have HAt : Hid (At w14 b s3 ds) := hAt
  clear hAt hDs
  refine (deselect_no _ _ _ _ HAt.out l3).mono ?_
  rintro e w' ⟨rfl, rfl⟩
  go_wp2_with fail
  refine (clock_no _ _ _ ⟨_, rfl⟩ (by decide)).mono ?_
  rintro e w' ⟨rfl, rfl⟩
  go_wp2_with fail
  have b15 := below_new w14 (.cells #[.int .i64 0] 3)
  refine (next_any b s3 ds _ [0] _ (Blk.below HAt.out b15) (lit_reads _ _ [0] 1 rfl rfl) (by decide)).mono ?_
  rintro e w' h
  have h2 : e = .returned (.int .i64 600) ∧ w14.alloc (.cells #[.int .i64 0] 3) = w' := by
    rcases h with ⟨_, h1, h2⟩ | ⟨h1, _⟩
    · exact ⟨h1, h2⟩
    · exact absurd h1 (by decide)
  clear h
  obtain ⟨rfl, rfl⟩ := h2
  have HR15 := rn_below HR14 b15
  obtain ⟨w15, Hw15⟩ : ∃ w15, Hid (w14.alloc (.cells #[.int .i64 0] 3) = w15) := ⟨_, rfl⟩
  rw [Hw15.out] at HR15 ⊢
  obtain ⟨g5, rfl, hc5⟩ := owns_some HO5 rfl (by decide)
  have HO15 := owns_below (owns_only HO5 HR15.out.only hb4) (below_new w15 (.cells #[.int .i64 15, .int .i64 15, .int .i64 15, .int .i64 13, .int .i64 15, .int .i64 15, .int .i64 15, .int .i64 15] 3))
  have hfin : Below w.heap.size w w15 := HB5.out.trans (rn_old HR15 hwb HB5.out.size)
  clear HO5
  go_wp2_with fail
  refine (same_any _ _ _ _ _ (reads_drop HO15.out.reads 8 8 _ rfl) (lit_reads _ _ [15, 15, 15, 13, 15, 15, 15, 15] 8 rfl rfl) (by decide) (by decide)).mono ?_
  rintro e w16 ⟨rfl, b16⟩
  rw [show decide (List.drop 8 (nums (List.replicate 8 15 ++ [15, 15, 15, 13, 15, 15, 15, 15])) = [15, 15, 15, 13, 15, 15, 15, 15]) = true from by decide]
  have hfin2 : Hid (Below w.heap.size w w16) := below_then hfin (below_lit b16)
  have z3' := z3.out
  have u1' := u1.out
  have u2' := u2.out
  have hget := get_ub s3.A
  clear HO15 HR15 hfin b16
  go_wp2_with fail
  refine (num_any _ _).mono ?_
  rintro e w' ⟨rfl, rfl⟩
  go_wp2_with (first | (go_at_call 9; refine (num_any _ _).mono ?_; rintro e w' ⟨rfl, rfl⟩) | (go_at_call 10; refine (select_nil _).mono ?_; rintro e w' ⟨rfl, rfl⟩))
  go_ret
  exact ⟨rfl, hfin2.out⟩
end Go.Proofs.YthhchfldgkgfpaaGreat
