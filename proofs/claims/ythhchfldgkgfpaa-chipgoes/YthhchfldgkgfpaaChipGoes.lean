/-
  ChipGoes: a read that goes on needs no byte, until its mode bits are other ones. No conditions.
-/
import Derived.Test.YthhchfldgkgfpaaRows
import Derived.Test.YthhchfldgkgfpaaAwake
import Derived.Test.YthhchfldgkgfpaaGoesOn
import Derived.Deep.RegionHeld3
import Derived.Deep.QuietTactic
import Derived.SizedLaws
import Derived.WalkKit
import Derived.ProofKit
import Derived.OpenShut
import Derived.ShutString
import Derived.ChangeOld
import Derived.Below
namespace Go.Proofs.Ythhchfldgkgfpaa.chipGoes
open Go.Proofs.Ythhchfldgkgfpaa.Plain
open Go.ChangeShapes Go.WideShapes Go.ChangeAt Go.RowKit
open Go.ChangeMaps (open_string shut_string)
set_option linter.unusedVariables false

theorem own : ownKnob Try.prog.godebug = none := by kernel_rfl
theorem laidOut : laidOutB Try.prog = true := by kernel_rfl

set_option maxRecDepth 100000 in
set_option maxHeartbeats 4000000 in
theorem walk (a0 : ByteArray) (a1 : Option Addr) (len1 cap1 : Nat) (z1 : List Int) (w : World) (w0 : a0.size ≤ maxLen) (w1 : Came w a1 len1 cap1 z1) (s1 : len1 * 8 ≤ 140737488351232) :
    Calls Try.prog 10 #[.string a0, .slice a1 len1 cap1] w fun e w' => e = .returned (.bool true) ∧ Below w.heap.size w w' := by
  have HCm : Hid (Reads w (.slice a1 len1 cap1) z1) := w1.reads
  have HZl : Hid (z1.length = len1) := w1.1
  clear w1
  obtain ⟨A, HA⟩ : ∃ A, Hid (wide a0 = A) := ⟨_, rfl⟩
  have hA : A.size = 4096 := by rw [← HA.out]; exact wide_size a0
  have hget := get_ub A
  obtain ⟨s2, Hs2⟩ : ∃ s, Hid ((newSt A).say (wordL [6]) = s) := ⟨_, rfl⟩
  have HE := say_en (plain_new A)
  rw [Hs2.out] at HE
  have hs2 : s2.sel = false := HE.1.rest.idle.sel
  have HQ0 := quad_set HE.1 HE.2
  obtain ⟨s3, Hs3⟩ : ∃ s, Hid (s2.say (wordL [1, 0, 2]) = s) := ⟨_, rfl⟩
  rw [Hs3.out] at HQ0
  have HQ : Hid (s3.Quads A false) := quads_of HQ0.1 HQ0.2.1 HQ0.2.2
  clear HE HQ0
  obtain ⟨i0, hi, hz0, hz1, hz2⟩ := info_parts info3
  go_enter Try.func10, Try.ntmps10
  go_wp2_with fail
  refine (awake_any _).mono ?_
  rintro e u1 ⟨rfl, b1⟩
  go_wp2_with fail
  refine (fresh_any 0 _ _ w0).mono ?_
  rintro e vF ⟨b, rfl, hbb, hl, b2⟩
  rw [HA.out] at hl
  have HR2 := rn_start hl
  have hwb : w.heap.size ≤ b := Nat.le_trans b1.size hbb
  have HB2 : Hid (Below w.heap.size w vF) := below_then b1 b2
  clear hl b1 b2 hbb HA
  go_wp2_with fail
  refine (word_lit _ _ [6] 1 rfl rfl (by decide) (by decide)).mono ?_
  rintro e v4 ⟨a4, c4, rfl, HOw, b4⟩
  go_wp2_with fail
  refine (say_run _ 0 0 b _ _ _ _ 8 _ (rn_below HR2 b4) rfl HOw (rn_lt HR2) (wordL_lt _) (by decide) (by decide) rfl).mono ?_
  rintro e v5 ⟨a5, c5, rfl, HOx, HR5, o5⟩
  rw [Hs2.out] at HR5
  clear HOw HOx b4 o5
  go_wp2_with fail
  refine (word_lit _ _ [1, 0, 2] 3 rfl rfl (by decide) (by decide)).mono ?_
  rintro e v6 ⟨a6, c6, rfl, HOw, b6⟩
  go_wp2_with fail
  refine (say_run _ 0 0 b _ _ _ _ 24 _ (rn_below HR5 b6) hs2 HOw (rn_lt HR5) (wordL_lt _) (by decide) (by decide) rfl).mono ?_
  rintro e v7 ⟨a7, c7, rfl, HOx, HR7, o7⟩
  rw [Hs3.out] at HR7
  have HB7 : Hid (Below w.heap.size w v7) := HB2.out.trans (rn_old HR7 hwb HB2.out.size)
  replace HR7 := rn_again HR7
  clear HOw HOx b6 o7 HR5 HR2 HB2 Hs2 Hs3 hs2
  go_wp2_with fail
  refine (cells_run 0 b _ _ _ A HR7 HQ.out.A).mono ?_
  rintro e w' ⟨rfl, rfl⟩
  go_wp2_with fail
  go_loopw [7, 8] (fun v i wr => ∃ (j : Nat) (g : Bool) (s : St), j ≤ len1 ∧ j ≤ 12 ∧ i = .int .i64 j ∧ v = .bool g ∧ Hid (s.Quads A g) ∧ Hid (Run 0 b v7 wr s)) (fun _ i _ => (len1 - intOf i).toNat)
  case atStart => exact ⟨0, false, s3, by omega, by omega, rfl, rfl, HQ, HR7⟩
  case round =>
    obtain ⟨j, g, s, hj1, hj2, rfl, rfl, HQs, HR⟩ := hrel
    by_cases hlt : j < len1 ∧ j < 12
    · obtain ⟨hlt1, hlt2⟩ := hlt
      obtain ⟨x, Hx⟩ : ∃ x, Hid (z1.getD j 0 = x) := ⟨_, rfl⟩
      obtain ⟨k, hk, ek, -⟩ := mask_4095 x
      obtain ⟨m3, hm3, em3, -⟩ := mask_3 (x / 4096)
      obtain ⟨md, hmd, emd, -⟩ := mask_127 (x / 16)
      obtain ⟨c0, cap, e0, hread⟩ := HCm.out
      rw [HZl.out] at hread
      obtain ⟨ga, oa, e1, hcell⟩ := hread (by omega)
      simp only [Value.slice.injEq] at e0
      obtain ⟨rfl, -, rfl⟩ := e0
      subst e1
      have hwv : Below w.heap.size w wr := HB7.out.trans (rn_old HR hwb HB7.out.size)
      have hwz := hwv.size
      have hgw : ga < w.heap.size := cell_lt (hcell j hlt1)
      have ca : wr.cell? ⟨ga, oa + j, none⟩ = some (.int .i64 x) := by rw [← Hx.out, hwv.cell (cell_lt (hcell j hlt1))]; exact hcell j hlt1
      obtain ⟨y, Hy⟩ : ∃ y, Hid ((ub A k).toNat = y) := ⟨_, rfl⟩
      have hy : y < 256 := by rw [← Hy.out]; exact ub_lt A k
      have hgk : wrap64 ((ub A k).toNat : Int) = (y : Int) := by rw [← Hy.out]; exact wrap_ub A k
      have hgk2 : IntKind.i64.wrap ((ub A k).toNat : Int) = (y : Int) := by rw [← Hy.out]; exact IntWalk.i64_in _ (by have := ub_lt A k; omega)
      obtain ⟨p, Hp⟩ : ∃ p, Hid (y / 16 % 16 = p) := ⟨_, rfl⟩
      obtain ⟨q, Hq⟩ : ∃ q, Hid (y % 16 = q) := ⟨_, rfl⟩
      have hp16 : p < 16 := by have := Hp.out; omega
      have hor := nib_or y hy
      rw [Hp.out, Hq.out] at hor
      have hw1 : wrap64 ((p : Int) * 16) = (p : Int) * 16 := IntWalk.wrap64_in _ (by omega)
      have hw2 : IntKind.i64.wrap ((p : Int) * 16) = (p : Int) * 16 := IntWalk.i64_in _ (by omega)
      have hy2 : ((y : Int) != (y : Int)) = false := by simp
      have hk1 : (k : Int) < 4096 := by omega
      have ka : bits .and .i64 ((k : Int) / 256) 15 = ((k / 256 % 16 : Nat) : Int) := and_15n (k / 256)
      have kb : bits .and .i64 ((k : Int) / 16) 15 = ((k / 16 % 16 : Nat) : Int) := and_15n (k / 16)
      have kc : bits .and .i64 (k : Int) 15 = ((k % 16 : Nat) : Int) := and_15n k
      have ma : bits .and .i64 (md : Int) 15 = ((md % 16 : Nat) : Int) := and_15n md
      have hsel : s.sel = false := HQs.out.sel
      clear hread hcell HCm HZl Hx hwv HB7 HR7 HQ
      have hm1 : md < 256 := by omega
      have hmn : ((md : Int) == 160) = false := by simp; omega
      have hmd2 : decide (md = 160) = false := decide_eq_false (by omega)
      cases g with
      | true =>
        by_cases h3 : m3 = 3
        · have d3 : ((m3 : Int) == 3) = true := by simp; omega
          have hM : wr.ownsRow wr.heap.size 3 1 (.slice none 0 0) 0 ((nums (headG true)).map (Value.int .i64)) := World.ownsRow_nil _ _ _ _
          have hsz : wr.heap.size ≤ wr.heap.size := Nat.le_refl _
          have HBq : Hid (Below wr.heap.size wr wr) := Below.refl _ _
          go_wp2_with (at_builtin; refine wpList_append_lies _ rfl _ _ 27 rfl wr.heap.size 3 i0 (.int .i64 0) 1 8 Try.underlying27 hi hz0 hz1 hz2 rfl (by decide) _ _ _ rfl (hM.alloc _) ⟨wr.heap.size, 0, none⟩ 8 8 [.int .i64 0, .int .i64 0, .int .i64 ((k : Int) / 4096), .int .i64 ((k : Int) / 256 % 16), .int .i64 ((k : Int) / 16 % 16), .int .i64 ((k : Int) % 16), .int .i64 ((md : Int) / 16), .int .i64 ((md : Int) % 16)] rfl rfl ?c1 ?c2 (by decide) ?c3 ?c4 ?c5 (wr.heap.size + 1) (by simp) ?_)
          case c1 => exact World.news_of_block (heap_alloc_new _ _)
          case c2 => intro u hu; simp at hu; rcases hu with rfl | rfl | rfl | rfl | rfl | rfl | rfl <;> rfl
          case c3 => unfold maxLen; omega
          case c4 => omega
          case c5 => simp
          intro g2 cap2 w3 hown hgrow hat hlt2'
          have HO3 : Hid (Owns wr.heap.size w3 (.slice (some ⟨g2, 0, none⟩) 8 cap2) (nums (headG true ++ tailL k md))) := by
            show w3.ownsRow _ _ _ _ (nums (headG true ++ tailL k md)).length ((nums (headG true ++ tailL k md)).map (Value.int .i64))
            rw [nums_append, List.map_append, List.length_append]; simpa [nums, tailL, lenh_true] using hown
          have HBl : Below wr.heap.size wr w3 := (HBq.out.alloc hsz _).grown hgrow (by simp) fun q hq => (hM.lt q hq).1
          have HR3 := rn_below HR HBl
          have hLen : (headG true ++ tailL k md).length = 8 := len_head_true k _
          have hLen2 : (headG true ++ tailL k md ++ List.replicate 6 15).length = 14 := len_all_true k _
          have HG := goes_on HQs.out k md hk hm1
          have hbC : b < wr.heap.size := rn_lt HR
          have hB3 : wr.heap.size ≤ w3.heap.size := HBl.size
          clear hown hgrow hat hlt2' hM hsz HBl HR HBq
          go_wp2_with fail
          refine (quiet_on _ _ _ 6 14 _ HO3 hB3 (by rw [hLen]; decide) (by rw [hLen]; decide) (by decide) (by rw [hLen])).mono ?_
          rintro e w4 ⟨a4, c4, rfl, HO4, b4⟩
          go_wp2_with fail
          refine (say_run _ 0 0 b _ _ _ _ 14 _ (rn_below HR3 b4) hsel HO4 hbC (app_lt (app_lt (head_lt _) (tail_lt k md hk hm1)) (rep_lt (by decide))) (by rw [hLen2]; decide) (by decide) hLen2).mono ?_
          rintro e w5 ⟨a5, c5, rfl, HO5, HR5, o5⟩
          rw [HG.2, hA, Nat.mod_eq_of_lt hk, Hy.out, len_true] at HO5
          have HGq : Hid ((s.say (headG true ++ tailL k md ++ List.replicate 6 15)).Quads A false) := by have h9 := HG.1; rw [hmd2] at h9; exact h9
          obtain ⟨s9, Hs9⟩ := hid_is (s.say (headG true ++ tailL k md ++ List.replicate 6 15))
          rw [Hs9.out] at HGq HR5
          obtain ⟨gy, rfl, hcy⟩ := owns_some HO5 (by rw [nums_length, List.length_append, List.length_replicate]; rfl) (by decide)
          obtain ⟨cy1, cy2⟩ := told_cells HO5
          rw [Hp.out] at cy1
          rw [Hq.out] at cy2
          have cz1 : w5.cell? ⟨gy, 12, none⟩ = some (.int .i64 (p : Int)) := cy1
          have cz2 : w5.cell? ⟨gy, 13, none⟩ = some (.int .i64 (q : Int)) := cy2
          clear cy1 cy2 HO5 HO4 HO3 b4 o5 HR3 HG Hs9 HQs hLen hLen2 hsel hB3 hbC
          go_wp2_with fail
          go_quiet (fail)
          all_goals go_wp2
          all_goals go_roundw
          case rel => exact ⟨j + 1, false, s9, by omega, by omega, by go_num, rfl, HGq, by first | exact HR5 | exact rn_below HR5 (below_drewN (Below.refl _ _) _)⟩
          case measure => simp [intOf]; omega
        · have d3 : ((m3 : Int) == 3) = false := by simp; omega
          have hM : wr.ownsRow wr.heap.size 3 1 (.slice none 0 0) 0 ((nums (headG true)).map (Value.int .i64)) := World.ownsRow_nil _ _ _ _
          have hsz : wr.heap.size ≤ wr.heap.size := Nat.le_refl _
          have HBq : Hid (Below wr.heap.size wr wr) := Below.refl _ _
          go_wp2_with (at_builtin; refine wpList_append_lies _ rfl _ _ 27 rfl wr.heap.size 3 i0 (.int .i64 0) 1 8 Try.underlying27 hi hz0 hz1 hz2 rfl (by decide) _ _ _ rfl (hM.alloc _) ⟨wr.heap.size, 0, none⟩ 8 8 [.int .i64 0, .int .i64 0, .int .i64 ((k : Int) / 4096), .int .i64 ((k : Int) / 256 % 16), .int .i64 ((k : Int) / 16 % 16), .int .i64 ((k : Int) % 16), .int .i64 10, .int .i64 0] rfl rfl ?c1 ?c2 (by decide) ?c3 ?c4 ?c5 (wr.heap.size + 1) (by simp) ?_)
          case c1 => exact World.news_of_block (heap_alloc_new _ _)
          case c2 => intro u hu; simp at hu; rcases hu with rfl | rfl | rfl | rfl | rfl | rfl | rfl <;> rfl
          case c3 => unfold maxLen; omega
          case c4 => omega
          case c5 => simp
          intro g2 cap2 w3 hown hgrow hat hlt2'
          have HO3 : Hid (Owns wr.heap.size w3 (.slice (some ⟨g2, 0, none⟩) 8 cap2) (nums (headG true ++ tailL k 160))) := by
            show w3.ownsRow _ _ _ _ (nums (headG true ++ tailL k 160)).length ((nums (headG true ++ tailL k 160)).map (Value.int .i64))
            rw [nums_append, List.map_append, List.length_append]; simpa [nums, tailL, lenh_true] using hown
          have HBl : Below wr.heap.size wr w3 := (HBq.out.alloc hsz _).grown hgrow (by simp) fun q hq => (hM.lt q hq).1
          have HR3 := rn_below HR HBl
          have hLen : (headG true ++ tailL k 160).length = 8 := len_head_true k _
          have hLen2 : (headG true ++ tailL k 160 ++ List.replicate 6 15).length = 14 := len_all_true k _
          have HG := goes_on HQs.out k 160 hk (by decide)
          have hbC : b < wr.heap.size := rn_lt HR
          have hB3 : wr.heap.size ≤ w3.heap.size := HBl.size
          clear hown hgrow hat hlt2' hM hsz HBl HR HBq
          go_wp2_with fail
          refine (quiet_on _ _ _ 6 14 _ HO3 hB3 (by rw [hLen]; decide) (by rw [hLen]; decide) (by decide) (by rw [hLen])).mono ?_
          rintro e w4 ⟨a4, c4, rfl, HO4, b4⟩
          go_wp2_with fail
          refine (say_run _ 0 0 b _ _ _ _ 14 _ (rn_below HR3 b4) hsel HO4 hbC (app_lt (app_lt (head_lt _) (tail_lt k 160 hk (by decide))) (rep_lt (by decide))) (by rw [hLen2]; decide) (by decide) hLen2).mono ?_
          rintro e w5 ⟨a5, c5, rfl, HO5, HR5, o5⟩
          rw [HG.2, hA, Nat.mod_eq_of_lt hk, Hy.out, len_true] at HO5
          have HGq : Hid ((s.say (headG true ++ tailL k 160 ++ List.replicate 6 15)).Quads A true) := HG.1
          obtain ⟨s9, Hs9⟩ := hid_is (s.say (headG true ++ tailL k 160 ++ List.replicate 6 15))
          rw [Hs9.out] at HGq HR5
          obtain ⟨gy, rfl, hcy⟩ := owns_some HO5 (by rw [nums_length, List.length_append, List.length_replicate]; rfl) (by decide)
          obtain ⟨cy1, cy2⟩ := told_cells HO5
          rw [Hp.out] at cy1
          rw [Hq.out] at cy2
          have cz1 : w5.cell? ⟨gy, 12, none⟩ = some (.int .i64 (p : Int)) := cy1
          have cz2 : w5.cell? ⟨gy, 13, none⟩ = some (.int .i64 (q : Int)) := cy2
          clear cy1 cy2 HO5 HO4 HO3 b4 o5 HR3 HG Hs9 HQs hLen hLen2 hsel hB3 hbC
          go_wp2_with fail
          go_quiet (fail)
          all_goals go_wp2
          all_goals go_roundw
          case rel => exact ⟨j + 1, true, s9, by omega, by omega, by go_num, rfl, HGq, by first | exact HR5 | exact rn_below HR5 (below_drewN (Below.refl _ _) _)⟩
          case measure => simp [intOf]; omega
      | false =>
        by_cases h3 : m3 = 3
        · have d3 : ((m3 : Int) == 3) = true := by simp; omega
          go_wp2_with fail
          refine (word_lit _ _ [235] 1 rfl rfl (by decide) (by decide)).mono ?_
          rintro e q1 ⟨aq, cq, rfl, HOq, bq⟩
          have caq : q1.cell? ⟨ga, oa + j, none⟩ = some (.int .i64 x) := by rw [bq.cell (cell_lt ca)]; exact ca
          have hM : q1.ownsRow wr.heap.size 3 1 (.slice aq 8 cq) 8 ((nums (headG false)).map (Value.int .i64)) := head_row HOq
          have hsz : wr.heap.size ≤ q1.heap.size := bq.size
          have HBq : Hid (Below wr.heap.size wr q1) := bq
          clear HOq bq
          go_wp2_with (at_builtin; refine wpList_append_lies _ rfl _ _ 27 rfl wr.heap.size 3 i0 (.int .i64 0) 1 8 Try.underlying27 hi hz0 hz1 hz2 rfl (by decide) _ _ _ rfl (hM.alloc _) ⟨q1.heap.size, 0, none⟩ 8 8 [.int .i64 0, .int .i64 0, .int .i64 ((k : Int) / 4096), .int .i64 ((k : Int) / 256 % 16), .int .i64 ((k : Int) / 16 % 16), .int .i64 ((k : Int) % 16), .int .i64 ((md : Int) / 16), .int .i64 ((md : Int) % 16)] rfl rfl ?c1 ?c2 (by decide) ?c3 ?c4 ?c5 (q1.heap.size + 1) (by simp) ?_)
          case c1 => exact World.news_of_block (heap_alloc_new _ _)
          case c2 => intro u hu; simp at hu; rcases hu with rfl | rfl | rfl | rfl | rfl | rfl | rfl <;> rfl
          case c3 => unfold maxLen; omega
          case c4 => omega
          case c5 => simp; omega
          intro g2 cap2 w3 hown hgrow hat hlt2'
          have HO3 : Hid (Owns wr.heap.size w3 (.slice (some ⟨g2, 0, none⟩) 16 cap2) (nums (headG false ++ tailL k md))) := by
            show w3.ownsRow _ _ _ _ (nums (headG false ++ tailL k md)).length ((nums (headG false ++ tailL k md)).map (Value.int .i64))
            rw [nums_append, List.map_append, List.length_append]; simpa [nums, tailL, lenh_false] using hown
          have HBl : Below wr.heap.size wr w3 := (HBq.out.alloc hsz _).grown hgrow (by simp; omega) fun q hq => (hM.lt q hq).1
          have HR3 := rn_below HR HBl
          have hLen : (headG false ++ tailL k md).length = 16 := len_head_false k _
          have hLen2 : (headG false ++ tailL k md ++ List.replicate 6 15).length = 22 := len_all_false k _
          have HG := goes_on HQs.out k md hk hm1
          have hbC : b < wr.heap.size := rn_lt HR
          have hB3 : wr.heap.size ≤ w3.heap.size := HBl.size
          clear hown hgrow hat hlt2' hM hsz HBl HR HBq
          go_wp2_with fail
          refine (quiet_on _ _ _ 6 22 _ HO3 hB3 (by rw [hLen]; decide) (by rw [hLen]; decide) (by decide) (by rw [hLen])).mono ?_
          rintro e w4 ⟨a4, c4, rfl, HO4, b4⟩
          go_wp2_with fail
          refine (say_run _ 0 0 b _ _ _ _ 22 _ (rn_below HR3 b4) hsel HO4 hbC (app_lt (app_lt (head_lt _) (tail_lt k md hk hm1)) (rep_lt (by decide))) (by rw [hLen2]; decide) (by decide) hLen2).mono ?_
          rintro e w5 ⟨a5, c5, rfl, HO5, HR5, o5⟩
          rw [HG.2, hA, Nat.mod_eq_of_lt hk, Hy.out, len_false] at HO5
          have HGq : Hid ((s.say (headG false ++ tailL k md ++ List.replicate 6 15)).Quads A false) := by have h9 := HG.1; rw [hmd2] at h9; exact h9
          obtain ⟨s9, Hs9⟩ := hid_is (s.say (headG false ++ tailL k md ++ List.replicate 6 15))
          rw [Hs9.out] at HGq HR5
          obtain ⟨gy, rfl, hcy⟩ := owns_some HO5 (by rw [nums_length, List.length_append, List.length_replicate]; rfl) (by decide)
          obtain ⟨cy1, cy2⟩ := told_cells HO5
          rw [Hp.out] at cy1
          rw [Hq.out] at cy2
          have cz1 : w5.cell? ⟨gy, 20, none⟩ = some (.int .i64 (p : Int)) := cy1
          have cz2 : w5.cell? ⟨gy, 21, none⟩ = some (.int .i64 (q : Int)) := cy2
          clear cy1 cy2 HO5 HO4 HO3 b4 o5 HR3 HG Hs9 HQs hLen hLen2 hsel hB3 hbC
          go_wp2_with fail
          go_quiet (fail)
          all_goals go_wp2
          all_goals go_roundw
          case rel => exact ⟨j + 1, false, s9, by omega, by omega, by go_num, rfl, HGq, by first | exact HR5 | exact rn_below HR5 (below_drewN (Below.refl _ _) _)⟩
          case measure => simp [intOf]; omega
        · have d3 : ((m3 : Int) == 3) = false := by simp; omega
          go_wp2_with fail
          refine (word_lit _ _ [235] 1 rfl rfl (by decide) (by decide)).mono ?_
          rintro e q1 ⟨aq, cq, rfl, HOq, bq⟩
          have caq : q1.cell? ⟨ga, oa + j, none⟩ = some (.int .i64 x) := by rw [bq.cell (cell_lt ca)]; exact ca
          have hM : q1.ownsRow wr.heap.size 3 1 (.slice aq 8 cq) 8 ((nums (headG false)).map (Value.int .i64)) := head_row HOq
          have hsz : wr.heap.size ≤ q1.heap.size := bq.size
          have HBq : Hid (Below wr.heap.size wr q1) := bq
          clear HOq bq
          go_wp2_with (at_builtin; refine wpList_append_lies _ rfl _ _ 27 rfl wr.heap.size 3 i0 (.int .i64 0) 1 8 Try.underlying27 hi hz0 hz1 hz2 rfl (by decide) _ _ _ rfl (hM.alloc _) ⟨q1.heap.size, 0, none⟩ 8 8 [.int .i64 0, .int .i64 0, .int .i64 ((k : Int) / 4096), .int .i64 ((k : Int) / 256 % 16), .int .i64 ((k : Int) / 16 % 16), .int .i64 ((k : Int) % 16), .int .i64 10, .int .i64 0] rfl rfl ?c1 ?c2 (by decide) ?c3 ?c4 ?c5 (q1.heap.size + 1) (by simp) ?_)
          case c1 => exact World.news_of_block (heap_alloc_new _ _)
          case c2 => intro u hu; simp at hu; rcases hu with rfl | rfl | rfl | rfl | rfl | rfl | rfl <;> rfl
          case c3 => unfold maxLen; omega
          case c4 => omega
          case c5 => simp; omega
          intro g2 cap2 w3 hown hgrow hat hlt2'
          have HO3 : Hid (Owns wr.heap.size w3 (.slice (some ⟨g2, 0, none⟩) 16 cap2) (nums (headG false ++ tailL k 160))) := by
            show w3.ownsRow _ _ _ _ (nums (headG false ++ tailL k 160)).length ((nums (headG false ++ tailL k 160)).map (Value.int .i64))
            rw [nums_append, List.map_append, List.length_append]; simpa [nums, tailL, lenh_false] using hown
          have HBl : Below wr.heap.size wr w3 := (HBq.out.alloc hsz _).grown hgrow (by simp; omega) fun q hq => (hM.lt q hq).1
          have HR3 := rn_below HR HBl
          have hLen : (headG false ++ tailL k 160).length = 16 := len_head_false k _
          have hLen2 : (headG false ++ tailL k 160 ++ List.replicate 6 15).length = 22 := len_all_false k _
          have HG := goes_on HQs.out k 160 hk (by decide)
          have hbC : b < wr.heap.size := rn_lt HR
          have hB3 : wr.heap.size ≤ w3.heap.size := HBl.size
          clear hown hgrow hat hlt2' hM hsz HBl HR HBq
          go_wp2_with fail
          refine (quiet_on _ _ _ 6 22 _ HO3 hB3 (by rw [hLen]; decide) (by rw [hLen]; decide) (by decide) (by rw [hLen])).mono ?_
          rintro e w4 ⟨a4, c4, rfl, HO4, b4⟩
          go_wp2_with fail
          refine (say_run _ 0 0 b _ _ _ _ 22 _ (rn_below HR3 b4) hsel HO4 hbC (app_lt (app_lt (head_lt _) (tail_lt k 160 hk (by decide))) (rep_lt (by decide))) (by rw [hLen2]; decide) (by decide) hLen2).mono ?_
          rintro e w5 ⟨a5, c5, rfl, HO5, HR5, o5⟩
          rw [HG.2, hA, Nat.mod_eq_of_lt hk, Hy.out, len_false] at HO5
          have HGq : Hid ((s.say (headG false ++ tailL k 160 ++ List.replicate 6 15)).Quads A true) := HG.1
          obtain ⟨s9, Hs9⟩ := hid_is (s.say (headG false ++ tailL k 160 ++ List.replicate 6 15))
          rw [Hs9.out] at HGq HR5
          obtain ⟨gy, rfl, hcy⟩ := owns_some HO5 (by rw [nums_length, List.length_append, List.length_replicate]; rfl) (by decide)
          obtain ⟨cy1, cy2⟩ := told_cells HO5
          rw [Hp.out] at cy1
          rw [Hq.out] at cy2
          have cz1 : w5.cell? ⟨gy, 20, none⟩ = some (.int .i64 (p : Int)) := cy1
          have cz2 : w5.cell? ⟨gy, 21, none⟩ = some (.int .i64 (q : Int)) := cy2
          clear cy1 cy2 HO5 HO4 HO3 b4 o5 HR3 HG Hs9 HQs hLen hLen2 hsel hB3 hbC
          go_wp2_with fail
          go_quiet (fail)
          all_goals go_wp2
          all_goals go_roundw
          case rel => exact ⟨j + 1, true, s9, by omega, by omega, by go_num, rfl, HGq, by first | exact HR5 | exact rn_below HR5 (below_drewN (Below.refl _ _) _)⟩
          case measure => simp [intOf]; omega
    · rcases (by omega : ¬ j < len1 ∨ (j < len1 ∧ ¬ j < 12)) with hq | hq
      · have d1 : decide ((j : Int) < (len1 : Int)) = false := decide_eq_false (by omega)
        have HB9 : Hid (Below w.heap.size w wr) := HB7.out.trans (rn_old HR hwb HB7.out.size)
        have hsel : s.sel = false := HQs.out.sel
        clear HCm HZl hi hz0 hz1 hz2 HQ HR7
        go_wp2_with fail
        refine (word_lit _ _ [5] 1 rfl rfl (by decide) (by decide)).mono ?_
        rintro e q1 ⟨aq, cq, rfl, HOq, bq⟩
        go_wp2_with fail
        refine (quiet_on _ _ _ 8 16 _ HOq bq.size (by decide) (by decide) (by decide) rfl).mono ?_
        rintro e q2 ⟨a2, c2, rfl, HO2, b2⟩
        go_wp2_with fail
        refine (say_run _ 0 0 b _ _ _ _ 16 _ (rn_below (rn_below HR bq) b2) hsel HO2 (rn_lt HR) (app_lt (wordL_lt _) (rep_lt (by decide))) (by decide) (by decide) rfl).mono ?_
        rintro e q3 ⟨a3, c3, rfl, HO3, HR3, o3⟩
        have HB3 : Hid (Below w.heap.size w q3) := HB7.out.trans (rn_old HR3 hwb HB7.out.size)
        cases g with
        | true =>
          go_wp2
          go_ret
          exact ⟨rfl, HB3.out⟩
        | false =>
          rw [status_row HQs.out] at HO3
          clear HOq HO2 bq b2 HR HR3 o3
          go_wp2_with fail
          refine (bytesOf_at _ _ _ 8 1 _ HO3 (told_length 8 1 _) (by decide) (told_lt 8 1 _) (by decide)).mono ?_
          rintro e q4 ⟨g4, c4, rfl, HO4, b4⟩
          rw [told_back 8 1 _ (fun i _ => (by decide))] at HO4
          have cx : q4.cell? ⟨g4, 0, none⟩ = some (.int .i64 0) := HO4.out 0 (by decide)
          have HB4 : Hid (Below w.heap.size w q4) := below_then HB3.out b4.out
          clear HO3 HO4 b4 HB3
          go_wp2
          go_ret
          exact ⟨rfl, HB4.out⟩
      · have d1 : decide ((j : Int) < (len1 : Int)) = true := decide_eq_true (by omega)
        have d2 : decide ((j : Int) < 12) = false := decide_eq_false (by omega)
        have HB9 : Hid (Below w.heap.size w wr) := HB7.out.trans (rn_old HR hwb HB7.out.size)
        have hsel : s.sel = false := HQs.out.sel
        clear HCm HZl hi hz0 hz1 hz2 HQ HR7
        go_wp2_with fail
        refine (word_lit _ _ [5] 1 rfl rfl (by decide) (by decide)).mono ?_
        rintro e q1 ⟨aq, cq, rfl, HOq, bq⟩
        go_wp2_with fail
        refine (quiet_on _ _ _ 8 16 _ HOq bq.size (by decide) (by decide) (by decide) rfl).mono ?_
        rintro e q2 ⟨a2, c2, rfl, HO2, b2⟩
        go_wp2_with fail
        refine (say_run _ 0 0 b _ _ _ _ 16 _ (rn_below (rn_below HR bq) b2) hsel HO2 (rn_lt HR) (app_lt (wordL_lt _) (rep_lt (by decide))) (by decide) (by decide) rfl).mono ?_
        rintro e q3 ⟨a3, c3, rfl, HO3, HR3, o3⟩
        have HB3 : Hid (Below w.heap.size w q3) := HB7.out.trans (rn_old HR3 hwb HB7.out.size)
        cases g with
        | true =>
          go_wp2
          go_ret
          exact ⟨rfl, HB3.out⟩
        | false =>
          rw [status_row HQs.out] at HO3
          clear HOq HO2 bq b2 HR HR3 o3
          go_wp2_with fail
          refine (bytesOf_at _ _ _ 8 1 _ HO3 (told_length 8 1 _) (by decide) (told_lt 8 1 _) (by decide)).mono ?_
          rintro e q4 ⟨g4, c4, rfl, HO4, b4⟩
          rw [told_back 8 1 _ (fun i _ => (by decide))] at HO4
          have cx : q4.cell? ⟨g4, 0, none⟩ = some (.int .i64 0) := HO4.out 0 (by decide)
          have HB4 : Hid (Below w.heap.size w q4) := below_then HB3.out b4.out
          clear HO3 HO4 b4 HB3
          go_wp2
          go_ret
          exact ⟨rfl, HB4.out⟩

set_option maxRecDepth 100000 in
theorem lifted (os : Os) (started : os.Started) (H : Type) (enc : TypeId × Value → H) :
    ReturnsInHanded {} Try.checked os 10 .any (Rows.chipGoesSpec.pre6 enc Try.prog Try.f10 Rows.chipGoesRow.domain false) (Rows.chipGoesSpec.post enc Try.prog Try.f10 false true false false) := by
  refine returnsInHanded_of_change_sized (C := Try.checked) own started (by kernel_rfl) Try.func10
    (ChangeSpec.witness6 (enc := enc) (C := Try.checked) false ⟨#[], #[.string ByteArray.empty, .slice none 0 0], []⟩ 8 (by kernel_rfl) (by kernel_rfl) (by kernel_rfl) (by kernel_rfl)) ?_
  intro W base args ds gs before hval0 hW hcnd hsz0 _
  have hsz : (DataW.weightsEach Try.prog (Try.f10.params.toList ++ Rows.chipGoesSpec.plain.varTypes Try.prog) (ds ++ gs)).all (· ≤ reachBytes) = true := hsz0
  clear hsz0
  have hval : ∀ (j : Nat) t v, Try.f10.params[j]? = some t → args[j]? = some v → Value.okWide Try.prog W .any base t v := hval0
  have hW' := hW
  obtain ⟨p, q, hA0, hV, rfl, hfz, hnd⟩ := hW
  have hA : DataW.TrodAll enc Try.prog W 0 (fun _ => true) true Try.f10.params.toList args.toList ds p := hA0
  rw [Try.params10] at hA hval hsz
  obtain ⟨v0, vs0, d0, ds0, p0, q0, hargs, rfl, rfl, h0, r0⟩ := trodAll_cons hA
  obtain ⟨v1, vs1, d1, ds1, p1, q1, rfl, rfl, rfl, h1, r1⟩ := trodAll_cons r0
  obtain ⟨rfl, rfl, rfl⟩ := trodAll_nil r1
  obtain rfl : args = #[v0, v1] := by cases args; simp_all
  obtain ⟨rfl, rfl⟩ := trodVars_none hV
  obtain ⟨a0, rfl, rfl, rfl, w0⟩ := open_string Try.underlying9 (hval 0 9 v0 rfl rfl) h0
  obtain ⟨a1, len1, cap1, rfl⟩ := okWide_slice Try.underlying27 (hval 1 27 v1 rfl rfl)
  have k1 := h1
  have lt1 : ∀ x ∈ p1, x.block < W.heap.size := by obtain ⟨m, hm⟩ := k1; exact DataW.trod_lt m _ _ _ hm
  obtain ⟨z1, w1, s1⟩ : ∃ zs, Came W a1 len1 cap1 zs ∧ len1 * 8 ≤ 140737488351232 := by
    obtain ⟨fuel, hf⟩ := h1
    rcases open_ints Try.underlying27 Try.underlying3 (by kernel_rfl) hf with ⟨hcs, _⟩ | ⟨x, l, c, zs, hcs, _, hl, hm, hz, hx, hcell, hwz⟩
    · simp [Value.cells] at hcs
      obtain ⟨rfl, rfl, rfl⟩ := hcs
      exact ⟨[], ⟨rfl, .inl ⟨rfl, rfl, rfl⟩⟩, by omega⟩
    · simp [Value.cells] at hcs
      obtain ⟨rfl, rfl, rfl⟩ := hcs
      simp only [Prod.mk.injEq] at hx
      obtain ⟨rfl, -⟩ := hx
      have hzl : zs.length = cap1 := by simpa using hz
      have hreach := sized_slice hsz (j := 1) (t := 27) (e := 3) rfl rfl Try.underlying27
      rw [show Try.prog.bytesOf 3 = 8 from by kernel_rfl] at hreach
      simp only [lits, List.length_map, List.length_take, List.length_drop, reachBytes] at hreach
      exact ⟨zs.take len1, came_of hl hzl hcell, by omega⟩
  clear hA0 hval0
  refine (walk a0 a1 len1 cap1 z1 W w0 w1 s1).mono fun e W' ⟨he, bel⟩ => ?_
  subst he
  exact ⟨_, rfl, _, _, _, [], _, [], hW', trodAll_mk1 (shut_bool Try.underlying4 _), (trodAll_cons_mk (shut_string Try.underlying9 w0) (trodAll_cons_mk (Below.trod laidOut (by kernel_rfl) (of_decide_eq_true (by kernel_rfl)) k1 bel lt1) trodAll_mk0)), rfl, bel.frame _, fun h => by cases h⟩

theorem over : Rows.chipGoesRow.holds Try.pinned (OpenSpec.ofChange Rows.chipGoesSpec) :=
  OpenClaim.holds_of_wide 10 Try.f10 rfl rfl rfl rfl rfl rfl rfl ⟨rfl, rfl, rfl, rfl, rfl⟩ rfl rfl rfl rfl rfl (by kernel_rfl) Try.func10 (by kernel_rfl)
    (of_decide_eq_true (by kernel_rfl)) (by unfold Func.isWrapper; first | (rw [if_pos (by decide +kernel)]; kernel_rfl) | (rw [if_neg (by decide +kernel)]; exact ⟨rfl, rfl⟩))
    (fun os started H enc _ => lifted os started H enc)

theorem proved : Rows.ChipGoesSaid := over
#print axioms proved
end Go.Proofs.Ythhchfldgkgfpaa.chipGoes
