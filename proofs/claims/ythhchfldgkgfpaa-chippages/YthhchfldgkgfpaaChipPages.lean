/-
  ChipPages: a program turns its page alone, from the address on, around its end, and takes as long as it should. No conditions.
-/
import Derived.Test.YthhchfldgkgfpaaRows
import Derived.Test.YthhchfldgkgfpaaAwake
import Derived.Test.YthhchfldgkgfpaaPages
import Derived.Test.YthhchfldgkgfpaaGuard
import Derived.Deep.RegionHeld3
import Derived.SizedLaws
import Derived.WalkKit
import Derived.ProofKit
import Derived.OpenShut
import Derived.ShutString
import Derived.ChangeOld
import Derived.Below
namespace Go.Proofs.Ythhchfldgkgfpaa.chipPages
open Go.Proofs.Ythhchfldgkgfpaa.Plain
open Go.ChangeShapes Go.WideShapes Go.ChangeAt Go.RowKit
open Go.ChangeMaps (open_string shut_string)
set_option linter.unusedVariables false

theorem own : ownKnob Try.prog.godebug = none := by kernel_rfl
theorem laidOut : laidOutB Try.prog = true := by kernel_rfl

set_option maxRecDepth 100000 in
set_option maxHeartbeats 2000000 in
theorem walk (a0 : ByteArray) (a1 : Int) (a2 : Option Addr) (len2 cap2 : Nat) (z2 : List Int) (a3 : Int) (w : World) (w0 : a0.size ≤ maxLen) (w1 : (Lit.int .i64 a1).wf = true) (w2 : Came w a2 len2 cap2 z2) (s2 : len2 * 8 ≤ 140737488351232) (w3 : (Lit.int .i64 a3).wf = true) :
    Calls Try.prog 4 #[.string a0, .int .i64 a1, .slice a2 len2 cap2, .int .i64 a3] w fun e w' => e = .returned (.bool true) ∧ Below w.heap.size w w' := by
  have HCm : Hid (Reads w (.slice a2 len2 cap2) z2) := w2.reads
  have HZl : Hid (z2.length = len2) := w2.1
  clear w2
  obtain ⟨k, hk, ek⟩ := umod a1 4096 (by omega) (by omega)
  have ek : wrap64 ((IntKind.u64.wrap a1).tmod 4096) = (k : Int) := ek
  obtain ⟨d0, d, hdp, hdm, ed, e1⟩ := dur_of a3
  have h255 : bits .and .i64 (k : Int) 255 = ((k % 256 : Nat) : Int) := by clear ek ed e1; rw [and_255]; omega
  obtain ⟨A, HA⟩ : ∃ A, Hid (wide a0 = A) := ⟨_, rfl⟩
  have hA : A.size = 4096 := by rw [← HA.out]; exact wide_size a0
  go_enter Try.func4, Try.ntmps4
  go_wp2_with fail
  refine (awake_any _).mono ?_
  rintro e u1 ⟨rfl, b1⟩
  go_wp2_with fail
  refine (fresh_any 0 _ _ w0).mono ?_
  rintro e vF ⟨b, rfl, hbb, hl, b2⟩
  rw [HA.out] at hl
  have HR2 := rn_start hl
  have hwb : w.heap.size ≤ b := Nat.le_trans b1.size hbb
  have HB2 : Hid (Below w.heap.size w vF) := below_then b1 b2
  have hbF : b < vF.heap.size := rn_lt HR2
  clear hl b1 b2 hbb
  go_wp2_with fail
  refine (cells_run 0 b _ _ _ A HR2 rfl).mono ?_
  rintro e w' ⟨rfl, rfl⟩
  obtain ⟨i0, hi, hz0, hz1, hz2⟩ := info_parts info3
  go_wp2_with fail
  rw [ek, e1]
  obtain ⟨vB, HvB⟩ : ∃ vB, Hid (vF.alloc (.cells #[.int .i64 2, .int .i64 0, .int .i64 ((k : Int) / 256), .int .i64 ((k : Int) % 256)] 3) = vB) := ⟨_, rfl⟩
  have HOb : Hid (Owns vF.heap.size vB (.slice (some ⟨vF.heap.size, 0, none⟩) 4 4) (nums [2, 0, k / 256, k % 256])) := by
    rw [← HvB.out]; exact Owns.lit (nums [2, 0, k / 256, k % 256]) 4 _ (by simp [nums]) rfl (by unfold maxLen; decide)
  have HRB : Hid (Run 0 b vB vB (newSt A)) := by rw [← HvB.out]; exact rn_again (rn_below HR2 (below_new _ _))
  have HBB : Hid (Below w.heap.size w vB) := by rw [← HvB.out]; exact below_then HB2.out (below_new _ _)
  have hFB : vF.heap.size < vB.heap.size := by rw [← HvB.out]; simp
  obtain ⟨gb, hgb⟩ : ∃ g, g = vF.heap.size := ⟨_, rfl⟩
  rw [HvB.out, ← hgb]
  rw [← hgb] at HOb hFB hbF
  clear HR2 HB2 HvB hgb ek ed e1
  have hbB : b < vB.heap.size := by omega
  go_loopw [14, 15] (fun v i wr => ∃ (j : Nat) (N : List Nat), j ≤ len2 ∧ j ≤ 32 ∧ i = .int .i64 j ∧ (j = 0 → v = .slice none 0 0) ∧ Hid (Owns vB.heap.size wr v (nums N)) ∧ Hid (N.length = j ∧ ∀ x ∈ N, x < 256) ∧ Hid (Run 0 b vB wr (newSt A)) ∧ Hid (Below vB.heap.size vB wr)) (fun _ i _ => (len2 - intOf i).toNat)
  case atStart => exact ⟨0, [], by omega, by omega, rfl, fun _ => rfl, owns_nil, ⟨rfl, by simp⟩, HRB, Below.refl _ _⟩
  case round =>
    obtain ⟨j, N, hj1, hj2, rfl, hv0, HO, HN, HR, HW⟩ := hrel
    by_cases hlt : j < len2 ∧ j < 32
    · obtain ⟨hlt1, hlt2⟩ := hlt
      obtain ⟨x, Hx⟩ : ∃ x, Hid (z2.getD j 0 = x) := ⟨_, rfl⟩
      obtain ⟨y, hy, ey, -⟩ := mask_255 x
      obtain ⟨c0, cap, e0, hread⟩ := HCm.out
      rw [HZl.out] at hread
      obtain ⟨ga, oa, e1, hcell⟩ := hread (by omega)
      simp only [Value.slice.injEq] at e0
      obtain ⟨rfl, -, rfl⟩ := e0
      subst e1
      have hwv : Below w.heap.size w wr := HBB.out.trans (rn_old HR hwb HBB.out.size)
      have ca : wr.cell? ⟨ga, oa + j, none⟩ = some (.int .i64 x) := by rw [← Hx.out, hwv.cell (cell_lt (hcell j hlt1))]; exact hcell j hlt1
      clear hread hcell HCm HZl Hx hwv HOb HBB HRB
      have hM : wr.ownsRow vB.heap.size 3 1 u14 (nums N).length ((nums N).map (Value.int .i64)) := HO.out
      have hMl : (nums N).length ≤ 50000 := by rw [nums_length, HN.out.1]; omega
      have hsz : vB.heap.size ≤ wr.heap.size := HW.out.size
      clear HO hv0
      go_wp2_with (at_builtin; refine wpList_append_lies _ rfl _ _ 27 rfl vB.heap.size 3 i0 (.int .i64 0) 1 8 Try.underlying27 hi hz0 hz1 hz2 rfl (by decide) _ _ _ rfl (hM.alloc _) ⟨wr.heap.size, 0, none⟩ 1 1 [.int .i64 (y : Int)] rfl rfl ?c1 ?c2 (by decide) ?c3 ?c4 ?c5 (wr.heap.size + 1) (by simp) ?_)
      case c1 =>
        intro j u hj
        match j, hj with
        | 0, hj => simp at hj; subst hj; simp [Addr.add]
      case c2 => intro u hu; simp at hu; subst hu; rfl
      case c3 => unfold maxLen; omega
      case c4 => omega
      case c5 => simp; omega
      intro g2 cap2 w3 hown hgrow hat hlt2'
      have HO3 : Hid (Owns vB.heap.size w3 (.slice (some ⟨g2, 0, none⟩) ((nums N).length + 1) cap2) (nums (N ++ [y]))) := by
        show w3.ownsRow _ _ _ _ (nums (N ++ [y])).length ((nums (N ++ [y])).map (Value.int .i64))
        rw [nums_append, List.map_append, List.length_append]; exact hown
      have HBl : Below vB.heap.size wr w3 := ((Below.refl _ wr).alloc hsz _).grown hgrow (by simp; omega) fun k hk => (hM.lt k hk).1
      have HR3 := rn_grow HR rfl hbB HBl
      have HN3 : Hid ((N ++ [y]).length = j + 1 ∧ ∀ x ∈ N ++ [y], x < 256) := ⟨by rw [List.length_append, HN.out.1]; rfl, app_lt HN.out.2 (by intro x hx; simp at hx; omega)⟩
      have HW3 : Hid (Below vB.heap.size vB w3) := HW.out.trans HBl
      clear hown hgrow hat hlt2' hM hsz hMl HBl ca
      go_wp2
      go_roundw
      case rel =>
        exact ⟨j + 1, N ++ [y], by omega, by omega, by go_num, fun h => by omega, HO3, HN3, HR3, HW3⟩
      case measure => simp [intOf]; omega
    · rcases (by omega : j = 0 ∨ (0 < j ∧ ¬ j < len2) ∨ (0 < j ∧ j < len2 ∧ ¬ j < 32)) with hq | hq | hq
      · subst hq
        have d1 : decide (((0 : Nat) : Int) < (len2 : Int)) = false := decide_eq_false (by omega)
        have d1' : decide ((0 : Int) < (len2 : Int)) = false := decide_eq_false (by omega)
        have l0 : len2 = 0 := by omega
        subst l0
        obtain rfl := hv0 rfl
        obtain rfl : N = [] := List.eq_nil_of_length_eq_zero HN.out.1
        have HO4 := owns_below HOb HW.out
        have HB4 : Hid (Below w.heap.size w wr) := HBB.out.trans (rn_old HR hwb HBB.out.size)
        have HS := set_script A d
        obtain ⟨s1, Hs1⟩ : ∃ s, Hid ((newSt A).next [(d : Int)] = s) := ⟨_, rfl⟩
        rw [Hs1.out] at HS
        have hs1 : s1.sel = false := HS.2
        obtain ⟨s2, Hs2⟩ : ∃ s, Hid (s1.say (wordL [6]) = s) := ⟨_, rfl⟩
        rw [Hs2.out] at HS
        have HSt : Hid (s2.Set A d) := HS.1
        have hs2 : s2.sel = false := HSt.out.rest.idle.sel
        replace HR := rn_again HR
        clear HS HOb HBB HRB HO HN HW HCm HZl
        go_wp2_with fail
        refine (next_run 0 b _ _ _ _ [(d : Int)] (rn_below HR (below_new _ _)) (lit_reads _ _ [(d : Int)] 1 rfl rfl) ((okL_iff _).2 ⟨show 1 ≤ 16 by decide, by intro x hx; simp at hx; omega⟩)).mono ?_
        rintro e v3 ⟨rfl, HR3, o3⟩
        rw [Hs1.out] at HR3
        replace HO4 := owns_only (owns_below HO4 (below_new _ _)) o3 hbF
        clear o3 HR
        go_wp2_with fail
        refine (word_lit _ _ [6] 1 rfl rfl (by decide) (by decide)).mono ?_
        rintro e v4 ⟨a4, c4, rfl, HOw, b4⟩
        go_wp2_with fail
        refine (say_run _ 0 0 b _ _ _ _ 8 _ (rn_below HR3 b4) hs1 HOw (rn_lt HR3) (wordL_lt _) (by decide) (by decide) rfl).mono ?_
        rintro e v5 ⟨a5, c5, rfl, HOx, HR5, o5⟩
        rw [Hs2.out] at HR5
        replace HO4 := owns_only (owns_below HO4 b4) o5 hbF
        clear HOw HOx b4 o5 HR3 Hs1 Hs2 hs1
        go_wp2_with fail
        refine (word_any _ [2, 0, k / 256, k % 256] _ HO4.out.reads (show 4 ≤ 4000 by decide) (by intro x hx; simp at hx; omega)).mono ?_
        rintro e v6 ⟨a6, c6, rfl, HOw, b6⟩
        go_wp2_with fail
        refine (say_run _ 0 0 b _ _ _ _ 32 _ (rn_below HR5 b6) hs2 HOw (rn_lt HR5) (wordL_lt _) (by simp [wordL_length]) (by decide) (by rw [wordL_length]; rfl)).mono ?_
        rintro e v7 ⟨a7, c7, rfl, HOx, HR7, o7⟩
        rw [set_none HSt.out k hk] at HR7
        clear HOw HOx b6 o7 HR5 HO4
        obtain ⟨W1, cp, hcv, hcp, hby, hbel, hsz⟩ := to_bytes_of v7 A 4096 hA
        have HRW := rn_below HR7 hbel
        clear hby hsz hcp
        go_wp2_with fail
        refine (status_run 0 b _ _ s2 2 s2.second HRW (set_first HSt.out) rfl).mono ?_
        rintro e v8 ⟨rfl, HR8, b8⟩
        have HB8 : Hid (Below w.heap.size w v8) := HB4.out.trans (rn_old HR8 hwb HB4.out.size)
        go_wp2_with fail
        refine (cells_run 0 b _ _ s2 A HR8 HSt.out.A).mono ?_
        rintro e w' ⟨rfl, rfl⟩
        go_wp2
        go_ret
        exact ⟨rfl, HB8.out⟩
      · have d1 : decide ((j : Int) < (len2 : Int)) = false := decide_eq_false (by omega)
        clear hv0
        obtain ⟨a14, c14, rfl⟩ : ∃ a c, u14 = .slice a j c := by
          obtain ⟨a, c, e, _⟩ := HO.out.reads
          rw [nums_length, HN.out.1] at e
          exact ⟨a, c, e⟩
        obtain ⟨gd, rfl, hcd⟩ := owns_some HO (by rw [nums_length, HN.out.1]) (by omega)
        have hgd : vB.heap.size ≤ gd := owns_owned HO (by rw [nums_length, HN.out.1]) (by omega)
        have HO4 := owns_below HOb HW.out
        have HB4 : Hid (Below w.heap.size w wr) := HBB.out.trans (rn_old HR hwb HBB.out.size)
        have HSr := src_here HO
        have hM : wr.ownsRow gb 3 1 (.slice (some ⟨gb, 0, none⟩) 4 4) 4 ((nums [2, 0, k / 256, k % 256]).map (Value.int .i64)) := HO4.out
        have hsz : gb ≤ wr.heap.size := Nat.le_trans (Nat.le_of_lt hFB) HW.out.size
        have HNl : Hid (((nums N).map (Value.int .i64)).length = j * 1) := by rw [Hid, List.length_map, nums_length, HN.out.1]; omega
        go_wp2_with (at_builtin; refine wpList_append_lies _ rfl _ _ 27 rfl gb 3 i0 (.int .i64 0) 1 8 Try.underlying27 hi hz0 hz1 hz2 rfl (by decide) _ _ _ rfl hM ⟨gd, 0, none⟩ j c14 ((nums N).map (Value.int .i64)) rfl HNl.out HSr.out ?c2 (by omega) ?c3 ?c4 ?c5 wr.heap.size rfl ?_)
        case c2 => intro u hu; simp at hu; obtain ⟨x, _, rfl⟩ := hu; rfl
        case c3 => unfold maxLen; omega
        case c4 => omega
        case c5 => exact hsz
        intro g2 cap2 w3 hown hgrow hat hlt2'
        have HO5 : Hid (Owns gb w3 (.slice (some ⟨g2, 0, none⟩) (4 + j) cap2) (nums (2 :: 0 :: k / 256 :: k % 256 :: N))) := by
          show w3.ownsRow _ _ _ _ (nums ([2, 0, k / 256, k % 256] ++ N)).length ((nums ([2, 0, k / 256, k % 256] ++ N)).map (Value.int .i64))
          rw [nums_append, List.map_append, List.length_append, nums_length N, HN.out.1]; exact hown
        have HBg : Below gb wr w3 := (Below.refl _ wr).grown hgrow hsz fun q hq => by cases hq; exact Nat.le_refl _
        have hwg : w.heap.size ≤ gb := by omega
        have HBw : Hid (Below w.heap.size w w3) := HB4.out.trans ((Below.refl _ wr).grown hgrow (HB4.out.size) fun q hq => by cases hq; exact hwg)
        have HOd : Hid (Owns vB.heap.size w3 (.slice (some ⟨gd, 0, none⟩) j c14) (nums N)) := owns_only HO (only_grown hgrow) hFB
        have HRg := rn_past HR rfl hbF HBg
        have HNb : Hid (∀ x ∈ N, x < 256) := HN.out.2
        have HNn : Hid (N.length = j) := HN.out.1
        have HS := set_script A d
        obtain ⟨s1, Hs1⟩ : ∃ s, Hid ((newSt A).next [(d : Int)] = s) := ⟨_, rfl⟩
        rw [Hs1.out] at HS
        have hs1 : s1.sel = false := HS.2
        obtain ⟨s2, Hs2⟩ : ∃ s, Hid (s1.say (wordL [6]) = s) := ⟨_, rfl⟩
        rw [Hs2.out] at HS
        have HSt : Hid (s2.Set A d) := HS.1
        have hs2 : s2.sel = false := HSt.out.rest.idle.sel
        clear hwg HS HOb HBB HRB HO HN HW HR hM hsz HNl HSr hown hgrow hat hlt2' HBg HB4 HO4 HCm HZl hi hz0 hz1 hz2
        go_wp2_with fail
        refine (next_run 0 b _ _ _ _ [(d : Int)] (rn_below HRg (below_new _ _)) (lit_reads _ _ [(d : Int)] 1 rfl rfl) ((okL_iff _).2 ⟨show 1 ≤ 16 by decide, by intro x hx; simp at hx; omega⟩)).mono ?_
        rintro e v3 ⟨rfl, HR3, o3⟩
        rw [Hs1.out] at HR3
        replace HO5 := owns_only (owns_below HO5 (below_new _ _)) o3 hbF
        replace HOd := owns_only (owns_below HOd (below_new _ _)) o3 hbB
        clear o3 HRg
        go_wp2_with fail
        refine (word_lit _ _ [6] 1 rfl rfl (by decide) (by decide)).mono ?_
        rintro e v4 ⟨a4, c4, rfl, HOw, b4⟩
        go_wp2_with fail
        refine (say_run _ 0 0 b _ _ _ _ 8 _ (rn_below HR3 b4) hs1 HOw (rn_lt HR3) (wordL_lt _) (by decide) (by decide) rfl).mono ?_
        rintro e v5 ⟨a5, c5, rfl, HOx, HR5, o5⟩
        rw [Hs2.out] at HR5
        replace HO5 := owns_only (owns_below HO5 b4) o5 hbF
        replace HOd := owns_only (owns_below HOd b4) o5 hbB
        clear HOw HOx b4 o5 HR3 Hs1 Hs2 hs1
        have HLl : Hid ((2 :: 0 :: k / 256 :: k % 256 :: N).length = 4 + j) := by rw [Hid]; simp only [List.length_cons]; rw [HNn.out]; omega
        have HLb : Hid (∀ x ∈ 2 :: 0 :: k / 256 :: k % 256 :: N, x < 256) := by
          intro x hx
          simp only [List.mem_cons] at hx
          rcases hx with rfl | rfl | rfl | rfl | hx
          · decide
          · decide
          · omega
          · omega
          · exact HNb.out x hx
        obtain ⟨K, HK⟩ : ∃ K, Hid (8 * (2 :: 0 :: k / 256 :: k % 256 :: N).length = K) := ⟨_, rfl⟩
        have hK : K ≤ 1000 := by have := HK.out; rw [HLl.out] at this; omega
        go_wp2_with fail
        refine (word_any _ (2 :: 0 :: k / 256 :: k % 256 :: N) _ HO5.out.reads (by rw [HLl.out]; omega) HLb.out).mono ?_
        rw [HK.out]
        rintro e v6 ⟨a6, c6, rfl, HOw, b6⟩
        go_wp2_with fail
        refine (say_run _ 0 0 b _ _ _ _ K _ (rn_below HR5 b6) hs2 HOw (rn_lt HR5) (wordL_lt _) (by rw [wordL_length, HK.out]; omega) (by decide) (by rw [wordL_length]; exact HK.out)).mono ?_
        rintro e v7 ⟨a7, c7, rfl, HOx, HR7, o7⟩
        have HWy : Hid ((s2.say (wordL (2 :: 0 :: k / 256 :: k % 256 :: N))).Way A k N d 0) := set_way HSt.out k hk N HNb.out (by rw [HNn.out]; omega)
        obtain ⟨s3, Hs3⟩ : ∃ s, Hid (s2.say (wordL (2 :: 0 :: k / 256 :: k % 256 :: N)) = s) := ⟨_, rfl⟩
        rw [Hs3.out] at HWy HR7
        replace HOd := owns_only (owns_below HOd b6) o7 hbB
        have HB7 : Hid (Below w.heap.size w v7) := HBw.out.trans (rn_old HR7 hwb HBw.out.size)
        replace HR7 := rn_again HR7
        clear HOw HOx b6 o7 HR5 HO5 HLl HLb HK hK Hs3 HSt hs2 HBw
        obtain ⟨W1, cp, hcv, hcp, hby, hbel, hsz⟩ := to_bytes_of v7 A 4096 hA
        have HBy : Hid (Bytes W1 v7.heap.size 4096 (wantU A k N 0)) := hby.congr (fun q _ => (wantU_zero A k N q).symm)
        have HBe : Hid (Below v7.heap.size v7 W1) := hbel
        have dl : decide ((j : Int) < 1) = false := decide_eq_false (by omega)
        clear hby hsz hbel
        go_wp2_with fail
        go_loopw [19] (fun i wr => ∃ m : Nat, m ≤ j ∧ i = .int .i64 m ∧ Hid (Bytes wr v7.heap.size 4096 (wantU A k N m)) ∧ Hid (Below v7.heap.size v7 wr)) (fun i _ => (j - intOf i).toNat)
        case atStart => exact ⟨0, by omega, rfl, HBy, HBe⟩
        case round =>
          obtain ⟨m, hm, rfl, HBm, HWm⟩ := hrel
          by_cases hlm : m < j
          · obtain ⟨y, Hy⟩ : ∃ y, Hid (N.getD m 0 = y) := ⟨_, rfl⟩
            have hy : y < 256 := by
              rw [← Hy.out, List.getD_eq_getElem?_getD, List.getElem?_eq_getElem (by rw [HNn.out]; exact hlm)]
              exact HNb.out _ (List.getElem_mem _)
            have cd := owns_cell HOd m (by rw [HNn.out]; exact hlm)
            rw [Hy.out] at cd
            have cm : wr.cell? ⟨gd, m, none⟩ = some (.int .i64 (y : Int)) := by rw [HWm.out.cell (cell_lt cd)]; exact cd
            obtain ⟨q, Hq⟩ : ∃ q, Hid (k / 32 * 32 + (k + m) % 32 = q) := ⟨_, rfl⟩
            have hq : q < 4096 := by have := Hq.out; omega
            have hqI : ((k : Int) / 32) * 32 + ((k : Int) + (m : Int)) % 32 = (q : Int) := by rw [← Hq.out]; norm_cast
            have cq0 := (HBm.out q hq).1
            have hw0 : wantU A k N m q = ub A q := by rw [← Hq.out]; exact wantU_here A k N m (by omega)
            rw [hw0] at cq0
            have cq : wr.cell? ⟨v7.heap.size, q, none⟩ = some (.int .u8 ((ub A q).toNat : Int)) := cq0
            have hf := (HBm.out q hq).2
            have i1 : (0 : Int) ≤ (q : Int) := by omega
            have i2 : (q : Int) < 4096 := by omega
            have i3 : (0 : Int) ≤ (m : Int) := by omega
            have i4 : (m : Int) < (j : Int) := by omega
            have hu8 : IntKind.u8.wrap (y : Int) = (y : Int) := by rw [IntKind.wrap_u8]; omega
            clear cq0 cd HOd HB7 HR7 hcv HBy HBe HWy
            go_wp2
            go_region_with (fail)
            all_goals
              go_wp2
              go_roundw
              case rel => exact ⟨m + 1, by omega, by go_num, (HBm.out.set_is q hq (and_walk (ub A q) y hy)).congr (fun p _ => by rw [← Hq.out, ← Hy.out]; exact wantU_succ A k N m (by omega) p), (HWm.out.setCell (Nat.le_refl _) _).drew⟩
              case measure => simp [intOf]; omega
          · obtain rfl : m = j := by omega
            have HRm := rn_below HR7 HWm.out
            have hgne : v7.heap.size ≠ b := by have := rn_lt HR7; omega
            clear HBy HBe HOd hcv HR7 HWm
            go_wp2_with fail
            go_loopw [21] (fun i wr => ∃ (t : Nat) (s : St), 1 ≤ t ∧ t ≤ d ∧ i = .int .i64 t ∧ Hid (s.Way A k N d (t - 1)) ∧ Hid (Run 0 b v7 wr s) ∧ Hid (Bytes wr v7.heap.size 4096 (wantU A k N m))) (fun i _ => (d - intOf i).toNat)
            case atStart => exact ⟨1, s3, by omega, hdp, rfl, HWy, HRm, HBm⟩
            case round =>
              obtain ⟨t, s, ht1, ht2, rfl, HWt, HRt, HBt⟩ := hrel
              have hts : s.sel = false := HWt.out.idle.sel
              by_cases hlt' : t < d
              · have HWn : Hid (s.countDown.Way A k N d (t + 1 - 1)) := by
                  have h9 := way_on HWt.out (show t - 1 + 1 < d by omega)
                  rw [show t - 1 + 1 = t + 1 - 1 by omega] at h9
                  exact h9
                go_wp2_with fail
                refine (clock_run 0 b _ _ _ 0 HRt hts (by decide) (by decide)).mono ?_
                rintro e y1 ⟨rfl, HRu, ou⟩
                have HBu := bytes_only HBt ou hgne
                go_wp2_with fail
                refine (status_run 0 b _ _ _ 3 s.countDown.second HRu (way_first HWn.out (by omega)) rfl).mono ?_
                rintro e y2 ⟨rfl, HRv, bv⟩
                have HBv := bytes_below HBu bv
                clear HRt HRu HBt HBu ou bv HRm HBm HB7 HWy
                go_wp2
                go_roundw
                case rel => exact ⟨t + 1, s.countDown, by omega, by omega, by go_num, HWn, HRv, HBv⟩
                case measure => simp [intOf]; omega
              · obtain rfl : t = d := by omega
                have HDn := way_done HWt.out (show t - 1 + 1 = t by omega)
                have HsA : Hid (s.A = A) := HWt.out.A
                obtain ⟨P, HP⟩ : ∃ P, Hid (progA A k N = P) := ⟨_, rfl⟩
                rw [HP.out] at HDn
                have HP2 : Hid (tab 4096 (wantU A k N m) = P) := by rw [Hid, ← HP.out, ← want_prog A k N (by rw [HNn.out]; omega) hA, HNn.out]
                obtain ⟨s9, Hs9⟩ : ∃ s9, Hid (s.countDown = s9) := ⟨_, rfl⟩
                rw [Hs9.out] at HDn
                have HPA : Hid (s9.A = P) := HDn.1
                have HPf : Hid (s9.first = 0) := HDn.2
                clear HDn HP HRm HBm HWy HNn HNb
                go_wp2_with fail
                refine (cells_run 0 b _ _ s A HRt HsA.out).mono ?_
                rintro e w' ⟨rfl, rfl⟩
                go_wp2_with fail
                refine (clock_run 0 b _ _ _ 0 HRt hts (by decide) (by decide)).mono ?_
                rintro e y1 ⟨rfl, HRu, ou⟩
                rw [Hs9.out] at HRu
                have HBu := bytes_only HBt ou hgne
                clear HBt HRt ou HWt Hs9 hts HsA
                go_wp2_with fail
                refine (status_run 0 b _ _ s9 0 s9.second HRu HPf.out rfl).mono ?_
                rintro e y2 ⟨rfl, HRv, bv⟩
                have HBv := bytes_below HBu bv
                have HRd : Hid (Run 0 b v7 y2.drew s9) := rn_below HRv ((Below.refl _ _).drew)
                have HBd : Hid (Below w.heap.size w y2.drew) := HB7.out.trans (rn_old HRd hwb HB7.out.size)
                have hbk := HBv.out.drew.back cp
                rw [HP2.out] at hbk
                clear HBu HBv HRu HRv bv HB7 HP2 HPf
                go_wp2_with fail
                go_region_held3 (fun v => (convert 34 9 (.slice (some ⟨v7.heap.size, 0, none⟩) 4096 cp)).run Try.prog v = .ok (.string P) v) (exact hbk) (first | (go_at_call 14; refine (cells_run 0 b v7 _ s9 P HRd HPA.out).mono ?_; rintro e w' ⟨rfl, rfl⟩))
                all_goals go_wp2
                all_goals go_ret
                all_goals exact ⟨rfl, HBd.out⟩
      · have d1 : decide ((j : Int) < (len2 : Int)) = true := decide_eq_true (by omega)
        have d2 : decide ((j : Int) < 32) = false := decide_eq_false (by omega)
        clear hv0
        obtain ⟨a14, c14, rfl⟩ : ∃ a c, u14 = .slice a j c := by
          obtain ⟨a, c, e, _⟩ := HO.out.reads
          rw [nums_length, HN.out.1] at e
          exact ⟨a, c, e⟩
        obtain ⟨gd, rfl, hcd⟩ := owns_some HO (by rw [nums_length, HN.out.1]) (by omega)
        have hgd : vB.heap.size ≤ gd := owns_owned HO (by rw [nums_length, HN.out.1]) (by omega)
        have HO4 := owns_below HOb HW.out
        have HB4 : Hid (Below w.heap.size w wr) := HBB.out.trans (rn_old HR hwb HBB.out.size)
        have HSr := src_here HO
        have hM : wr.ownsRow gb 3 1 (.slice (some ⟨gb, 0, none⟩) 4 4) 4 ((nums [2, 0, k / 256, k % 256]).map (Value.int .i64)) := HO4.out
        have hsz : gb ≤ wr.heap.size := Nat.le_trans (Nat.le_of_lt hFB) HW.out.size
        have HNl : Hid (((nums N).map (Value.int .i64)).length = j * 1) := by rw [Hid, List.length_map, nums_length, HN.out.1]; omega
        go_wp2_with (at_builtin; refine wpList_append_lies _ rfl _ _ 27 rfl gb 3 i0 (.int .i64 0) 1 8 Try.underlying27 hi hz0 hz1 hz2 rfl (by decide) _ _ _ rfl hM ⟨gd, 0, none⟩ j c14 ((nums N).map (Value.int .i64)) rfl HNl.out HSr.out ?c2 (by omega) ?c3 ?c4 ?c5 wr.heap.size rfl ?_)
        case c2 => intro u hu; simp at hu; obtain ⟨x, _, rfl⟩ := hu; rfl
        case c3 => unfold maxLen; omega
        case c4 => omega
        case c5 => exact hsz
        intro g2 cap2 w3 hown hgrow hat hlt2'
        have HO5 : Hid (Owns gb w3 (.slice (some ⟨g2, 0, none⟩) (4 + j) cap2) (nums (2 :: 0 :: k / 256 :: k % 256 :: N))) := by
          show w3.ownsRow _ _ _ _ (nums ([2, 0, k / 256, k % 256] ++ N)).length ((nums ([2, 0, k / 256, k % 256] ++ N)).map (Value.int .i64))
          rw [nums_append, List.map_append, List.length_append, nums_length N, HN.out.1]; exact hown
        have HBg : Below gb wr w3 := (Below.refl _ wr).grown hgrow hsz fun q hq => by cases hq; exact Nat.le_refl _
        have hwg : w.heap.size ≤ gb := by omega
        have HBw : Hid (Below w.heap.size w w3) := HB4.out.trans ((Below.refl _ wr).grown hgrow (HB4.out.size) fun q hq => by cases hq; exact hwg)
        have HOd : Hid (Owns vB.heap.size w3 (.slice (some ⟨gd, 0, none⟩) j c14) (nums N)) := owns_only HO (only_grown hgrow) hFB
        have HRg := rn_past HR rfl hbF HBg
        have HNb : Hid (∀ x ∈ N, x < 256) := HN.out.2
        have HNn : Hid (N.length = j) := HN.out.1
        have HS := set_script A d
        obtain ⟨s1, Hs1⟩ : ∃ s, Hid ((newSt A).next [(d : Int)] = s) := ⟨_, rfl⟩
        rw [Hs1.out] at HS
        have hs1 : s1.sel = false := HS.2
        obtain ⟨s2, Hs2⟩ : ∃ s, Hid (s1.say (wordL [6]) = s) := ⟨_, rfl⟩
        rw [Hs2.out] at HS
        have HSt : Hid (s2.Set A d) := HS.1
        have hs2 : s2.sel = false := HSt.out.rest.idle.sel
        clear hwg HS HOb HBB HRB HO HN HW HR hM hsz HNl HSr hown hgrow hat hlt2' HBg HB4 HO4 HCm HZl hi hz0 hz1 hz2
        go_wp2_with fail
        refine (next_run 0 b _ _ _ _ [(d : Int)] (rn_below HRg (below_new _ _)) (lit_reads _ _ [(d : Int)] 1 rfl rfl) ((okL_iff _).2 ⟨show 1 ≤ 16 by decide, by intro x hx; simp at hx; omega⟩)).mono ?_
        rintro e v3 ⟨rfl, HR3, o3⟩
        rw [Hs1.out] at HR3
        replace HO5 := owns_only (owns_below HO5 (below_new _ _)) o3 hbF
        replace HOd := owns_only (owns_below HOd (below_new _ _)) o3 hbB
        clear o3 HRg
        go_wp2_with fail
        refine (word_lit _ _ [6] 1 rfl rfl (by decide) (by decide)).mono ?_
        rintro e v4 ⟨a4, c4, rfl, HOw, b4⟩
        go_wp2_with fail
        refine (say_run _ 0 0 b _ _ _ _ 8 _ (rn_below HR3 b4) hs1 HOw (rn_lt HR3) (wordL_lt _) (by decide) (by decide) rfl).mono ?_
        rintro e v5 ⟨a5, c5, rfl, HOx, HR5, o5⟩
        rw [Hs2.out] at HR5
        replace HO5 := owns_only (owns_below HO5 b4) o5 hbF
        replace HOd := owns_only (owns_below HOd b4) o5 hbB
        clear HOw HOx b4 o5 HR3 Hs1 Hs2 hs1
        have HLl : Hid ((2 :: 0 :: k / 256 :: k % 256 :: N).length = 4 + j) := by rw [Hid]; simp only [List.length_cons]; rw [HNn.out]; omega
        have HLb : Hid (∀ x ∈ 2 :: 0 :: k / 256 :: k % 256 :: N, x < 256) := by
          intro x hx
          simp only [List.mem_cons] at hx
          rcases hx with rfl | rfl | rfl | rfl | hx
          · decide
          · decide
          · omega
          · omega
          · exact HNb.out x hx
        obtain ⟨K, HK⟩ : ∃ K, Hid (8 * (2 :: 0 :: k / 256 :: k % 256 :: N).length = K) := ⟨_, rfl⟩
        have hK : K ≤ 1000 := by have := HK.out; rw [HLl.out] at this; omega
        go_wp2_with fail
        refine (word_any _ (2 :: 0 :: k / 256 :: k % 256 :: N) _ HO5.out.reads (by rw [HLl.out]; omega) HLb.out).mono ?_
        rw [HK.out]
        rintro e v6 ⟨a6, c6, rfl, HOw, b6⟩
        go_wp2_with fail
        refine (say_run _ 0 0 b _ _ _ _ K _ (rn_below HR5 b6) hs2 HOw (rn_lt HR5) (wordL_lt _) (by rw [wordL_length, HK.out]; omega) (by decide) (by rw [wordL_length]; exact HK.out)).mono ?_
        rintro e v7 ⟨a7, c7, rfl, HOx, HR7, o7⟩
        have HWy : Hid ((s2.say (wordL (2 :: 0 :: k / 256 :: k % 256 :: N))).Way A k N d 0) := set_way HSt.out k hk N HNb.out (by rw [HNn.out]; omega)
        obtain ⟨s3, Hs3⟩ : ∃ s, Hid (s2.say (wordL (2 :: 0 :: k / 256 :: k % 256 :: N)) = s) := ⟨_, rfl⟩
        rw [Hs3.out] at HWy HR7
        replace HOd := owns_only (owns_below HOd b6) o7 hbB
        have HB7 : Hid (Below w.heap.size w v7) := HBw.out.trans (rn_old HR7 hwb HBw.out.size)
        replace HR7 := rn_again HR7
        clear HOw HOx b6 o7 HR5 HO5 HLl HLb HK hK Hs3 HSt hs2 HBw
        obtain ⟨W1, cp, hcv, hcp, hby, hbel, hsz⟩ := to_bytes_of v7 A 4096 hA
        have HBy : Hid (Bytes W1 v7.heap.size 4096 (wantU A k N 0)) := hby.congr (fun q _ => (wantU_zero A k N q).symm)
        have HBe : Hid (Below v7.heap.size v7 W1) := hbel
        have dl : decide ((j : Int) < 1) = false := decide_eq_false (by omega)
        clear hby hsz hbel
        go_wp2_with fail
        go_loopw [19] (fun i wr => ∃ m : Nat, m ≤ j ∧ i = .int .i64 m ∧ Hid (Bytes wr v7.heap.size 4096 (wantU A k N m)) ∧ Hid (Below v7.heap.size v7 wr)) (fun i _ => (j - intOf i).toNat)
        case atStart => exact ⟨0, by omega, rfl, HBy, HBe⟩
        case round =>
          obtain ⟨m, hm, rfl, HBm, HWm⟩ := hrel
          by_cases hlm : m < j
          · obtain ⟨y, Hy⟩ : ∃ y, Hid (N.getD m 0 = y) := ⟨_, rfl⟩
            have hy : y < 256 := by
              rw [← Hy.out, List.getD_eq_getElem?_getD, List.getElem?_eq_getElem (by rw [HNn.out]; exact hlm)]
              exact HNb.out _ (List.getElem_mem _)
            have cd := owns_cell HOd m (by rw [HNn.out]; exact hlm)
            rw [Hy.out] at cd
            have cm : wr.cell? ⟨gd, m, none⟩ = some (.int .i64 (y : Int)) := by rw [HWm.out.cell (cell_lt cd)]; exact cd
            obtain ⟨q, Hq⟩ : ∃ q, Hid (k / 32 * 32 + (k + m) % 32 = q) := ⟨_, rfl⟩
            have hq : q < 4096 := by have := Hq.out; omega
            have hqI : ((k : Int) / 32) * 32 + ((k : Int) + (m : Int)) % 32 = (q : Int) := by rw [← Hq.out]; norm_cast
            have cq0 := (HBm.out q hq).1
            have hw0 : wantU A k N m q = ub A q := by rw [← Hq.out]; exact wantU_here A k N m (by omega)
            rw [hw0] at cq0
            have cq : wr.cell? ⟨v7.heap.size, q, none⟩ = some (.int .u8 ((ub A q).toNat : Int)) := cq0
            have hf := (HBm.out q hq).2
            have i1 : (0 : Int) ≤ (q : Int) := by omega
            have i2 : (q : Int) < 4096 := by omega
            have i3 : (0 : Int) ≤ (m : Int) := by omega
            have i4 : (m : Int) < (j : Int) := by omega
            have hu8 : IntKind.u8.wrap (y : Int) = (y : Int) := by rw [IntKind.wrap_u8]; omega
            clear cq0 cd HOd HB7 HR7 hcv HBy HBe HWy
            go_wp2
            go_region_with (fail)
            all_goals
              go_wp2
              go_roundw
              case rel => exact ⟨m + 1, by omega, by go_num, (HBm.out.set_is q hq (and_walk (ub A q) y hy)).congr (fun p _ => by rw [← Hq.out, ← Hy.out]; exact wantU_succ A k N m (by omega) p), (HWm.out.setCell (Nat.le_refl _) _).drew⟩
              case measure => simp [intOf]; omega
          · obtain rfl : m = j := by omega
            have HRm := rn_below HR7 HWm.out
            have hgne : v7.heap.size ≠ b := by have := rn_lt HR7; omega
            clear HBy HBe HOd hcv HR7 HWm
            go_wp2_with fail
            go_loopw [21] (fun i wr => ∃ (t : Nat) (s : St), 1 ≤ t ∧ t ≤ d ∧ i = .int .i64 t ∧ Hid (s.Way A k N d (t - 1)) ∧ Hid (Run 0 b v7 wr s) ∧ Hid (Bytes wr v7.heap.size 4096 (wantU A k N m))) (fun i _ => (d - intOf i).toNat)
            case atStart => exact ⟨1, s3, by omega, hdp, rfl, HWy, HRm, HBm⟩
            case round =>
              obtain ⟨t, s, ht1, ht2, rfl, HWt, HRt, HBt⟩ := hrel
              have hts : s.sel = false := HWt.out.idle.sel
              by_cases hlt' : t < d
              · have HWn : Hid (s.countDown.Way A k N d (t + 1 - 1)) := by
                  have h9 := way_on HWt.out (show t - 1 + 1 < d by omega)
                  rw [show t - 1 + 1 = t + 1 - 1 by omega] at h9
                  exact h9
                go_wp2_with fail
                refine (clock_run 0 b _ _ _ 0 HRt hts (by decide) (by decide)).mono ?_
                rintro e y1 ⟨rfl, HRu, ou⟩
                have HBu := bytes_only HBt ou hgne
                go_wp2_with fail
                refine (status_run 0 b _ _ _ 3 s.countDown.second HRu (way_first HWn.out (by omega)) rfl).mono ?_
                rintro e y2 ⟨rfl, HRv, bv⟩
                have HBv := bytes_below HBu bv
                clear HRt HRu HBt HBu ou bv HRm HBm HB7 HWy
                go_wp2
                go_roundw
                case rel => exact ⟨t + 1, s.countDown, by omega, by omega, by go_num, HWn, HRv, HBv⟩
                case measure => simp [intOf]; omega
              · obtain rfl : t = d := by omega
                have HDn := way_done HWt.out (show t - 1 + 1 = t by omega)
                have HsA : Hid (s.A = A) := HWt.out.A
                obtain ⟨P, HP⟩ : ∃ P, Hid (progA A k N = P) := ⟨_, rfl⟩
                rw [HP.out] at HDn
                have HP2 : Hid (tab 4096 (wantU A k N m) = P) := by rw [Hid, ← HP.out, ← want_prog A k N (by rw [HNn.out]; omega) hA, HNn.out]
                obtain ⟨s9, Hs9⟩ : ∃ s9, Hid (s.countDown = s9) := ⟨_, rfl⟩
                rw [Hs9.out] at HDn
                have HPA : Hid (s9.A = P) := HDn.1
                have HPf : Hid (s9.first = 0) := HDn.2
                clear HDn HP HRm HBm HWy HNn HNb
                go_wp2_with fail
                refine (cells_run 0 b _ _ s A HRt HsA.out).mono ?_
                rintro e w' ⟨rfl, rfl⟩
                go_wp2_with fail
                refine (clock_run 0 b _ _ _ 0 HRt hts (by decide) (by decide)).mono ?_
                rintro e y1 ⟨rfl, HRu, ou⟩
                rw [Hs9.out] at HRu
                have HBu := bytes_only HBt ou hgne
                clear HBt HRt ou HWt Hs9 hts HsA
                go_wp2_with fail
                refine (status_run 0 b _ _ s9 0 s9.second HRu HPf.out rfl).mono ?_
                rintro e y2 ⟨rfl, HRv, bv⟩
                have HBv := bytes_below HBu bv
                have HRd : Hid (Run 0 b v7 y2.drew s9) := rn_below HRv ((Below.refl _ _).drew)
                have HBd : Hid (Below w.heap.size w y2.drew) := HB7.out.trans (rn_old HRd hwb HB7.out.size)
                have hbk := HBv.out.drew.back cp
                rw [HP2.out] at hbk
                clear HBu HBv HRu HRv bv HB7 HP2 HPf
                go_wp2_with fail
                go_region_held3 (fun v => (convert 34 9 (.slice (some ⟨v7.heap.size, 0, none⟩) 4096 cp)).run Try.prog v = .ok (.string P) v) (exact hbk) (first | (go_at_call 14; refine (cells_run 0 b v7 _ s9 P HRd HPA.out).mono ?_; rintro e w' ⟨rfl, rfl⟩))
                all_goals go_wp2
                all_goals go_ret
                all_goals exact ⟨rfl, HBd.out⟩

set_option maxRecDepth 100000 in
theorem lifted (os : Os) (started : os.Started) (H : Type) (enc : TypeId × Value → H) :
    ReturnsInHanded {} Try.checked os 4 .any (Rows.chipPagesSpec.pre6 enc Try.prog Try.f4 Rows.chipPagesRow.domain false) (Rows.chipPagesSpec.post enc Try.prog Try.f4 false true false false) := by
  refine returnsInHanded_of_change_sized (C := Try.checked) own started (by kernel_rfl) Try.func4
    (ChangeSpec.witness6 (enc := enc) (C := Try.checked) false ⟨#[], #[.string ByteArray.empty, .int .i64 0, .slice none 0 0, .int .i64 0], []⟩ 8 (by kernel_rfl) (by kernel_rfl) (by kernel_rfl) (by kernel_rfl)) ?_
  intro W base args ds gs before hval0 hW hcnd hsz0 _
  have hsz : (DataW.weightsEach Try.prog (Try.f4.params.toList ++ Rows.chipPagesSpec.plain.varTypes Try.prog) (ds ++ gs)).all (· ≤ reachBytes) = true := hsz0
  clear hsz0
  have hval : ∀ (j : Nat) t v, Try.f4.params[j]? = some t → args[j]? = some v → Value.okWide Try.prog W .any base t v := hval0
  have hW' := hW
  obtain ⟨p, q, hA0, hV, rfl, hfz, hnd⟩ := hW
  have hA : DataW.TrodAll enc Try.prog W 0 (fun _ => true) true Try.f4.params.toList args.toList ds p := hA0
  rw [Try.params4] at hA hval hsz
  obtain ⟨v0, vs0, d0, ds0, p0, q0, hargs, rfl, rfl, h0, r0⟩ := trodAll_cons hA
  obtain ⟨v1, vs1, d1, ds1, p1, q1, rfl, rfl, rfl, h1, r1⟩ := trodAll_cons r0
  obtain ⟨v2, vs2, d2, ds2, p2, q2, rfl, rfl, rfl, h2, r2⟩ := trodAll_cons r1
  obtain ⟨v3, vs3, d3, ds3, p3, q3, rfl, rfl, rfl, h3, r3⟩ := trodAll_cons r2
  obtain ⟨rfl, rfl, rfl⟩ := trodAll_nil r3
  obtain rfl : args = #[v0, v1, v2, v3] := by cases args; simp_all
  obtain ⟨rfl, rfl⟩ := trodVars_none hV
  obtain ⟨a0, rfl, rfl, rfl, w0⟩ := open_string Try.underlying9 (hval 0 9 v0 rfl rfl) h0
  obtain ⟨a1, rfl, rfl, rfl, w1⟩ := open_int Try.underlying3 (hval 1 3 v1 rfl rfl) h1
  obtain ⟨a2, len2, cap2, rfl⟩ := okWide_slice Try.underlying27 (hval 2 27 v2 rfl rfl)
  have k2 := h2
  have lt2 : ∀ x ∈ p2, x.block < W.heap.size := by obtain ⟨m, hm⟩ := k2; exact DataW.trod_lt m _ _ _ hm
  obtain ⟨z2, w2, s2⟩ : ∃ zs, Came W a2 len2 cap2 zs ∧ len2 * 8 ≤ 140737488351232 := by
    obtain ⟨fuel, hf⟩ := h2
    rcases open_ints Try.underlying27 Try.underlying3 (by kernel_rfl) hf with ⟨hcs, _⟩ | ⟨x, l, c, zs, hcs, _, hl, hm, hz, hx, hcell, hwz⟩
    · simp [Value.cells] at hcs
      obtain ⟨rfl, rfl, rfl⟩ := hcs
      exact ⟨[], ⟨rfl, .inl ⟨rfl, rfl, rfl⟩⟩, by omega⟩
    · simp [Value.cells] at hcs
      obtain ⟨rfl, rfl, rfl⟩ := hcs
      simp only [Prod.mk.injEq] at hx
      obtain ⟨rfl, -⟩ := hx
      have hzl : zs.length = cap2 := by simpa using hz
      have hreach := sized_slice hsz (j := 2) (t := 27) (e := 3) rfl rfl Try.underlying27
      rw [show Try.prog.bytesOf 3 = 8 from by kernel_rfl] at hreach
      simp only [lits, List.length_map, List.length_take, List.length_drop, reachBytes] at hreach
      exact ⟨zs.take len2, came_of hl hzl hcell, by omega⟩
  obtain ⟨a3, rfl, rfl, rfl, w3⟩ := open_int Try.underlying3 (hval 3 3 v3 rfl rfl) h3
  clear hA0 hval0
  refine (walk a0 a1 a2 len2 cap2 z2 a3 W w0 w1 w2 s2 w3).mono fun e W' ⟨he, bel⟩ => ?_
  subst he
  exact ⟨_, rfl, _, _, _, [], _, [], hW', trodAll_mk1 (shut_bool Try.underlying4 _), (trodAll_cons_mk (shut_string Try.underlying9 w0) (trodAll_cons_mk (shut_int Try.underlying3 w1) (trodAll_cons_mk (Below.trod laidOut (by kernel_rfl) (of_decide_eq_true (by kernel_rfl)) k2 bel lt2) (trodAll_cons_mk (shut_int Try.underlying3 w3) trodAll_mk0)))), rfl, bel.frame _, fun h => by cases h⟩

theorem over : Rows.chipPagesRow.holds Try.pinned (OpenSpec.ofChange Rows.chipPagesSpec) :=
  OpenClaim.holds_of_wide 4 Try.f4 rfl rfl rfl rfl rfl rfl rfl ⟨rfl, rfl, rfl, rfl, rfl⟩ rfl rfl rfl rfl rfl (by kernel_rfl) Try.func4 (by kernel_rfl)
    (of_decide_eq_true (by kernel_rfl)) (by unfold Func.isWrapper; first | (rw [if_pos (by decide +kernel)]; kernel_rfl) | (rw [if_neg (by decide +kernel)]; exact ⟨rfl, rfl⟩))
    (fun os started H enc _ => lifted os started H enc)

theorem proved : Rows.ChipPagesSaid := over
#print axioms proved
end Go.Proofs.Ythhchfldgkgfpaa.chipPages
