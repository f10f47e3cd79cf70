/-
  Lines: a Keep, a Find, a May and New, the program's and the document's, answer alike; the cache that came in stays. No conditions.
-/
import Derived.Test.YtbcdfobclliboaaRows
import Derived.Test.YtbcdfobclliboaaLinesF
import Derived.WalkKit
import Derived.ProofKit
import Derived.OpenShut
import Derived.ShutString
import Derived.ChangeOld
import Derived.SizedLaws
import Derived.Below
namespace Go.Proofs.Ytbcdfobclliboaa.lines
open Go.Proofs.Ytbcdfobclliboaa.Plain
open Go.ChangeShapes Go.WideShapes Go.ChangeAt Go.RowKit
open Go.ChangeMaps (open_string shut_string)
set_option linter.unusedVariables false

theorem own : ownKnob Try.prog.godebug = none := by kernel_rfl
theorem laidOut : laidOutB Try.prog = true := by kernel_rfl

set_option maxRecDepth 100000 in
set_option maxHeartbeats 8000000 in
theorem walk (cq1 : Option Addr) (cn1 cp1 : Nat) (cq2 : Option Addr) (cn2 cp2 : Nat) (cy : Int) (A : List Int) (T : List ByteArray) (a : Int) (s : ByteArray) (p : Int) (w : World) (hC : CC w cq1 cn1 cp1 cq2 cn2 cp2 A T) (hF : Fit A T) (hs : s.size ≤ maxLen) (hp : -9223372036854775808 ≤ p ∧ p < 9223372036854775808) :
    Calls Try.prog 3 #[.agg #[.slice cq1 cn1 cp1, .slice cq2 cn2 cp2, .int .i64 cy], .int .i64 a, .string s, .int .i64 p] w fun e w' => e = .returned (.bool true) ∧ Below w.heap.size w w' := by
  have HF : Hid (Fit A T) := hF
  have HS : Hid (s.size ≤ maxLen) := hs
  have HP : Hid (-9223372036854775808 ≤ p ∧ p < 9223372036854775808) := hp
  obtain ⟨E, hE⟩ : ∃ E, Hid (gE A T cy a s = E) := ⟨_, rfl⟩
  obtain ⟨V, hV⟩ : ∃ V, Hid (fV A T cy p = V) := ⟨_, rfl⟩
  obtain ⟨B, hB⟩ : ∃ B, Hid (fB A T cy p = B) := ⟨_, rfl⟩
  obtain ⟨M, hM⟩ : ∃ M, Hid (mayB A T cy = M) := ⟨_, rfl⟩
  obtain ⟨GA, hGA⟩ : ∃ G, Hid (gA A T cy a s = G) := ⟨_, rfl⟩
  obtain ⟨GT, hGT⟩ : ∃ G, Hid (gT A T cy a s = G) := ⟨_, rfl⟩
  obtain ⟨GX, hGX⟩ : ∃ G, Hid (gX A T cy a s = G) := ⟨_, rfl⟩
  have HGF : Hid (Fit GA GT) := by rw [← hGA.out, ← hGT.out]; exact g_fit A T cy a s
  have HGS : Hid (GA.length ≤ 2 ∧ GT.length ≤ 2 ∧ ∀ t ∈ GT, t.size ≤ 16) := by rw [← hGA.out, ← hGT.out]; exact g_short A T cy a s
  have HBo0 : Hid (Bo (w.alloc (.cells #[.slice cq1 cn1 cp1, .slice cq2 cn2 cp2, .int .i64 cy] 25)) w.heap.size cq1 cn1 cp1 cq2 cn2 cp2 cy A T) := ⟨Blk.new _ _ _ _ rfl, (hC.reads cy).below (below_new _ _)⟩
  have HCC : Hid (CC (w.alloc (.cells #[.slice cq1 cn1 cp1, .slice cq2 cn2 cp2, .int .i64 cy] 25)) cq1 cn1 cp1 cq2 cn2 cp2 A T) := ⟨hC.1.below (below_new _ _), hC.2.below (below_new _ _)⟩
  have HB0 : Hid (Below w.heap.size w (w.alloc (.cells #[.slice cq1 cn1 cp1, .slice cq2 cn2 cp2, .int .i64 cy] 25))) := below_new _ _
  clear hC hF hs hp
  go_enter Try.func3, Try.ntmps3
  go_upto_region 1 with fail
  generalize w.alloc (.cells #[.slice cq1 cn1 cp1, .slice cq2 cn2 cp2, .int .i64 cy] 25) = W0 at HBo0 HCC HB0 ⊢
  obtain ⟨b0, hb0⟩ : ∃ b, b = w.heap.size := ⟨_, rfl⟩
  rw [← hb0] at HBo0 ⊢
  clear hb0
  obtain ⟨e0, e1, e2⟩ := HBo0.out.cells
  go_wp2_with fail
  refine (copy_any _ _ _ _ _ _ _ _ _ _ HCC.out HF.out).mono ?_
  rintro e w1 ⟨xq1, xn1, xp1, xq2, xn2, xp2, rfl, hX, hb⟩
  have HX1 : Hid (Va W0.heap.size (w1.alloc (.cells #[.slice xq1 xn1 xp1, .slice xq2 xn2 xp2, .int .i64 cy] 25)) w1.heap.size xq1 xn1 xp1 xq2 xn2 xp2 cy A T cy) := Va.new hX
  have hb' := below_then hb (below_new w1 (.cells #[.slice xq1 xn1 xp1, .slice xq2 xn2 xp2, .int .i64 cy] 25))
  have HBo1 : Hid (Bo (w1.alloc (.cells #[.slice xq1 xn1 xp1, .slice xq2 xn2 xp2, .int .i64 cy] 25)) b0 cq1 cn1 cp1 cq2 cn2 cp2 cy A T) := HBo0.out.below hb'
  have HB1 : Hid (Below w.heap.size w (w1.alloc (.cells #[.slice xq1 xn1 xp1, .slice xq2 xn2 xp2, .int .i64 cy] 25))) := below_then HB0.out hb'
  clear hX hb hb' HBo0 HCC HB0 e0 e1 e2
  go_upto_region 2 with fail
  generalize w1.alloc (.cells #[.slice xq1 xn1 xp1, .slice xq2 xn2 xp2, .int .i64 cy] 25) = Wk at HX1 HBo1 HB1 ⊢
  obtain ⟨xb, hxb⟩ : ∃ b, b = w1.heap.size := ⟨_, rfl⟩
  rw [← hxb] at HX1 ⊢
  clear hxb
  obtain ⟨e0, e1, e2⟩ := HX1.out.cells
  go_wp2_with fail
  refine (keep_told _ A T cy a s _ HX1.out.own.reads HF.out HS.out).mono ?_
  rintro e w2 ⟨aq1, an1, ap1, aq2, an2, ap2, ay, rfl, hA, hb⟩
  rw [hE.out]
  rw [hGA.out, hGT.out, hGX.out] at hA
  have HA2 : Hid (Va Wk.heap.size (w2.alloc (.cells #[.slice aq1 an1 ap1, .slice aq2 an2 ap2, .int .i64 ay] 25)) w2.heap.size aq1 an1 ap1 aq2 an2 ap2 ay GA GT GX) := Va.new hA
  have BK2 : Hid (Below Wk.heap.size Wk (w2.alloc (.cells #[.slice aq1 an1 ap1, .slice aq2 an2 ap2, .int .i64 ay] 25))) := below_then hb (below_new _ _)
  have hal : Hid (Wk.heap.size ≤ w2.heap.size) := hb.size
  clear hA hb e0 e1 e2
  go_upto_region 3 with fail
  generalize w2.alloc (.cells #[.slice aq1 an1 ap1, .slice aq2 an2 ap2, .int .i64 ay] 25) = W2 at HA2 BK2 ⊢
  obtain ⟨ab, hab⟩ : ∃ b, b = w2.heap.size := ⟨_, rfl⟩
  rw [← hab] at HA2 ⊢
  clear hab hal
  have HBo2 : Hid (Bo W2 b0 cq1 cn1 cp1 cq2 cn2 cp2 cy A T) := HBo1.out.below BK2.out
  obtain ⟨e0, e1, e2⟩ := HBo2.out.cells
  go_wp2_with fail
  refine (refKeep_told _ A T cy a s _ HBo2.out.reads HF.out HS.out).mono ?_
  rintro e w3 ⟨bq1, bn1, bp1, bq2, bn2, bp2, b_y, rfl, hA, hb⟩
  rw [hE.out]
  rw [hGA.out, hGT.out, hGX.out] at hA
  have HR3 : Hid (Va W2.heap.size (w3.alloc (.cells #[.slice bq1 bn1 bp1, .slice bq2 bn2 bp2, .int .i64 b_y] 25)) w3.heap.size bq1 bn1 bp1 bq2 bn2 bp2 b_y GA GT GX) := Va.new hA
  have hb' := below_then hb (below_new w3 (.cells #[.slice bq1 bn1 bp1, .slice bq2 bn2 bp2, .int .i64 b_y] 25))
  have HA3 : Hid (Va Wk.heap.size (w3.alloc (.cells #[.slice bq1 bn1 bp1, .slice bq2 bn2 bp2, .int .i64 b_y] 25)) ab aq1 an1 ap1 aq2 an2 ap2 ay GA GT GX) := HA2.out.below hb' (Nat.le_refl _)
  have BK3 : Hid (Below Wk.heap.size Wk (w3.alloc (.cells #[.slice bq1 bn1 bp1, .slice bq2 bn2 bp2, .int .i64 b_y] 25))) := below_then BK2.out hb'
  clear hA hb hb' HA2 BK2 HBo2 e0 e1 e2
  go_upto_region 4 with fail
  generalize w3.alloc (.cells #[.slice bq1 bn1 bp1, .slice bq2 bn2 bp2, .int .i64 b_y] 25) = W3 at HR3 HA3 BK3 ⊢
  obtain ⟨rb, hrb⟩ : ∃ b, b = w3.heap.size := ⟨_, rfl⟩
  rw [← hrb] at HR3 ⊢
  clear hrb
  have HX3 : Hid (Va W0.heap.size W3 xb xq1 xn1 xp1 xq2 xn2 xp2 cy A T cy) := HX1.out.below BK3.out (Nat.le_refl _)
  have HBo3 : Hid (Bo W3 b0 cq1 cn1 cp1 cq2 cn2 cp2 cy A T) := HBo1.out.below BK3.out
  obtain ⟨e0, e1, e2⟩ := HX3.out.cells
  obtain ⟨d0, d1, d2⟩ := HBo3.out.cells
  go_wp2_with fail
  refine (find_any _ A T cy p _ HX3.out.own.reads HF.out HP.out).mono ?_
  rintro e w4 ⟨rfl, hb⟩
  rw [hV.out, hB.out]
  have HBo4 : Hid (Bo w4 b0 cq1 cn1 cp1 cq2 cn2 cp2 cy A T) := HBo3.out.below hb
  have HA4 : Hid (Va Wk.heap.size w4 ab aq1 an1 ap1 aq2 an2 ap2 ay GA GT GX) := HA3.out.below hb (Nat.le_refl _)
  have HR4 : Hid (Va W2.heap.size w4 rb bq1 bn1 bp1 bq2 bn2 bp2 b_y GA GT GX) := HR3.out.below hb (Nat.le_refl _)
  have BK4 : Hid (Below Wk.heap.size Wk w4) := below_then BK3.out hb
  clear hb HX3 HBo3 HA3 HR3 BK3 e0 e1 e2 d0 d1 d2
  obtain ⟨d0, d1, d2⟩ := HBo4.out.cells
  go_wp2_with fail
  refine (refFind_any _ A T cy p _ HBo4.out.reads HF.out HP.out).mono ?_
  rintro e w5 ⟨rfl, hb⟩
  rw [hV.out, hB.out]
  have HA5 : Hid (Va Wk.heap.size w5 ab aq1 an1 ap1 aq2 an2 ap2 ay GA GT GX) := HA4.out.below hb (Nat.le_refl _)
  have HR5 : Hid (Va W2.heap.size w5 rb bq1 bn1 bp1 bq2 bn2 bp2 b_y GA GT GX) := HR4.out.below hb (Nat.le_refl _)
  have BK5 : Hid (Below Wk.heap.size Wk w5) := below_then BK4.out hb
  clear hb HBo4 HA4 HR4 BK4 d0 d1 d2
  have HX5 : Hid (Va W0.heap.size w5 xb xq1 xn1 xp1 xq2 xn2 xp2 cy A T cy) := HX1.out.below BK5.out (Nat.le_refl _)
  have HBo5 : Hid (Bo w5 b0 cq1 cn1 cp1 cq2 cn2 cp2 cy A T) := HBo1.out.below BK5.out
  obtain ⟨W, hW⟩ : ∃ W, W = w5 := ⟨_, rfl⟩
  subst hW
  go_upto_region 6 with fail
  go_cut [79] from 80 (fun v z => Hid (v = .bool false) ∧ Hid (Below W.heap.size W z))
  case first => as_aux_lemma =>
    have K0 : Below W.heap.size W W.drew := (Below.refl W.heap.size W).drew
    have RA := (HA5.out.below K0 (Nat.le_refl _)).own.reads
    have RB := (HR5.out.below K0 (Nat.le_refl _)).own.reads
    have HSB : Hid (∀ z, Below W.heap.size W z → z.cell? ⟨xb, 0, none⟩ = some (.slice xq1 xn1 xp1) ∧ z.cell? ⟨xb, 1, none⟩ = some (.slice xq2 xn2 xp2) ∧ z.cell? ⟨xb, 2, none⟩ = some (.int .i64 cy) ∧ z.cell? ⟨ab, 0, none⟩ = some (.slice aq1 an1 ap1) ∧ z.cell? ⟨ab, 1, none⟩ = some (.slice aq2 an2 ap2) ∧ z.cell? ⟨ab, 2, none⟩ = some (.int .i64 ay) ∧ z.cell? ⟨rb, 0, none⟩ = some (.slice bq1 bn1 bp1) ∧ z.cell? ⟨rb, 1, none⟩ = some (.slice bq2 bn2 bp2) ∧ z.cell? ⟨rb, 2, none⟩ = some (.int .i64 b_y) ∧ z.cell? ⟨b0, 0, none⟩ = some (.slice cq1 cn1 cp1) ∧ z.cell? ⟨b0, 1, none⟩ = some (.slice cq2 cn2 cp2) ∧ z.cell? ⟨b0, 2, none⟩ = some (.int .i64 cy)) := fun z hz => by
      obtain ⟨x0, x1, x2⟩ := (HX5.out.below hz (Nat.le_refl _)).cells
      obtain ⟨a0, a1, a2⟩ := (HA5.out.below hz (Nat.le_refl _)).cells
      obtain ⟨r0, r1, r2⟩ := (HR5.out.below hz (Nat.le_refl _)).cells
      obtain ⟨c0, c1, c2⟩ := (HBo5.out.below hz).cells
      exact ⟨x0, x1, x2, a0, a1, a2, r0, r1, r2, c0, c1, c2⟩
    go_region_held3 (fun z => z.cell? ⟨xb, 0, none⟩ = some (.slice xq1 xn1 xp1) ∧ z.cell? ⟨xb, 1, none⟩ = some (.slice xq2 xn2 xp2) ∧ z.cell? ⟨xb, 2, none⟩ = some (.int .i64 cy) ∧ z.cell? ⟨ab, 0, none⟩ = some (.slice aq1 an1 ap1) ∧ z.cell? ⟨ab, 1, none⟩ = some (.slice aq2 an2 ap2) ∧ z.cell? ⟨ab, 2, none⟩ = some (.int .i64 ay) ∧ z.cell? ⟨rb, 0, none⟩ = some (.slice bq1 bn1 bp1) ∧ z.cell? ⟨rb, 1, none⟩ = some (.slice bq2 bn2 bp2) ∧ z.cell? ⟨rb, 2, none⟩ = some (.int .i64 b_y) ∧ z.cell? ⟨b0, 0, none⟩ = some (.slice cq1 cn1 cp1) ∧ z.cell? ⟨b0, 1, none⟩ = some (.slice cq2 cn2 cp2) ∧ z.cell? ⟨b0, 2, none⟩ = some (.int .i64 cy)) ((refine HSB.out _ ?_; first | with_reducible exact K0 | with_reducible exact B13 | with_reducible exact B15 | with_reducible exact B16 | with_reducible exact B17 | with_reducible exact B18 | with_reducible exact B19))
      (first | (go_at_call 13; refine (same_cache _ _ _ _ _ _ _ _ _ (by with_reducible exact RA) (by with_reducible exact RB) HGF.out HGF.out).mono ?_; rintro e w13 ⟨rfl, b13⟩; rw [same_yes]; (have B13 := below_then K0 b13)) | (go_at_call 14; refine (num_any _ _).mono ?_; rintro e w' ⟨rfl, rfl⟩) | (go_at_call 15; refine (may_any _ _ _ _ _ (by first | with_reducible exact (HX5.out.below B13 (Nat.le_refl _)).own.reads | with_reducible exact (HX5.out.below B16 (Nat.le_refl _)).own.reads) HF.out).mono ?_; rintro e w15 ⟨rfl, b15⟩; rw [hM.out]; (first | (with_reducible have B15 := below_then B13 b15) | (with_reducible have B15 := below_then B16 b15))) | (go_at_call 16; refine (refMay_any _ _ _ _ _ (by first | with_reducible exact (HBo5.out.below B13).reads | with_reducible exact (HBo5.out.below B15).reads) HF.out).mono ?_; rintro e w16 ⟨rfl, b16⟩; rw [hM.out]; (first | (with_reducible have B16 := below_then B13 b16) | (with_reducible have B16 := below_then B15 b16))) | (go_at_call 17; refine (new_any _).mono ?_; rintro e w17 ⟨uq1, un1, up1, uq2, un2, up2, rfl, hU, b17⟩; (first | (with_reducible have B17 := below_then B18 b17) | (with_reducible have B17 := below_then B15 b17) | (with_reducible have B17 := below_then B16 b17)); (have RU := hU.reads); (try (with_reducible have RV2 := RVv.below b17))) | (go_at_call 18; refine (refNew_any _).mono ?_; rintro e w18 ⟨vq1, vn1, vp1, vq2, vn2, vp2, rfl, hVv, b18⟩; (first | (with_reducible have B18 := below_then B17 b18) | (with_reducible have B18 := below_then B15 b18) | (with_reducible have B18 := below_then B16 b18)); (have RVv := hVv.reads); (try (with_reducible have RU2 := RU.below b18))) | (go_at_call 13; first | (refine (same_cache _ _ _ _ _ _ _ _ _ (by with_reducible exact RU2) (by with_reducible exact RVv) new_fit new_fit).mono ?_; rintro e w19 ⟨rfl, b19⟩; rw [same_yes]; (have B19 := below_then B18 b19)) | (refine (same_cache _ _ _ _ _ _ _ _ _ (by with_reducible exact RU) (by with_reducible exact RV2) new_fit new_fit).mono ?_; rintro e w19 ⟨rfl, b19⟩; rw [same_yes]; (have B19 := below_then B17 b19))))
    all_goals go_wp2_with fail
    all_goals go_meet
    all_goals exact ⟨rfl, B19⟩
  case rest =>
    obtain ⟨hv, hb⟩ := hcut
    have e79 := hv.out
    subst e79
    have HA6 : Hid (Va Wk.heap.size wc ab aq1 an1 ap1 aq2 an2 ap2 ay GA GT GX) := HA5.out.below hb.out (Nat.le_refl _)
    have BK6 : Hid (Below Wk.heap.size Wk wc) := below_then BK5.out hb.out
    clear hv hb HA5 HR5 BK5 HX5 HBo5
    obtain ⟨e0, e1, e2⟩ := HA6.out.cells
    go_wp2_with fail
    refine (spoil_cache Wk.heap.size _ GA GT GX _ HA6.out.own BK6.out.size (by have := HGS.out; omega) (by have := HGS.out; omega) HGS.out.2.2).mono ?_
    rintro e w7 ⟨rfl, hb⟩
    have BK7 : Hid (Below Wk.heap.size Wk w7) := BK6.out.trans hb
    clear hb BK6 HA6 e0 e1 e2
    go_wp2_with fail
    refine (new_any _).mono ?_
    rintro e w8 ⟨uq1, un1, up1, uq2, un2, up2, rfl, hU, hb⟩
    have HU8 : Hid (Va w7.heap.size (w8.alloc (.cells #[.slice uq1 un1 up1, .slice uq2 un2 up2, .int .i64 0] 25)) w8.heap.size uq1 un1 up1 uq2 un2 up2 0 [-1, -1] [ByteArray.empty, ByteArray.empty] 0) := Va.new hU
    have BK8 : Hid (Below Wk.heap.size Wk (w8.alloc (.cells #[.slice uq1 un1 up1, .slice uq2 un2 up2, .int .i64 0] 25))) := below_then (below_then BK7.out hb) (below_new _ _)
    have hle : Hid (Wk.heap.size ≤ w7.heap.size) := BK7.out.size
    clear hU hb BK7
    go_upto_region 10 with fail
    generalize w8.alloc (.cells #[.slice uq1 un1 up1, .slice uq2 un2 up2, .int .i64 0] 25) = W8 at HU8 BK8 ⊢
    obtain ⟨ub', hub⟩ : ∃ b, b = w8.heap.size := ⟨_, rfl⟩
    rw [← hub] at HU8 ⊢
    clear hub
    obtain ⟨e0, e1, e2⟩ := HU8.out.cells
    go_wp2_with fail
    refine (spoil_cache Wk.heap.size _ _ _ _ _ (HU8.out.below (Below.refl _ _) hle.out).own BK8.out.size (by decide) (by decide) (fun t ht => by simp at ht; subst ht; decide)).mono ?_
    rintro e w9 ⟨rfl, hb⟩
    have BK9 : Hid (Below Wk.heap.size Wk w9) := BK8.out.trans hb
    clear hb BK8 HU8 e0 e1 e2
    have HX9 : Hid (Va W0.heap.size w9 xb xq1 xn1 xp1 xq2 xn2 xp2 cy A T cy) := HX1.out.below BK9.out (Nat.le_refl _)
    have HBo9 : Hid (Bo w9 b0 cq1 cn1 cp1 cq2 cn2 cp2 cy A T) := HBo1.out.below BK9.out
    obtain ⟨e0, e1, e2⟩ := HX9.out.cells
    obtain ⟨d0, d1, d2⟩ := HBo9.out.cells
    go_wp2_with fail
    refine (same_cache _ _ _ _ _ _ _ _ _ HX9.out.own.reads HBo9.out.reads HF.out HF.out).mono ?_
    rintro e w10 ⟨rfl, hb⟩
    rw [same_yes]
    have HB10 : Hid (Below w.heap.size w w10) := below_then (below_then HB1.out BK9.out) hb
    clear hb BK9 HX9 HBo9 HX1 HBo1 HB1 e0 e1 e2 d0 d1 d2
    go_wp2_with fail
    refine (new_any _).mono ?_
    rintro e w11 ⟨uq1, un1, up1, uq2, un2, up2, rfl, hU, hb⟩
    have HU11 : Hid (CR w11 (.agg #[.slice uq1 un1 up1, .slice uq2 un2 up2, .int .i64 0]) [-1, -1] [ByteArray.empty, ByteArray.empty] 0) := hU.reads
    have HB11 : Hid (Below w.heap.size w w11) := below_then HB10.out hb
    clear hU hb HB10
    go_wp2_with fail
    refine (refNew_any _).mono ?_
    rintro e w12 ⟨vq1, vn1, vp1, vq2, vn2, vp2, rfl, hVv, hb⟩
    have HU12 : Hid (CR w12 (.agg #[.slice uq1 un1 up1, .slice uq2 un2 up2, .int .i64 0]) [-1, -1] [ByteArray.empty, ByteArray.empty] 0) := HU11.out.below hb
    have HV12 : Hid (CR w12 (.agg #[.slice vq1 vn1 vp1, .slice vq2 vn2 vp2, .int .i64 0]) [-1, -1] [ByteArray.empty, ByteArray.empty] 0) := hVv.reads
    have HB12 : Hid (Below w.heap.size w w12) := below_then HB11.out hb
    clear hVv hb HB11 HU11
    go_wp2_with fail
    refine (same_cache _ _ _ _ _ _ _ _ _ HU12.out HV12.out new_fit new_fit).mono ?_
    rintro e w13 ⟨rfl, hb⟩
    rw [same_yes]
    have HB13 : Hid (Below w.heap.size w w13) := below_then HB12.out hb
    clear hb HB12 HU12 HV12
    go_wp2_with fail
    refine (awake_any _).mono ?_
    rintro e w14 ⟨rfl, hb⟩
    go_wp2_with fail
    go_ret
    exact ⟨rfl, below_then HB13.out hb⟩

set_option maxRecDepth 100000 in
theorem lifted (os : Os) (started : os.Started) (H : Type) (enc : TypeId × Value → H) :
    ReturnsInHanded {} Try.checked os 3 .any (Rows.linesSpec.pre6 enc Try.prog Try.f3 Rows.linesRow.domain false) (Rows.linesSpec.post enc Try.prog Try.f3 false true false false) := by
  refine returnsInHanded_of_change_sized (C := Try.checked) own started (by kernel_rfl) Try.func3
    (ChangeSpec.witness6 (enc := enc) (C := Try.checked) false ⟨#[], #[.agg #[.slice none 0 0, .slice none 0 0, .int .i64 0], .int .i64 0, .string ByteArray.empty, .int .i64 0], []⟩ 8 (by kernel_rfl) (by kernel_rfl) (by kernel_rfl) (by kernel_rfl)) ?_
  intro W base args ds gs before hval0 hW hcnd hsz0 _
  have hsz : (DataW.weightsEach Try.prog (Try.f3.params.toList ++ Rows.linesSpec.plain.varTypes Try.prog) (ds ++ gs)).all (· ≤ reachBytes) = true := hsz0
  clear hsz0
  have hval : ∀ (j : Nat) t v, Try.f3.params[j]? = some t → args[j]? = some v → Value.okWide Try.prog W .any base t v := hval0
  have hW' := hW
  obtain ⟨p, q, hA0, hV, rfl, hfz, hnd⟩ := hW
  have hA : DataW.TrodAll enc Try.prog W 0 (fun _ => true) true Try.f3.params.toList args.toList ds p := hA0
  rw [Try.params3] at hA hval hsz
  obtain ⟨v0, vs0, d0, ds0, p0, q0, hargs, rfl, rfl, h0, r0⟩ := trodAll_cons hA
  obtain ⟨v1, vs1, d1, ds1, p1, q1, rfl, rfl, rfl, h1, r1⟩ := trodAll_cons r0
  obtain ⟨v2, vs2, d2, ds2, p2, q2, rfl, rfl, rfl, h2, r2⟩ := trodAll_cons r1
  obtain ⟨v3, vs3, d3, ds3, p3, q3, rfl, rfl, rfl, h3, r3⟩ := trodAll_cons r2
  obtain ⟨rfl, rfl, rfl⟩ := trodAll_nil r3
  obtain rfl : args = #[v0, v1, v2, v3] := by cases args; simp_all
  obtain ⟨rfl, rfl⟩ := trodVars_none hV
  have k0 := h0
  have lt0 : ∀ x ∈ p0, x.block < W.heap.size := by obtain ⟨m, hm⟩ := k0; exact DataW.trod_lt m _ _ _ hm
  obtain ⟨cq1, cn1, cp1, cq2, cn2, cp2, cy, A, T, rfl, hC, hF⟩ : ∃ q1 n1 p1 q2 n2 p2 y A T, v0 = .agg #[.slice q1 n1 p1, .slice q2 n2 p2, .int .i64 y] ∧ CC W q1 n1 p1 q2 n2 p2 A T ∧ Fit A T := by
    obtain ⟨fuel, hf⟩ := h0
    exact cache_open (hval 0 25 v0 rfl rfl) hf (fun y hy => of_decide_eq_true (List.all_eq_true.1 hsz y (DataW.weights_mem_each (j := 0) (t := 25) (d := d0) rfl rfl y hy)))
  obtain ⟨a1, rfl, rfl, rfl, w1⟩ := open_int Try.underlying3 (hval 1 3 v1 rfl rfl) h1
  obtain ⟨s2, rfl, rfl, rfl, w2⟩ := open_string Try.underlying9 (hval 2 9 v2 rfl rfl) h2
  obtain ⟨a3, rfl, rfl, rfl, w3⟩ := open_int Try.underlying3 (hval 3 3 v3 rfl rfl) h3
  clear hA0 hval0
  have hp3 := bounds_i64 w3
  refine (walk cq1 cn1 cp1 cq2 cn2 cp2 cy A T a1 s2 a3 W hC hF w2 (by omega)).mono fun e W' ⟨he, bel⟩ => ?_
  subst he
  exact ⟨_, rfl, _, _, _, [], _, [], hW', trodAll_mk1 (shut_bool Try.underlying4 _), (trodAll_cons_mk (Below.trod laidOut (by kernel_rfl) (of_decide_eq_true (by kernel_rfl)) k0 bel lt0) (trodAll_cons_mk (shut_int Try.underlying3 w1) (trodAll_cons_mk (shut_string Try.underlying9 w2) (trodAll_cons_mk (shut_int Try.underlying3 w3) trodAll_mk0)))), rfl, bel.frame _, fun h => by cases h⟩

theorem over : Rows.linesRow.holds Try.pinned (OpenSpec.ofChange Rows.linesSpec) :=
  OpenClaim.holds_of_wide 3 Try.f3 rfl rfl rfl rfl rfl rfl rfl ⟨rfl, rfl, rfl, rfl, rfl⟩ rfl rfl rfl rfl rfl (by kernel_rfl) Try.func3 (by kernel_rfl)
    (of_decide_eq_true (by kernel_rfl)) (by unfold Func.isWrapper; first | (rw [if_pos (by decide +kernel)]; kernel_rfl) | (rw [if_neg (by decide +kernel)]; exact ⟨rfl, rfl⟩))
    (fun os started H enc _ => lifted os started H enc)

theorem proved : Rows.LinesSaid := over
#print axioms proved
end Go.Proofs.Ytbcdfobclliboaa.lines
