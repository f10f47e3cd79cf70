/-
  LineForms: caches, places, texts that are none. No conditions.
-/
import Derived.Test.YtbcdfobclliboaaRows
import Derived.Test.YtbcdfobclliboaaNine
import Derived.Deep.CutBlock
import Derived.WalkKit
import Derived.ProofKit
import Derived.OpenShut
import Derived.ShutString
import Derived.ChangeOld
import Derived.Below
namespace Go.Proofs.Ytbcdfobclliboaa.lineForms
open Go.Proofs.Ytbcdfobclliboaa.Plain
open Go.ChangeShapes Go.WideShapes Go.ChangeAt Go.RowKit
open Go.ChangeMaps (open_string shut_string)
set_option linter.unusedVariables false

theorem own : ownKnob Try.prog.godebug = none := by kernel_rfl
theorem laidOut : laidOutB Try.prog = true := by kernel_rfl

set_option maxRecDepth 100000 in
set_option maxHeartbeats 2000000 in
theorem walk (a0 : Int) (a1 : Int) (w : World) (w0 : (Lit.int .i64 a0).wf = true) (w1 : (Lit.int .i64 a1).wf = true) :
    Calls Try.prog 5 #[.int .i64 a0, .int .i64 a1] w fun e w' => e = .returned (.bool true) ∧ Below w.heap.size w w' := by
  obtain ⟨m, hm, em⟩ : ∃ m : Nat, m < 1024 ∧ bits .and .i64 a1 1023 = (m : Int) := ⟨(a1 % 1024).toNat, by omega, by rw [and_1023]; omega⟩
  obtain ⟨D, hD, eD, HD⟩ : ∃ D : Int, D = 1 + (m : Int) ∧ wrap64 (1 + (m : Int)) = D ∧ Hid (1 ≤ D ∧ D ≤ 1024) := ⟨_, rfl, IntWalk.wrap64_in _ (by omega), by rw [Hid]; omega⟩
  obtain ⟨u, hu9, eu⟩ : ∃ u : Nat, u < 9 ∧ (IntKind.u64.wrap a0).tmod 9 = (u : Int) := umod9 a0
  have HU : Hid (u < 9) := hu9
  clear hm hD hu9 w0 w1
  go_enter Try.func5, Try.ntmps5
  go_wp2_with (go_at_call 20; refine (awake_any _).mono ?_; rintro e w1 ⟨rfl, b1⟩)
  (try rw [eD])
  clear em eD
  have HB0 : Hid (Below w.heap.size w w1) := b1
  clear b1
  refine (new_any w1).mono ?_
  rintro e w2 ⟨q1, n1, p1, q2, n2, p2, rfl, hC, hb⟩
  have HB1 : Hid (Below w.heap.size w w2) := below_then HB0.out hb
  have HC1 : Hid (CO w.heap.size w2 (.agg #[.slice q1 n1 p1, .slice q2 n2 p2, .int .i64 0]) [-1, -1] [ByteArray.empty, ByteArray.empty] 0) := hC.below (Below.refl _ _) HB0.out.size
  clear hC hb HB0
  go_wp2_with fail
  refine (text_num 97 97 rfl _).mono ?_
  rintro e w3 ⟨R1, rfl, HR1, b3⟩
  have HB2 : Hid (Below w.heap.size w w3) := below_then HB1.out b3
  have HC2 : Hid (CO w.heap.size w3 (.agg #[.slice q1 n1 p1, .slice q2 n2 p2, .int .i64 0]) [-1, -1] [ByteArray.empty, ByteArray.empty] 0) := HC1.out.below b3 (Nat.le_refl _)
  clear b3 HB1 HC1
  go_wp2_with fail
  refine (keep_yes _ _ _ _ 64 R1 _ HC2.out.reads (fit_two (by decide) (by decide)) HR1.out.2 (may_two (by decide) (.inl ⟨rfl, rfl⟩) (.inl ⟨rfl, rfl⟩)) (by decide)).mono ?_
  rintro e w4 ⟨aq1, an1, ap1, aq2, an2, ap2, ay, rfl, hC3, b4⟩
  rw [show kA [-1, -1] 0 64 = [64, -1] by decide, show kT [-1, -1] [ByteArray.empty, ByteArray.empty] 0 64 R1 = [R1, ByteArray.empty] from rfl, show kX [-1, -1] 0 64 = 1 by decide] at hC3
  have hay : ay = 1 := hC3.told.2.2
  subst hay
  obtain ⟨ga, oa, c1, gb, ob, c2, heq, -, -⟩ := hC3.reads.two rfl rfl
  simp at heq
  obtain ⟨⟨rfl, rfl, rfl⟩, ⟨rfl, rfl, rfl⟩⟩ := heq
  have HB3 : Hid (Below w.heap.size w (w4.alloc (.cells #[.slice (some ⟨ga, oa, none⟩) 2 ap1, .slice (some ⟨gb, ob, none⟩) 2 ap2, .int .i64 1] 25))) := below_then (below_then HB2.out b4) (below_new _ _)
  have HV1 : Hid (Va w.heap.size (w4.alloc (.cells #[.slice (some ⟨ga, oa, none⟩) 2 ap1, .slice (some ⟨gb, ob, none⟩) 2 ap2, .int .i64 1] 25)) w4.heap.size (some ⟨ga, oa, none⟩) 2 ap1 (some ⟨gb, ob, none⟩) 2 ap2 1 [64, -1] [R1, ByteArray.empty] 1) := Va.new (hC3.below (Below.refl _ _) HB2.out.size)
  have hcl : w.heap.size ≤ w4.heap.size := (below_then HB2.out b4).size
  clear hC3 b4 HC2 HB2
  go_upto_region 5 with fail
  generalize w4.alloc (.cells #[.slice (some ⟨ga, oa, none⟩) 2 ap1, .slice (some ⟨gb, ob, none⟩) 2 ap2, .int .i64 1] 25) = W at HB3 HV1 ⊢
  obtain ⟨cb, hcb⟩ : ∃ c, c = w4.heap.size := ⟨_, rfl⟩
  rw [← hcb] at HV1 hcl ⊢
  clear hcb
  have HF : Hid (Fit [64, -1] [R1, ByteArray.empty]) := fit_two (by rw [HR1.out.2]; exact Nat.le_refl _) (by decide)
  have HM : Hid (mayB [64, -1] [R1, ByteArray.empty] 1 = true) := may_two (by decide) (.inr ⟨by decide, HR1.out.2⟩) (.inl ⟨rfl, rfl⟩)
  obtain ⟨d0, d1, d2⟩ := HV1.out.cells
  go_wp2_with (go_at_call 14; refine (num_any _ _).mono ?_; rintro e w' ⟨rfl, rfl⟩)
  refine (copy_any _ _ _ _ _ _ _ _ _ _ (CC.of_own HV1.out.own) HF.out).mono ?_
  rintro e w5 ⟨r1, m1, s1, r2, m2, s2, rfl, hCo, hb⟩
  obtain ⟨ha, oa2, e1, hbb, ob2, e2, heq, h5, h6⟩ := hCo.reads.two rfl rfl
  simp at heq
  obtain ⟨⟨rfl, rfl, rfl⟩, ⟨rfl, rfl, rfl⟩⟩ := heq
  obtain ⟨hO1, hO2, -⟩ := hCo.told
  obtain rfl : oa2 = 0 := by
    rcases hO1.2 with ⟨e, _⟩ | ⟨g, cap, cur, e, _⟩
    · simp at e
    · simp at e; exact e.1.2
  obtain rfl : ob2 = 0 := by
    rcases hO2.2 with ⟨e, _⟩ | ⟨g, cap, cur, e, _⟩
    · simp at e
    · simp at e; exact e.1.2
  have HV2 : Hid (Va w.heap.size (w5.alloc (.cells #[.slice (some ⟨ha, 0, none⟩) 2 s1, .slice (some ⟨hbb, 0, none⟩) 2 s2, .int .i64 1] 25)) w5.heap.size (some ⟨ha, 0, none⟩) 2 s1 (some ⟨hbb, 0, none⟩) 2 s2 1 [64, -1] [R1, ByteArray.empty] 1) := Va.new (hCo.below (Below.refl _ _) HB3.out.size)
  have HW2 : Hid (Va w.heap.size (w5.alloc (.cells #[.slice (some ⟨ha, 0, none⟩) 2 s1, .slice (some ⟨hbb, 0, none⟩) 2 s2, .int .i64 1] 25)) cb (some ⟨ga, oa, none⟩) 2 ap1 (some ⟨gb, ob, none⟩) 2 ap2 1 [64, -1] [R1, ByteArray.empty] 1) := HV1.out.below (below_then hb (below_new _ _)) (Nat.le_refl _)
  have HB4 : Hid (Below w.heap.size w (w5.alloc (.cells #[.slice (some ⟨ha, 0, none⟩) 2 s1, .slice (some ⟨hbb, 0, none⟩) 2 s2, .int .i64 1] 25))) := below_then (below_then HB3.out hb) (below_new _ _)
  have hbl : cb < w5.heap.size ∧ w.heap.size ≤ w5.heap.size := by
    have h1 := HV1.out.blk.lt
    have h2 := HB3.out.size
    have h3 := hb.size
    omega
  have HFar : Hid ((ha ≠ cb ∧ ha ≠ ga ∧ ha ≠ gb) ∧ (hbb ≠ cb ∧ hbb ≠ ga ∧ hbb ≠ gb) ∧ w.heap.size ≤ ha ∧ w.heap.size ≤ hbb) := by
    obtain ⟨o1, o2, -⟩ := HV1.out.own.told
    have a1 := (World.ownsRow.lt hO1 ha rfl).1
    have a2 := (World.ownsRow.lt hO2 hbb rfl).1
    have a3 := (World.ownsRow.lt o1 ga rfl).2
    have a4 := (World.ownsRow.lt o2 gb rfl).2
    have a5 := HV1.out.blk.lt
    have a6 := HB3.out.size
    rw [Hid]; omega
  clear hCo hb h5 h6 hO1 hO2 HV1 HB3 d0 d1 d2
  go_upto_region 8 with fail
  generalize w5.alloc (.cells #[.slice (some ⟨ha, 0, none⟩) 2 s1, .slice (some ⟨hbb, 0, none⟩) 2 s2, .int .i64 1] 25) = W6 at HV2 HW2 HB4 ⊢
  obtain ⟨bb, hbb2⟩ : ∃ c, c = w5.heap.size := ⟨_, rfl⟩
  rw [← hbb2] at HV2 hbl ⊢
  have HNE : Hid (cb ≠ bb ∧ w.heap.size ≤ bb) := by rw [Hid]; omega
  clear hbb2 hbl hcl
  go_upto_block 0 with fail
  go_cut [54] from 55 (fun _ z => Hid (Bad w cb bb (some ⟨ga, oa, none⟩) 2 ap1 (some ⟨gb, ob, none⟩) 2 ap2 R1 z))
  case first => as_aux_lemma =>
    have hu := HU.out
    rcases (show u = 0 ∨ u = 1 ∨ u = 2 ∨ u = 3 ∨ u = 4 ∨ u = 5 ∨ u = 6 ∨ u = 7 ∨ u = 8 by omega) with rfl | rfl | rfl | rfl | rfl | rfl | rfl | rfl | rfl
    · clear hu
      have k0 := HV2.out.blk.cell 0 rfl
      have f0 := HV2.out.blk.frozen 0
      have hz : Bad w cb bb (some ⟨ga, oa, none⟩) 2 ap1 (some ⟨gb, ob, none⟩) 2 ap2 R1 (W6.setCell ⟨bb, 0, none⟩ (.slice (some ⟨ha, 0, none⟩) 1 s1)) := Bad.mk_ (HV2.out.field.1 (some ⟨ha, 0, none⟩) 1 s1 [64] (OV.cut1 HV2.out.own.told.1).1) (may_len1 (by decide)) (⟨by simp, by simp, HF.out.each⟩) (HW2.out.other HV2.out.blk (Ne.symm HNE.out.1) 0 _) (HB4.out.setCell (by exact HNE.out.2) _)
      have HZ : Hid (Bad w cb bb (some ⟨ga, oa, none⟩) 2 ap1 (some ⟨gb, ob, none⟩) 2 ap2 R1 (W6.setCell ⟨bb, 0, none⟩ (.slice (some ⟨ha, 0, none⟩) 1 s1))) := hz
      have hcap : 1 ≤ s1 := by have := (OV.cut1 HV2.out.own.told.1).2; omega
      have hcap2 : (1 : Int) ≤ s1 := by omega
      clear hz
      go_wp2_with fail
      all_goals go_meet
      case rel => exact HZ
    · clear hu
      have k1 := HV2.out.blk.cell 1 rfl
      have f1 := HV2.out.blk.frozen 1
      have hz : Bad w cb bb (some ⟨ga, oa, none⟩) 2 ap1 (some ⟨gb, ob, none⟩) 2 ap2 R1 (W6.setCell ⟨bb, 1, none⟩ (.slice none 0 0)) := Bad.mk_ (HV2.out.field.2.1 none 0 0 [] (World.ownsRow_nil _ _ _ _)) (may_len2 (by decide)) (⟨by simp, by simp, fun t ht => by simp at ht⟩) (HW2.out.other HV2.out.blk (Ne.symm HNE.out.1) 1 _) (HB4.out.setCell (by exact HNE.out.2) _)
      have HZ : Hid (Bad w cb bb (some ⟨ga, oa, none⟩) 2 ap1 (some ⟨gb, ob, none⟩) 2 ap2 R1 (W6.setCell ⟨bb, 1, none⟩ (.slice none 0 0))) := hz
      clear hz
      go_wp2_with fail
      all_goals go_meet
      case rel => exact HZ
    · clear hu
      have k2 := HV2.out.blk.cell 2 rfl
      have f2 := HV2.out.blk.frozen 2
      have hz : Bad w cb bb (some ⟨ga, oa, none⟩) 2 ap1 (some ⟨gb, ob, none⟩) 2 ap2 R1 (W6.setCell ⟨bb, 2, none⟩ (.int .i64 (1 + D))) := Bad.mk_ (HV2.out.field.2.2 (1 + D)) (may_many (.inr (by have := HD.out; omega))) (HF.out) (HW2.out.other HV2.out.blk (Ne.symm HNE.out.1) 2 _) (HB4.out.setCell (by exact HNE.out.2) _)
      have HZ : Hid (Bad w cb bb (some ⟨ga, oa, none⟩) 2 ap1 (some ⟨gb, ob, none⟩) 2 ap2 R1 (W6.setCell ⟨bb, 2, none⟩ (.int .i64 (1 + D)))) := hz
      have hw : wrap64 (1 + D) = 1 + D := IntWalk.wrap64_in _ (by have := HD.out; omega)
      clear hz
      go_wp2_with fail
      all_goals go_meet
      case rel => exact HZ
    · clear hu
      have k2 := HV2.out.blk.cell 2 rfl
      have f2 := HV2.out.blk.frozen 2
      have hz : Bad w cb bb (some ⟨ga, oa, none⟩) 2 ap1 (some ⟨gb, ob, none⟩) 2 ap2 R1 (W6.setCell ⟨bb, 2, none⟩ (.int .i64 (-D))) := Bad.mk_ (HV2.out.field.2.2 (-D)) (may_many (.inl (by have := HD.out; omega))) (HF.out) (HW2.out.other HV2.out.blk (Ne.symm HNE.out.1) 2 _) (HB4.out.setCell (by exact HNE.out.2) _)
      have HZ : Hid (Bad w cb bb (some ⟨ga, oa, none⟩) 2 ap1 (some ⟨gb, ob, none⟩) 2 ap2 R1 (W6.setCell ⟨bb, 2, none⟩ (.int .i64 (-D)))) := hz
      have hw : wrap64 (-D) = -D := IntWalk.wrap64_in _ (by have := HD.out; omega)
      clear hz
      go_wp2_with fail
      all_goals go_meet
      case rel => exact HZ
    · clear hu
      have k0 := HV2.out.blk.cell 0 rfl
      have kc : W6.cell? ⟨ha, 0, none⟩ = some _ := (ov_row HV2.out.own.told.1 rfl rfl).cellAt 0 (by decide)
      have kf := (ov_row HV2.out.own.told.1 rfl rfl).frozenAt 0
      have hz : Bad w cb bb (some ⟨ga, oa, none⟩) 2 ap1 (some ⟨gb, ob, none⟩) 2 ap2 R1 (W6.setCell ⟨ha, 0, none⟩ (.int .i64 65)) := Bad.mk_ (HV2.out.atCell 0 65) (may_no (k := 0) (by decide) (li_bad (by decide) (.inl (by decide)))) (by have := HF.out; exact fit_two (by rw [HR1.out.2]; exact Nat.le_refl _) (by decide)) (HW2.out.far 0 _ (by have := HFar.out; omega) (by have := HFar.out; simp [Value.ownBlock]; omega) (by have := HFar.out; simp [Value.ownBlock]; omega)) (HB4.out.setCell (by have := HFar.out; show w.heap.size ≤ ha; omega) _)
      have HZ : Hid (Bad w cb bb (some ⟨ga, oa, none⟩) 2 ap1 (some ⟨gb, ob, none⟩) 2 ap2 R1 (W6.setCell ⟨ha, 0, none⟩ (.int .i64 65))) := hz
      clear hz
      go_wp2_with fail
      all_goals go_meet
      case rel => exact HZ
    · clear hu
      have k0 := HV2.out.blk.cell 0 rfl
      have kc : W6.cell? ⟨ha, 0, none⟩ = some _ := (ov_row HV2.out.own.told.1 rfl rfl).cellAt 0 (by decide)
      have kf := (ov_row HV2.out.own.told.1 rfl rfl).frozenAt 0
      have hz : Bad w cb bb (some ⟨ga, oa, none⟩) 2 ap1 (some ⟨gb, ob, none⟩) 2 ap2 R1 (W6.setCell ⟨ha, 0, none⟩ (.int .i64 4096)) := Bad.mk_ (HV2.out.atCell 0 4096) (may_no (k := 0) (by decide) (li_bad (by decide) (.inl (by decide)))) (by have := HF.out; exact fit_two (by rw [HR1.out.2]; exact Nat.le_refl _) (by decide)) (HW2.out.far 0 _ (by have := HFar.out; omega) (by have := HFar.out; simp [Value.ownBlock]; omega) (by have := HFar.out; simp [Value.ownBlock]; omega)) (HB4.out.setCell (by have := HFar.out; show w.heap.size ≤ ha; omega) _)
      have HZ : Hid (Bad w cb bb (some ⟨ga, oa, none⟩) 2 ap1 (some ⟨gb, ob, none⟩) 2 ap2 R1 (W6.setCell ⟨ha, 0, none⟩ (.int .i64 4096))) := hz
      clear hz
      go_wp2_with fail
      all_goals go_meet
      case rel => exact HZ
    · clear hu
      have k1 := HV2.out.blk.cell 1 rfl
      have kc : W6.cell? ⟨hbb, 0, none⟩ = some _ := (ov_row HV2.out.own.told.2.1 rfl rfl).cellAt 0 (by decide)
      have kf := (ov_row HV2.out.own.told.2.1 rfl rfl).frozenAt 0
      have hz : Bad w cb bb (some ⟨ga, oa, none⟩) 2 ap1 (some ⟨gb, ob, none⟩) 2 ap2 R1 (W6.setCell ⟨hbb, 0, none⟩ (.string ⟨#[115, 104, 111, 114, 116]⟩)) := Bad.mk_ (HV2.out.textCell 0 ⟨#[115, 104, 111, 114, 116]⟩) (may_no (k := 0) (by decide) (li_bad (by decide) (.inr (.inl (by show (⟨#[115, 104, 111, 114, 116]⟩ : ByteArray).size ≠ 16; rw [short_size]; decide))))) (fit_two (by rw [short_size]; decide) (by decide)) (HW2.out.far 0 _ (by have := HFar.out; omega) (by have := HFar.out; simp [Value.ownBlock]; omega) (by have := HFar.out; simp [Value.ownBlock]; omega)) (HB4.out.setCell (by have := HFar.out; show w.heap.size ≤ hbb; omega) _)
      have HZ : Hid (Bad w cb bb (some ⟨ga, oa, none⟩) 2 ap1 (some ⟨gb, ob, none⟩) 2 ap2 R1 (W6.setCell ⟨hbb, 0, none⟩ (.string ⟨#[115, 104, 111, 114, 116]⟩))) := hz
      clear hz
      go_wp2_with fail
      all_goals go_meet
      case rel => exact HZ
    · clear hu
      have k0 := HV2.out.blk.cell 0 rfl
      have kc : W6.cell? ⟨ha, 1, none⟩ = some _ := (ov_row HV2.out.own.told.1 rfl rfl).cellAt 1 (by decide)
      have kf := (ov_row HV2.out.own.told.1 rfl rfl).frozenAt 1
      have HV7 : Hid (Va w.heap.size (W6.setCell ⟨ha, 1, none⟩ (.int .i64 64)) bb (some ⟨ha, 0, none⟩) 2 s1 (some ⟨hbb, 0, none⟩) 2 s2 1 [64, 64] [R1, ByteArray.empty] 1) := HV2.out.atCell 1 64
      have HX7 : Hid (Va w.heap.size (W6.setCell ⟨ha, 1, none⟩ (.int .i64 64)) cb (some ⟨ga, oa, none⟩) 2 ap1 (some ⟨gb, ob, none⟩) 2 ap2 1 [64, -1] [R1, ByteArray.empty] 1) := HW2.out.far 1 _ (by have := HFar.out; omega) (by have := HFar.out; simp [Value.ownBlock]; omega) (by have := HFar.out; simp [Value.ownBlock]; omega)
      have HB7 : Hid (Below w.heap.size w (W6.setCell ⟨ha, 1, none⟩ (.int .i64 64))) := HB4.out.setCell (by have := HFar.out; show w.heap.size ≤ ha; omega) _
      go_upto_region 26 with fail
      generalize W6.setCell ⟨ha, 1, none⟩ (.int .i64 64) = W7 at HV7 HX7 HB7 ⊢
      clear k0 kc kf HV2 HW2 HB4
      have K0 : Below W7.heap.size W7 W7.drew := (Below.refl W7.heap.size W7).drew
      have S0 := (HV7.out.below K0 (Nat.le_refl _)).blk.cell 1 rfl
      go_region_held3 (fun z => z.cell? ⟨bb, 1, none⟩ = some (.slice (some ⟨hbb, 0, none⟩) 2 s2)) (first | exact S0 | exact s8 | exact s9)
        (first | (go_at_call 21; refine (text_num 98 98 rfl _).mono ?_; rintro e w8 ⟨R, rfl, HR, b8⟩; (have BW := below_then K0 b8); (have V8 := HV7.out.below BW (Nat.le_refl _)); (have X8 := HX7.out.below BW (Nat.le_refl _)); (have B8 := below_then HB7.out BW); (have s8 := V8.blk.cell 1 rfl); (have kc : w8.cell? ⟨hbb, 1, none⟩ = some _ := (ov_row V8.own.told.2.1 rfl rfl).cellAt 1 (by decide)); (have kf := (ov_row V8.own.told.2.1 rfl rfl).frozenAt 1); (have V9 := V8.textCell 1 R); (have s9 := V9.blk.cell 1 rfl)))
      all_goals go_wp2_with fail
      all_goals go_meet
      case rel => exact Bad.mk_ V9 (may_no (k := 1) (by decide) (li_bad (by show (64 : Int) ≠ -1; decide) (.inr (.inr (by show (64 : Int) ∈ [64]; simp))))) (fit_two (by rw [HR1.out.2]; exact Nat.le_refl _) (by rw [HR.out.2]; exact Nat.le_refl _)) (X8.far 1 _ (by have := HFar.out; omega) (by have := HFar.out; simp [Value.ownBlock]; omega) (by have := HFar.out; simp [Value.ownBlock]; omega)) (B8.setCell (by have := HFar.out; show w.heap.size ≤ hbb; omega) _)
    · clear hu
      have k0 := HV2.out.blk.cell 0 rfl
      have kc : W6.cell? ⟨ha, 1, none⟩ = some _ := (ov_row HV2.out.own.told.1 rfl rfl).cellAt 1 (by decide)
      have kf := (ov_row HV2.out.own.told.1 rfl rfl).frozenAt 1
      have hz : Bad w cb bb (some ⟨ga, oa, none⟩) 2 ap1 (some ⟨gb, ob, none⟩) 2 ap2 R1 (W6.setCell ⟨ha, 1, none⟩ (.int .i64 (-2))) := Bad.mk_ (HV2.out.atCell 1 (-2)) (may_no (k := 1) (by decide) (li_bad (by decide) (.inl (by decide)))) (by have := HF.out; exact fit_two (by rw [HR1.out.2]; exact Nat.le_refl _) (by decide)) (HW2.out.far 1 _ (by have := HFar.out; omega) (by have := HFar.out; simp [Value.ownBlock]; omega) (by have := HFar.out; simp [Value.ownBlock]; omega)) (HB4.out.setCell (by have := HFar.out; show w.heap.size ≤ ha; omega) _)
      have HZ : Hid (Bad w cb bb (some ⟨ga, oa, none⟩) 2 ap1 (some ⟨gb, ob, none⟩) 2 ap2 R1 (W6.setCell ⟨ha, 1, none⟩ (.int .i64 (-2)))) := hz
      clear hz
      go_wp2_with fail
      all_goals go_meet
      case rel => exact HZ
  case rest =>
    obtain ⟨r1, m1, t1, r2, m2, t2, y, A, T, hV, hm, hf, hc, hb⟩ := hcut.out
    have HV : Hid (Va w.heap.size wc bb r1 m1 t1 r2 m2 t2 y A T y) := hV
    have HC : Hid (Va w.heap.size wc cb (some ⟨ga, oa, none⟩) 2 ap1 (some ⟨gb, ob, none⟩) 2 ap2 1 [64, -1] [R1, ByteArray.empty] 1) := hc
    have HB : Hid (Below w.heap.size w wc) := hb
    have HMn : Hid (mayB A T y = false) := hm
    have HFn : Hid (Fit A T) := hf
    have HD2 : Hid (-9223372036854775808 ≤ -D ∧ -D < 9223372036854775808) := by have := HD.out; rw [Hid]; omega
    have HD3 : Hid (fB [64, -1] [R1, ByteArray.empty] 1 (-D) = false ∧ fV [64, -1] [R1, ByteArray.empty] 1 (-D) = 0) := by
      have h : fB [64, -1] [R1, ByteArray.empty] 1 (-D) = false := fB_miss rfl fun j hj => .inr (by have := HD.out; omega)
      exact ⟨h, fV_no h⟩
    have HD4 : Hid (wrap64 (-D) = -D) := IntWalk.wrap64_in _ (by have := HD.out; omega)
    clear hcut hV hm hf hc hb HV2 HW2 HB4 HFar
    obtain ⟨W, hW⟩ : ∃ W, W = wc := ⟨_, rfl⟩
    subst hW
    go_upto_region 27 with fail
    go_cut [9, 10] from 100 (fun _ f z => Hid (f = .int .i64 1200 ∧ Below W.heap.size W z))
    case first => as_aux_lemma =>
      have K0 : Below W.heap.size W W.drew := (Below.refl W.heap.size W).drew
      have K1 : Below W.heap.size W (W.alloc (.cells #[.slice none 0 0, .slice none 0 0, .int .i64 0] 25)).drew := (below_new W (.cells #[.slice none 0 0, .slice none 0 0, .int .i64 0] 25)).drew
      have HZ1 : Blk (W.alloc (.cells #[.slice none 0 0, .slice none 0 0, .int .i64 0] 25)).drew W.heap.size 25 [.slice none 0 0, .slice none 0 0, .int .i64 0] := (Blk.new W 25 [.slice none 0 0, .slice none 0 0, .int .i64 0] _ rfl).drew
      have S0 := (HV.out.below K0 (Nat.le_refl _)).cells
      have S1 := (HV.out.below K1 (Nat.le_refl _)).cells
      go_region_held3 (fun z => z.cell? ⟨bb, 0, none⟩ = some (.slice r1 m1 t1) ∧ z.cell? ⟨bb, 1, none⟩ = some (.slice r2 m2 t2) ∧ z.cell? ⟨bb, 2, none⟩ = some (.int .i64 y)) (first | with_reducible exact S0 | with_reducible exact S1 | with_reducible exact s1 | with_reducible exact s2 | with_reducible exact s3 | with_reducible exact s4 | with_reducible exact s5 | with_reducible exact s6)
        (first | (go_at_call 21; refine (text_num 99 99 (by rfl) _).mono ?_; rintro e w2 ⟨R, rfl, HR, b2⟩; (first | (with_reducible have BW2 := below_then K0 b2) | ((with_reducible have BW2 := below_then K1 b2); (have Z2 := HZ1.below b2))); (have s1 := (HV.out.below BW2 (Nat.le_refl _)).cells); (have s2 := (HV.out.below (below_then BW2 (below_new w2 (.cells #[.slice none 0 0, .slice none 0 0, .int .i64 0] 25))) (Nat.le_refl _)).cells)) | (go_at_call 9; refine (keep_no _ _ _ _ _ R _ (by first | with_reducible exact (HV.out.below BW2 (Nat.le_refl _)).own.reads | with_reducible exact (HV.out.below (below_then BW2 (below_new w2 (.cells #[.slice none 0 0, .slice none 0 0, .int .i64 0] 25))) (Nat.le_refl _)).own.reads) HFn.out (by have := HR.out.2; unfold maxLen; omega) (by unfold kB; rw [HMn.out]; rfl)).mono ?_; rintro e w3 ⟨rfl, b3⟩; (first | ((with_reducible have BW3 := below_then BW2 b3); (try have Z3 := Z2.below b3)) | ((with_reducible have BW3 := below_then (below_then BW2 (below_new w2 (.cells #[.slice none 0 0, .slice none 0 0, .int .i64 0] 25))) b3); (have Z3 := (Blk.new w2 25 [.slice none 0 0, .slice none 0 0, .int .i64 0] _ rfl).below b3))); (try (have z0 := Z3.cell 0 rfl)); (try (have z1 := Z3.cell 1 rfl)); (try (have z2 := Z3.cell 2 rfl)); (try (have f0 := Z3.frozen 0)); (try (have f1 := Z3.frozen 1)); (try (have f2 := Z3.frozen 2)); (have V3 := HV.out.below BW3 (Nat.le_refl _)); (have s3 := V3.cells); (have s4 := (HV.out.below (below_then BW3 (below_new w3 (.cells #[.slice none 0 0, .slice none 0 0, .int .i64 0] 25))) (Nat.le_refl _)).cells); (have s5 := (HV.out.below (below_then BW3 (below_new w3 (.cells #[.slice none 0 0, .slice none 0 0, .int .i64 0] 25))) (Nat.le_refl _)).cells); (try (have s6 := (((V3.other Z3 (by have := HV.out.blk.lt; first | omega | (have := BW2.size; omega)) 0 (.slice none 0 0)).other (Z3.set 0 _) (by have := HV.out.blk.lt; first | omega | (have := BW2.size; omega)) 1 (.slice none 0 0)).other ((Z3.set 0 _).set 1 _) (by have := HV.out.blk.lt; first | omega | (have := BW2.size; omega)) 2 (.int .i64 0)).cells))))
      all_goals go_wp2_with fail
      all_goals go_meet
      all_goals first
        | exact ⟨rfl, below_then BW3 (below_new _ _)⟩
        | exact ⟨rfl, ((BW3.setCell (by exact BW2.size) _).setCell (by exact BW2.size) _).setCell (by exact BW2.size) _⟩
        | exact ⟨rfl, ((BW3.setCell (Nat.le_refl _) _).setCell (Nat.le_refl _) _).setCell (Nat.le_refl _) _⟩
    case rest =>
      obtain ⟨hf, hb⟩ := hcut.out
      subst hf
      have HV' : Hid (Va w.heap.size wc bb r1 m1 t1 r2 m2 t2 y A T y) := HV.out.below hb (Nat.le_refl _)
      have HC' : Hid (Va w.heap.size wc cb (some ⟨ga, oa, none⟩) 2 ap1 (some ⟨gb, ob, none⟩) 2 ap2 1 [64, -1] [R1, ByteArray.empty] 1) := HC.out.below hb (Nat.le_refl _)
      have HB' : Hid (Below w.heap.size w wc) := below_then HB.out hb
      clear hcut hb HV HC HB
      clear W
      obtain ⟨W, hW⟩ : ∃ W, W = wc := ⟨_, rfl⟩
      subst hW
      have HV := HV'
      have HC := HC'
      have HB := HB'
      clear HV' HC' HB'
      obtain ⟨d0, d1, d2⟩ := HV.out.cells
      go_wp2_with fail
      refine (find_any _ _ _ _ 64 _ HV.out.own.reads HFn.out (by decide)).mono ?_
      rintro e w7 ⟨rfl, b7⟩
      rw [(fB_none HMn.out).1, (fB_none HMn.out).2]
      have HV' : Hid (Va w.heap.size w7 bb r1 m1 t1 r2 m2 t2 y A T y) := HV.out.below b7 (Nat.le_refl _)
      have HC' : Hid (Va w.heap.size w7 cb (some ⟨ga, oa, none⟩) 2 ap1 (some ⟨gb, ob, none⟩) 2 ap2 1 [64, -1] [R1, ByteArray.empty] 1) := HC.out.below b7 (Nat.le_refl _)
      have HB' : Hid (Below w.heap.size w w7) := below_then HB.out b7
      clear b7 HV HC HB d0 d1 d2
      clear W
      obtain ⟨W, hW⟩ : ∃ W, W = w7 := ⟨_, rfl⟩
      subst hW
      have HV := HV'
      have HC := HC'
      have HB := HB'
      clear HV' HC' HB'
      go_upto_region 29 with fail
      go_cut [13, 14] from 111 (fun _ f z => Hid (f = .int .i64 1200 ∧ Below W.heap.size W z))
      case first => as_aux_lemma =>
        have K0 : Below W.heap.size W W.drew := (Below.refl W.heap.size W).drew
        have K1 : Below W.heap.size W (W.alloc (.cells #[.slice none 0 0, .slice none 0 0, .int .i64 0] 25)).drew := (below_new W (.cells #[.slice none 0 0, .slice none 0 0, .int .i64 0] 25)).drew
        have HZ1 : Blk (W.alloc (.cells #[.slice none 0 0, .slice none 0 0, .int .i64 0] 25)).drew W.heap.size 25 [.slice none 0 0, .slice none 0 0, .int .i64 0] := (Blk.new W 25 [.slice none 0 0, .slice none 0 0, .int .i64 0] _ rfl).drew
        have S0 := (HC.out.below K0 (Nat.le_refl _)).cells
        have S1 := (HC.out.below K1 (Nat.le_refl _)).cells
        go_region_held3 (fun z => z.cell? ⟨cb, 0, none⟩ = some (.slice (some ⟨ga, oa, none⟩) 2 ap1) ∧ z.cell? ⟨cb, 1, none⟩ = some (.slice (some ⟨gb, ob, none⟩) 2 ap2) ∧ z.cell? ⟨cb, 2, none⟩ = some (.int .i64 1)) (first | with_reducible exact S0 | with_reducible exact S1 | with_reducible exact s1 | with_reducible exact s2 | with_reducible exact s3 | with_reducible exact s4 | with_reducible exact s5 | with_reducible exact s6)
          (first | (go_at_call 21; refine (text_num 99 99 (by rfl) _).mono ?_; rintro e w2 ⟨R, rfl, HR, b2⟩; (first | (with_reducible have BW2 := below_then K0 b2) | ((with_reducible have BW2 := below_then K1 b2); (have Z2 := HZ1.below b2))); (have s1 := (HC.out.below BW2 (Nat.le_refl _)).cells); (have s2 := (HC.out.below (below_then BW2 (below_new w2 (.cells #[.slice none 0 0, .slice none 0 0, .int .i64 0] 25))) (Nat.le_refl _)).cells)) | (go_at_call 9; refine (keep_no _ _ _ _ _ R _ (by first | with_reducible exact (HC.out.below BW2 (Nat.le_refl _)).own.reads | with_reducible exact (HC.out.below (below_then BW2 (below_new w2 (.cells #[.slice none 0 0, .slice none 0 0, .int .i64 0] 25))) (Nat.le_refl _)).own.reads) HF.out (by have := HR.out.2; unfold maxLen; omega) (by unfold kB whB; rw [show atB 8 = false by decide]; simp)).mono ?_; rintro e w3 ⟨rfl, b3⟩; (first | ((with_reducible have BW3 := below_then BW2 b3); (try have Z3 := Z2.below b3)) | ((with_reducible have BW3 := below_then (below_then BW2 (below_new w2 (.cells #[.slice none 0 0, .slice none 0 0, .int .i64 0] 25))) b3); (have Z3 := (Blk.new w2 25 [.slice none 0 0, .slice none 0 0, .int .i64 0] _ rfl).below b3))); (try (have z0 := Z3.cell 0 rfl)); (try (have z1 := Z3.cell 1 rfl)); (try (have z2 := Z3.cell 2 rfl)); (try (have f0 := Z3.frozen 0)); (try (have f1 := Z3.frozen 1)); (try (have f2 := Z3.frozen 2)); (have V3 := HC.out.below BW3 (Nat.le_refl _)); (have s3 := V3.cells); (have s4 := (HC.out.below (below_then BW3 (below_new w3 (.cells #[.slice none 0 0, .slice none 0 0, .int .i64 0] 25))) (Nat.le_refl _)).cells); (have s5 := (HC.out.below (below_then BW3 (below_new w3 (.cells #[.slice none 0 0, .slice none 0 0, .int .i64 0] 25))) (Nat.le_refl _)).cells); (try (have s6 := (((V3.other Z3 (by have := HC.out.blk.lt; first | omega | (have := BW2.size; omega)) 0 (.slice none 0 0)).other (Z3.set 0 _) (by have := HC.out.blk.lt; first | omega | (have := BW2.size; omega)) 1 (.slice none 0 0)).other ((Z3.set 0 _).set 1 _) (by have := HC.out.blk.lt; first | omega | (have := BW2.size; omega)) 2 (.int .i64 0)).cells))))
        all_goals go_wp2_with fail
        all_goals go_meet
        all_goals first
          | exact ⟨rfl, below_then BW3 (below_new _ _)⟩
          | exact ⟨rfl, ((BW3.setCell (by exact BW2.size) _).setCell (by exact BW2.size) _).setCell (by exact BW2.size) _⟩
          | exact ⟨rfl, ((BW3.setCell (Nat.le_refl _) _).setCell (Nat.le_refl _) _).setCell (Nat.le_refl _) _⟩
      case rest =>
        obtain ⟨hf, hb⟩ := hcut.out
        subst hf
        have HV' : Hid (Va w.heap.size wc bb r1 m1 t1 r2 m2 t2 y A T y) := HV.out.below hb (Nat.le_refl _)
        have HC' : Hid (Va w.heap.size wc cb (some ⟨ga, oa, none⟩) 2 ap1 (some ⟨gb, ob, none⟩) 2 ap2 1 [64, -1] [R1, ByteArray.empty] 1) := HC.out.below hb (Nat.le_refl _)
        have HB' : Hid (Below w.heap.size w wc) := below_then HB.out hb
        clear hcut hb HV HC HB
        clear W
        obtain ⟨W, hW⟩ : ∃ W, W = wc := ⟨_, rfl⟩
        subst hW
        have HV := HV'
        have HC := HC'
        have HB := HB'
        clear HV' HC' HB'
        go_upto_region 30 with fail
        go_cut [15, 16] from 117 (fun _ f z => Hid (f = .int .i64 1200 ∧ Below W.heap.size W z))
        case first => as_aux_lemma =>
          have K0 : Below W.heap.size W W.drew := (Below.refl W.heap.size W).drew
          have K1 : Below W.heap.size W (W.alloc (.cells #[.slice none 0 0, .slice none 0 0, .int .i64 0] 25)).drew := (below_new W (.cells #[.slice none 0 0, .slice none 0 0, .int .i64 0] 25)).drew
          have HZ1 : Blk (W.alloc (.cells #[.slice none 0 0, .slice none 0 0, .int .i64 0] 25)).drew W.heap.size 25 [.slice none 0 0, .slice none 0 0, .int .i64 0] := (Blk.new W 25 [.slice none 0 0, .slice none 0 0, .int .i64 0] _ rfl).drew
          have S0 := (HC.out.below K0 (Nat.le_refl _)).cells
          have S1 := (HC.out.below K1 (Nat.le_refl _)).cells
          go_region_held3 (fun z => z.cell? ⟨cb, 0, none⟩ = some (.slice (some ⟨ga, oa, none⟩) 2 ap1) ∧ z.cell? ⟨cb, 1, none⟩ = some (.slice (some ⟨gb, ob, none⟩) 2 ap2) ∧ z.cell? ⟨cb, 2, none⟩ = some (.int .i64 1)) (first | with_reducible exact S0 | with_reducible exact S1 | with_reducible exact s1 | with_reducible exact s2 | with_reducible exact s3 | with_reducible exact s4 | with_reducible exact s5 | with_reducible exact s6)
            (first | (go_at_call 21; refine (text_num 99 99 (by rfl) _).mono ?_; rintro e w2 ⟨R, rfl, HR, b2⟩; (first | (with_reducible have BW2 := below_then K0 b2) | ((with_reducible have BW2 := below_then K1 b2); (have Z2 := HZ1.below b2))); (have s1 := (HC.out.below BW2 (Nat.le_refl _)).cells); (have s2 := (HC.out.below (below_then BW2 (below_new w2 (.cells #[.slice none 0 0, .slice none 0 0, .int .i64 0] 25))) (Nat.le_refl _)).cells)) | (go_at_call 9; refine (keep_no _ _ _ _ _ R _ (by first | with_reducible exact (HC.out.below BW2 (Nat.le_refl _)).own.reads | with_reducible exact (HC.out.below (below_then BW2 (below_new w2 (.cells #[.slice none 0 0, .slice none 0 0, .int .i64 0] 25))) (Nat.le_refl _)).own.reads) HF.out (by have := HR.out.2; unfold maxLen; omega) (by unfold kB whB; rw [show atB (-16) = false by decide]; simp)).mono ?_; rintro e w3 ⟨rfl, b3⟩; (first | ((with_reducible have BW3 := below_then BW2 b3); (try have Z3 := Z2.below b3)) | ((with_reducible have BW3 := below_then (below_then BW2 (below_new w2 (.cells #[.slice none 0 0, .slice none 0 0, .int .i64 0] 25))) b3); (have Z3 := (Blk.new w2 25 [.slice none 0 0, .slice none 0 0, .int .i64 0] _ rfl).below b3))); (try (have z0 := Z3.cell 0 rfl)); (try (have z1 := Z3.cell 1 rfl)); (try (have z2 := Z3.cell 2 rfl)); (try (have f0 := Z3.frozen 0)); (try (have f1 := Z3.frozen 1)); (try (have f2 := Z3.frozen 2)); (have V3 := HC.out.below BW3 (Nat.le_refl _)); (have s3 := V3.cells); (have s4 := (HC.out.below (below_then BW3 (below_new w3 (.cells #[.slice none 0 0, .slice none 0 0, .int .i64 0] 25))) (Nat.le_refl _)).cells); (have s5 := (HC.out.below (below_then BW3 (below_new w3 (.cells #[.slice none 0 0, .slice none 0 0, .int .i64 0] 25))) (Nat.le_refl _)).cells); (try (have s6 := (((V3.other Z3 (by have := HC.out.blk.lt; first | omega | (have := BW2.size; omega)) 0 (.slice none 0 0)).other (Z3.set 0 _) (by have := HC.out.blk.lt; first | omega | (have := BW2.size; omega)) 1 (.slice none 0 0)).other ((Z3.set 0 _).set 1 _) (by have := HC.out.blk.lt; first | omega | (have := BW2.size; omega)) 2 (.int .i64 0)).cells))))
          all_goals go_wp2_with fail
          all_goals go_meet
          all_goals first
            | exact ⟨rfl, below_then BW3 (below_new _ _)⟩
            | exact ⟨rfl, ((BW3.setCell (by exact BW2.size) _).setCell (by exact BW2.size) _).setCell (by exact BW2.size) _⟩
            | exact ⟨rfl, ((BW3.setCell (Nat.le_refl _) _).setCell (Nat.le_refl _) _).setCell (Nat.le_refl _) _⟩
        case rest =>
          obtain ⟨hf, hb⟩ := hcut.out
          subst hf
          have HV' : Hid (Va w.heap.size wc bb r1 m1 t1 r2 m2 t2 y A T y) := HV.out.below hb (Nat.le_refl _)
          have HC' : Hid (Va w.heap.size wc cb (some ⟨ga, oa, none⟩) 2 ap1 (some ⟨gb, ob, none⟩) 2 ap2 1 [64, -1] [R1, ByteArray.empty] 1) := HC.out.below hb (Nat.le_refl _)
          have HB' : Hid (Below w.heap.size w wc) := below_then HB.out hb
          clear hcut hb HV HC HB
          clear W
          obtain ⟨W, hW⟩ : ∃ W, W = wc := ⟨_, rfl⟩
          subst hW
          have HV := HV'
          have HC := HC'
          have HB := HB'
          clear HV' HC' HB'
          go_upto_region 31 with fail
          go_cut [17, 18] from 123 (fun _ f z => Hid (f = .int .i64 1200 ∧ Below W.heap.size W z))
          case first => as_aux_lemma =>
            have K0 : Below W.heap.size W W.drew := (Below.refl W.heap.size W).drew
            have K1 : Below W.heap.size W (W.alloc (.cells #[.slice none 0 0, .slice none 0 0, .int .i64 0] 25)).drew := (below_new W (.cells #[.slice none 0 0, .slice none 0 0, .int .i64 0] 25)).drew
            have HZ1 : Blk (W.alloc (.cells #[.slice none 0 0, .slice none 0 0, .int .i64 0] 25)).drew W.heap.size 25 [.slice none 0 0, .slice none 0 0, .int .i64 0] := (Blk.new W 25 [.slice none 0 0, .slice none 0 0, .int .i64 0] _ rfl).drew
            have S0 := (HC.out.below K0 (Nat.le_refl _)).cells
            have S1 := (HC.out.below K1 (Nat.le_refl _)).cells
            go_region_held3 (fun z => z.cell? ⟨cb, 0, none⟩ = some (.slice (some ⟨ga, oa, none⟩) 2 ap1) ∧ z.cell? ⟨cb, 1, none⟩ = some (.slice (some ⟨gb, ob, none⟩) 2 ap2) ∧ z.cell? ⟨cb, 2, none⟩ = some (.int .i64 1)) (first | with_reducible exact S0 | with_reducible exact S1 | with_reducible exact s1 | with_reducible exact s2 | with_reducible exact s3 | with_reducible exact s4 | with_reducible exact s5 | with_reducible exact s6)
              (first | (go_at_call 21; refine (text_num 99 99 (by rfl) _).mono ?_; rintro e w2 ⟨R, rfl, HR, b2⟩; (first | (with_reducible have BW2 := below_then K0 b2) | ((with_reducible have BW2 := below_then K1 b2); (have Z2 := HZ1.below b2))); (have s1 := (HC.out.below BW2 (Nat.le_refl _)).cells); (have s2 := (HC.out.below (below_then BW2 (below_new w2 (.cells #[.slice none 0 0, .slice none 0 0, .int .i64 0] 25))) (Nat.le_refl _)).cells)) | (go_at_call 9; refine (keep_no _ _ _ _ _ R _ (by first | with_reducible exact (HC.out.below BW2 (Nat.le_refl _)).own.reads | with_reducible exact (HC.out.below (below_then BW2 (below_new w2 (.cells #[.slice none 0 0, .slice none 0 0, .int .i64 0] 25))) (Nat.le_refl _)).own.reads) HF.out (by have := HR.out.2; unfold maxLen; omega) (by unfold kB whB; rw [show atB 4096 = false by decide]; simp)).mono ?_; rintro e w3 ⟨rfl, b3⟩; (first | ((with_reducible have BW3 := below_then BW2 b3); (try have Z3 := Z2.below b3)) | ((with_reducible have BW3 := below_then (below_then BW2 (below_new w2 (.cells #[.slice none 0 0, .slice none 0 0, .int .i64 0] 25))) b3); (have Z3 := (Blk.new w2 25 [.slice none 0 0, .slice none 0 0, .int .i64 0] _ rfl).below b3))); (try (have z0 := Z3.cell 0 rfl)); (try (have z1 := Z3.cell 1 rfl)); (try (have z2 := Z3.cell 2 rfl)); (try (have f0 := Z3.frozen 0)); (try (have f1 := Z3.frozen 1)); (try (have f2 := Z3.frozen 2)); (have V3 := HC.out.below BW3 (Nat.le_refl _)); (have s3 := V3.cells); (have s4 := (HC.out.below (below_then BW3 (below_new w3 (.cells #[.slice none 0 0, .slice none 0 0, .int .i64 0] 25))) (Nat.le_refl _)).cells); (have s5 := (HC.out.below (below_then BW3 (below_new w3 (.cells #[.slice none 0 0, .slice none 0 0, .int .i64 0] 25))) (Nat.le_refl _)).cells); (try (have s6 := (((V3.other Z3 (by have := HC.out.blk.lt; first | omega | (have := BW2.size; omega)) 0 (.slice none 0 0)).other (Z3.set 0 _) (by have := HC.out.blk.lt; first | omega | (have := BW2.size; omega)) 1 (.slice none 0 0)).other ((Z3.set 0 _).set 1 _) (by have := HC.out.blk.lt; first | omega | (have := BW2.size; omega)) 2 (.int .i64 0)).cells))))
            all_goals go_wp2_with fail
            all_goals go_meet
            all_goals first
              | exact ⟨rfl, below_then BW3 (below_new _ _)⟩
              | exact ⟨rfl, ((BW3.setCell (by exact BW2.size) _).setCell (by exact BW2.size) _).setCell (by exact BW2.size) _⟩
              | exact ⟨rfl, ((BW3.setCell (Nat.le_refl _) _).setCell (Nat.le_refl _) _).setCell (Nat.le_refl _) _⟩
          case rest =>
            obtain ⟨hf, hb⟩ := hcut.out
            subst hf
            have HV' : Hid (Va w.heap.size wc bb r1 m1 t1 r2 m2 t2 y A T y) := HV.out.below hb (Nat.le_refl _)
            have HC' : Hid (Va w.heap.size wc cb (some ⟨ga, oa, none⟩) 2 ap1 (some ⟨gb, ob, none⟩) 2 ap2 1 [64, -1] [R1, ByteArray.empty] 1) := HC.out.below hb (Nat.le_refl _)
            have HB' : Hid (Below w.heap.size w wc) := below_then HB.out hb
            clear hcut hb HV HC HB
            clear W
            obtain ⟨W, hW⟩ : ∃ W, W = wc := ⟨_, rfl⟩
            subst hW
            have HV := HV'
            have HC := HC'
            have HB := HB'
            clear HV' HC' HB'
            go_upto_region 32 with fail
            obtain ⟨d0, d1, d2⟩ := HC.out.cells
            go_wp2_with fail
            refine (keep_no _ _ _ _ 0 _ _ HC.out.own.reads HF.out (by decide) (by unfold kB whB; rw [decide_eq_false (by decide)]; simp)).mono ?_
            rintro e w8 ⟨rfl, b8⟩
            have hb := below_then b8 (below_new w8 (.cells #[.slice none 0 0, .slice none 0 0, .int .i64 0] 25))
            have HV' : Hid (Va w.heap.size (w8.alloc (.cells #[.slice none 0 0, .slice none 0 0, .int .i64 0] 25)) bb r1 m1 t1 r2 m2 t2 y A T y) := HV.out.below hb (Nat.le_refl _)
            have HC' : Hid (Va w.heap.size (w8.alloc (.cells #[.slice none 0 0, .slice none 0 0, .int .i64 0] 25)) cb (some ⟨ga, oa, none⟩) 2 ap1 (some ⟨gb, ob, none⟩) 2 ap2 1 [64, -1] [R1, ByteArray.empty] 1) := HC.out.below hb (Nat.le_refl _)
            have HB' : Hid (Below w.heap.size w (w8.alloc (.cells #[.slice none 0 0, .slice none 0 0, .int .i64 0] 25))) := below_then HB.out hb
            clear b8 hb HV HC HB d0 d1 d2
            go_upto_region 33 with fail
            generalize w8.alloc (.cells #[.slice none 0 0, .slice none 0 0, .int .i64 0] 25) = w9 at HV' HC' HB' ⊢
            obtain ⟨d0, d1, d2⟩ := HC'.out.cells
            have hd4 := HD4.out
            go_wp2_with fail
            (try rw [hd4])
            refine (find_any _ _ _ _ (-D) _ HC'.out.own.reads HF.out HD2.out).mono ?_
            rintro e w10 ⟨rfl, b10⟩
            rw [HD3.out.1, HD3.out.2]
            have HV2 : Hid (Va w.heap.size w10 bb r1 m1 t1 r2 m2 t2 y A T y) := HV'.out.below b10 (Nat.le_refl _)
            have HB2 : Hid (Below w.heap.size w w10) := below_then HB'.out b10
            clear b10 HV' HC' HB' d0 d1 d2 hd4
            obtain ⟨d0, d1, d2⟩ := HV2.out.cells
            go_wp2_with fail
            refine (may_any _ _ _ _ _ HV2.out.own.reads HFn.out).mono ?_
            rintro e w11 ⟨rfl, b11⟩
            rw [HMn.out]
            have HB3 : Hid (Below w.heap.size w w11) := below_then HB2.out b11
            clear b11 HV2 HB2 d0 d1 d2
            go_wp2_with (go_at_call 14; refine (num_any _ _).mono ?_; rintro e w' ⟨rfl, rfl⟩)
            go_ret
            exact ⟨rfl, HB3.out⟩

set_option maxRecDepth 100000 in
theorem lifted (os : Os) (started : os.Started) (H : Type) (enc : TypeId × Value → H) :
    ReturnsInHanded {} Try.checked os 5 .any (Rows.lineFormsSpec.pre6 enc Try.prog Try.f5 Rows.lineFormsRow.domain false) (Rows.lineFormsSpec.post enc Try.prog Try.f5 false true false false) := by
  refine returnsInHanded_of_change (C := Try.checked) own started (by kernel_rfl) Try.func5
    (ChangeSpec.witness6 (enc := enc) (C := Try.checked) false ⟨#[], #[.int .i64 0, .int .i64 0], []⟩ 8 (by kernel_rfl) (by kernel_rfl) (by kernel_rfl) (by kernel_rfl)) ?_
  intro W base args ds gs before hval0 hW hcnd _
  have hval : ∀ (j : Nat) t v, Try.f5.params[j]? = some t → args[j]? = some v → Value.okWide Try.prog W .any base t v := hval0
  have hW' := hW
  obtain ⟨p, q, hA0, hV, rfl, hfz, hnd⟩ := hW
  have hA : DataW.TrodAll enc Try.prog W 0 (fun _ => true) true Try.f5.params.toList args.toList ds p := hA0
  rw [Try.params5] at hA hval
  obtain ⟨v0, vs0, d0, ds0, p0, q0, hargs, rfl, rfl, h0, r0⟩ := trodAll_cons hA
  obtain ⟨v1, vs1, d1, ds1, p1, q1, rfl, rfl, rfl, h1, r1⟩ := trodAll_cons r0
  obtain ⟨rfl, rfl, rfl⟩ := trodAll_nil r1
  obtain rfl : args = #[v0, v1] := by cases args; simp_all
  obtain ⟨rfl, rfl⟩ := trodVars_none hV
  obtain ⟨a0, rfl, rfl, rfl, w0⟩ := open_int Try.underlying3 (hval 0 3 v0 rfl rfl) h0
  obtain ⟨a1, rfl, rfl, rfl, w1⟩ := open_int Try.underlying3 (hval 1 3 v1 rfl rfl) h1
  clear hA0 hval0
  refine (walk a0 a1 W w0 w1).mono fun e W' ⟨he, bel⟩ => ?_
  subst he
  exact ⟨_, rfl, _, _, _, [], _, [], hW', trodAll_mk1 (shut_bool Try.underlying4 _), (trodAll_cons_mk (shut_int Try.underlying3 w0) (trodAll_cons_mk (shut_int Try.underlying3 w1) trodAll_mk0)), rfl, bel.frame _, fun h => by cases h⟩

theorem over : Rows.lineFormsRow.holds Try.pinned (OpenSpec.ofChange Rows.lineFormsSpec) :=
  OpenClaim.holds_of_wide 5 Try.f5 rfl rfl rfl rfl rfl rfl rfl ⟨rfl, rfl, rfl, rfl, rfl⟩ rfl rfl rfl rfl rfl (by kernel_rfl) Try.func5 (by kernel_rfl)
    (of_decide_eq_true (by kernel_rfl)) (by unfold Func.isWrapper; first | (rw [if_pos (by decide +kernel)]; kernel_rfl) | (rw [if_neg (by decide +kernel)]; exact ⟨rfl, rfl⟩))
    (fun os started H enc _ => lifted os started H enc)

theorem proved : Rows.LineFormsSaid := over
#print axioms proved
end Go.Proofs.Ytbcdfobclliboaa.lineForms
