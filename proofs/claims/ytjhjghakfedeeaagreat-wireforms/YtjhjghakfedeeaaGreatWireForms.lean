/-
  WireForms: phases that may not be are refused, each by its one fault; no phases are driven. No conditions.
-/
import Derived.Test.YtjhjghakfedeeaaGreatRows
import Derived.Test.YtjhjghakfedeeaaGreatWFPlay
import Derived.WalkKit
import Derived.ProofKit
import Derived.OpenShut
import Derived.ShutString
import Derived.ChangeOld
import Derived.Below
namespace Go.Proofs.YtjhjghakfedeeaaGreat.wireForms
open Go.Proofs.YtjhjghakfedeeaaGreat.Plain
open Go.ChangeShapes Go.WideShapes Go.ChangeAt Go.RowKit
open Go.ChangeMaps (open_string shut_string)
set_option linter.unusedVariables false

theorem own : ownKnob Tryz.prog.godebug = none := by kernel_rfl
theorem laidOut : laidOutB Tryz.prog = true := by kernel_rfl

set_option maxRecDepth 100000 in
set_option maxHeartbeats 4000000 in
theorem walk (a0 : Int) (a1 : Int) (w : World) (w0 : (Lit.int .i64 a0).wf = true) (w1 : (Lit.int .i64 a1).wf = true) :
    Calls Tryz.prog 4 #[.int .i64 a0, .int .i64 a1] w fun e w' => e = .returned (.bool true) ∧ Below w.heap.size w w' := by
  obtain ⟨X, hX, eX, -⟩ : ∃ X : Nat, X < 1024 ∧ bits .and .i64 a1 1023 = (X : Int) ∧ (X : Int) = a1 % 1024 := mask_nat a1 10 (by decide)
  obtain ⟨I, hI, eI⟩ := umod a0 15 (by decide) (by decide)
  have HEI : Hid (wrap64 ((IntKind.u64.wrap a0).tmod 15) = (I : Int)) := eI
  clear eI
  obtain ⟨D, hD⟩ : ∃ D, 1 + X = D := ⟨_, rfl⟩
  have hD1 : 1 ≤ D := by omega
  have hD2 : D ≤ 1024 := by omega
  have eD : 1 + (X : Int) = (D : Int) := by omega
  obtain ⟨N, hN⟩ : ∃ N, N = 512 + D := ⟨_, rfl⟩
  have wD : wrap64 (D : Int) = (D : Int) := IntWalk.wrap64_in _ (by omega)
  have wN : wrap64 (-(D : Int)) = -(D : Int) := IntWalk.wrap64_in _ (by omega)
  have w5 : wrap64 (512 + (D : Int)) = (N : Int) := by rw [IntWalk.wrap64_in _ (by omega)]; omega
  have w4 : wrap64 (400 + (D : Int)) = 400 + (D : Int) := IntWalk.wrap64_in _ (by omega)
  have HB : Hid (1 ≤ D ∧ D ≤ 1024) := ⟨hD1, hD2⟩
  have HN : Hid (N = 512 + D) := hN
  have HNI : Hid ((N : Int) = 512 + (D : Int)) := by unfold Hid; omega
  have HI : Hid (I < 15) := hI
  clear hX hD hI hD1 hD2 hN w0 w1
  go_enter Tryz.func4, Tryz.ntmps4
  go_wp2_with fail
  refine (wawake_any _).mono ?_
  rintro e u1 ⟨rfl, b1⟩
  have HB0 : Hid (Below w.heap.size w u1) := b1
  clear b1
  go_upto_region 4 with fail
  clear eX
  obtain ⟨W4, hmk, HW⟩ := bads_made u1 D N HN.out HB.out.2
  have HW : Hid (∀ cs : Array Value, _ → _) := HW
  go_upto_region 5 with fail
  obtain ⟨HBW, HP⟩ := HW.out #[.int .i64 0, .slice none 0 0, .int .i64 0, .int .i64 0, .int .i64 1, .slice none 0 0, .int .i64 0, .int .i64 0, .int .i64 2, .slice (some ⟨u1.heap.size, 0, none⟩) 1 1, .int .i64 0, .int .i64 0, .int .i64 1, .slice (some ⟨u1.heap.size + 1, 0, none⟩) 1 1, .int .i64 0, .int .i64 0, .int .i64 1, .slice (some ⟨u1.heap.size + 1 + 1, 0, none⟩) 1 1, .int .i64 0, .int .i64 0, .int .i64 4, .slice (some ⟨u1.heap.size + 1 + 1 + 1, 0, none⟩) N N, .int .i64 0, .int .i64 0, .int .i64 1, .slice none 0 0, .int .i64 4, .int .i64 0, .int .i64 0, .slice none 0 0, .int .i64 (-(D : Int)), .int .i64 0, .int .i64 0, .slice none 0 0, .int .i64 (400 + (D : Int)), .int .i64 0, .int .i64 1, .slice none 0 0, .int .i64 0, .int .i64 (-(D : Int)), .int .i64 4, .slice none 0 0, .int .i64 0, .int .i64 (N : Int), .int .i64 0, .slice none 0 0, .int .i64 0, .int .i64 1, .int .i64 1, .slice (some ⟨W4.heap.size, 0, none⟩) 1 1, .int .i64 0, .int .i64 1, .int .i64 1, .slice (some ⟨W4.heap.size + 1, 0, none⟩) 1 1, .int .i64 1, .int .i64 0, .int .i64 0, .slice none 0 0, .int .i64 1, .int .i64 1] (by rw [badV, ← HNI.out]; rfl)
  have HB1 : Hid (Below w.heap.size w _) := below_then HB0.out HBW.out
  generalize ((W4.alloc (.cells #[.int .i64 1] 3)).alloc (.cells #[.int .i64 1] 3)).alloc (.cells #[.int .i64 0, .slice none 0 0, .int .i64 0, .int .i64 0, .int .i64 1, .slice none 0 0, .int .i64 0, .int .i64 0, .int .i64 2, .slice (some ⟨u1.heap.size, 0, none⟩) 1 1, .int .i64 0, .int .i64 0, .int .i64 1, .slice (some ⟨u1.heap.size + 1, 0, none⟩) 1 1, .int .i64 0, .int .i64 0, .int .i64 1, .slice (some ⟨u1.heap.size + 1 + 1, 0, none⟩) 1 1, .int .i64 0, .int .i64 0, .int .i64 4, .slice (some ⟨u1.heap.size + 1 + 1 + 1, 0, none⟩) N N, .int .i64 0, .int .i64 0, .int .i64 1, .slice none 0 0, .int .i64 4, .int .i64 0, .int .i64 0, .slice none 0 0, .int .i64 (-(D : Int)), .int .i64 0, .int .i64 0, .slice none 0 0, .int .i64 (400 + (D : Int)), .int .i64 0, .int .i64 1, .slice none 0 0, .int .i64 0, .int .i64 (-(D : Int)), .int .i64 4, .slice none 0 0, .int .i64 0, .int .i64 (N : Int), .int .i64 0, .slice none 0 0, .int .i64 0, .int .i64 1, .int .i64 1, .slice (some ⟨W4.heap.size, 0, none⟩) 1 1, .int .i64 0, .int .i64 1, .int .i64 1, .slice (some ⟨W4.heap.size + 1, 0, none⟩) 1 1, .int .i64 1, .int .i64 0, .int .i64 0, .slice none 0 0, .int .i64 1, .int .i64 1] 49) = W7 at HP HB1 ⊢
  generalize W4.heap.size + 1 + 1 = g at HP ⊢
  clear HW HBW hmk HB0 w4 w5 wN wD eD HN HNI
  obtain ⟨ba, bm, bc, l, L, c, r, hr, c0, c1, c2, c3, hbad⟩ := bad_at HP.out HB.out.1 HB.out.2 HI.out
  have HR : Hid (RIn (fun _ => True) (W7.alloc (.cells #[.int .i64 l, .slice ba bm bc, .int .i64 c, .int .i64 r] 49)) (.slice ba bm bc) L) := rin_below hr (below_new _ _)
  have HBox : Hid (Blk (W7.alloc (.cells #[.int .i64 l, .slice ba bm bc, .int .i64 c, .int .i64 r] 49)) W7.heap.size 49 [.int .i64 l, .slice ba bm bc, .int .i64 c, .int .i64 r]) := Blk.new _ _ _ _ rfl
  have HB2 : Hid (Below w.heap.size w (W7.alloc (.cells #[.int .i64 l, .slice ba bm bc, .int .i64 c, .int .i64 r] 49))) := below_then HB1.out (below_new _ _)
  have hI0 : (0 : Int) ≤ (I : Int) := by omega
  have hI15 : (I : Int) < 15 := by have := HI.out; omega
  have eI := HEI.out
  clear hr HP HB1
  go_upto_region 6 with fail
  clear c0 c1 c2 c3 hI0 hI15 eI HEI
  generalize W7.alloc (.cells #[.int .i64 l, .slice ba bm bc, .int .i64 c, .int .i64 r] 49) = W8 at HR HBox HB2 ⊢
  generalize W7.heap.size = bb at HBox ⊢
  go_wp2_with fail
  refine (twins_mine _ W8 (by unfold maxLen; decide)).mono ?_
  rintro e w1 ⟨bp, b, rfl, hbp, HL, hbw⟩
  obtain ⟨s, Hs⟩ : ∃ s, Hid (newSt (wide ⟨#[97]⟩) = s) := ⟨_, rfl⟩
  have HR1 : Hid (Run 0 bp w1 w1 s) := by rw [← Hs.out]; exact rn_start HL.out
  have Hsel : Hid (s.sel = false) := by rw [← Hs.out]; rfl
  obtain ⟨A, HA⟩ : ∃ A, Hid (s.A = A) := ⟨_, rfl⟩
  have hA : A.size = 4096 := by rw [← HA.out, ← Hs.out]; exact wide_size _
  have HBx : Hid (Blk w1 bb 49 [.int .i64 l, .slice ba bm bc, .int .i64 c, .int .i64 r]) := HBox.out.below hbw
  have HRx : Hid (RIn (fun _ => True) w1 (.slice ba bm bc) L) := rin_below HR.out hbw
  have HB3 : Hid (Below w.heap.size w w1) := below_then HB2.out hbw
  have hwb : w.heap.size ≤ bp := Nat.le_trans HB2.out.size hbp
  have HN0 := nil_drive (wide ⟨#[97]⟩)
  rw [Hs.out] at HN0
  obtain ⟨N1, N2, N3, N4, N5, N6⟩ := HN0
  rw [show wide ⟨#[97]⟩ = A by rw [← HA.out, ← Hs.out]; rfl] at N1
  obtain ⟨PS, HPS⟩ : ∃ PS : List Ph, Hid (PS = [(0, [], 3, 0), (l, L, c, r)]) := ⟨_, rfl⟩
  rw [← HPS.out] at hbad
  have HC : Hid ((clkN PS : Int) = 0 ∧ clkX PS = 1000) := by rw [Hid, clkN, clkX, hbad.out.1]; exact ⟨rfl, rfl⟩
  have HT : Hid (∀ z : World, RIn (fun _ => True) z (.slice ba bm bc) L → PReads (z.alloc (.cells #[.int .i64 0, .slice none 0 0, .int .i64 3, .int .i64 0, .int .i64 l, .slice ba bm bc, .int .i64 c, .int .i64 r] 49)) (.slice (some ⟨z.heap.size, 0, none⟩) 2 2) PS) := fun z hz => by rw [HPS.out]; exact two_made z _ l c r L hz
  clear HL hbw hbp HR HBox HB2 Hs HPS
  go_wp2_with fail
  refine (cells_run 0 bp w1 w1 s A HR1 HA.out).mono ?_
  rintro e w2 ⟨rfl, rfl⟩
  have x0 := HBx.out.cell 0 rfl
  have x1 := HBx.out.cell 1 rfl
  have x2 := HBx.out.cell 2 rfl
  have x3 := HBx.out.cell 3 rfl
  go_wp2_with fail
  refine (rowclocks_any _ PS _ (HT.out _ HRx.out) hbad.out.2).mono ?_
  rintro e w3 ⟨rfl, hb⟩
  rw [HC.out.1, HC.out.2]
  have hb' := below_then (below_new w1 (.cells #[.int .i64 0, .slice none 0 0, .int .i64 3, .int .i64 0, .int .i64 l, .slice ba bm bc, .int .i64 c, .int .i64 r] 49)) hb
  have HR3 : Hid (Run 0 bp w1 w3 s) := rn_below HR1 hb'
  have HBx3 : Hid (Blk w3 bb 49 [.int .i64 l, .slice ba bm bc, .int .i64 c, .int .i64 r]) := HBx.out.below hb'
  have HRx3 : Hid (RIn (fun _ => True) w3 (.slice ba bm bc) L) := rin_below HRx.out hb'
  clear x0 x1 x2 x3 hb hb' HBx HRx HR1 HC
  have x0 := HBx3.out.cell 0 rfl
  have x1 := HBx3.out.cell 1 rfl
  have x2 := HBx3.out.cell 2 rfl
  have x3 := HBx3.out.cell 3 rfl
  go_wp2_with fail
  refine (run_drive_form 0 bp w1 _ s _ PS (-1) (rn_below HR3 (below_new _ _)) (HT.out _ HRx3.out) hbad.out.2 hbad.out.1).mono ?_
  rintro e w4 ⟨rfl, -, HR4⟩
  clear x0 x1 x2 x3 HR3 HBx3 HRx3 HT hbad
  go_wp2_with fail
  refine (run_drive 0 bp w1 w4 s _ [] (-1) HR4 Hsel.out (pin_nil _ _) N6.out N5.out (by rw [N3.out]; decide) (by decide)).mono ?_
  rintro e w5 ⟨da, dc, rfl, -, HR5⟩
  rw [N2.out, N3.out, N4.out]
  have HF : Hid (Below w.heap.size w w5) := HB3.out.trans (HR5.out.only.old hwb HB3.out.size)
  clear HR4 HB3 N2 N3 N4 N5 N6 hwb
  go_wp2_with fail
  refine (num_any _ _).mono ?_
  rintro e w6 ⟨rfl, rfl⟩
  go_wp2_with fail
  refine (num_any _ _).mono ?_
  rintro e w6 ⟨rfl, rfl⟩
  go_wp2_with fail
  refine (num_any _ _).mono ?_
  rintro e w6 ⟨rfl, rfl⟩
  go_wp2_with fail
  refine (cells_run _ bp w1 _ (drvS s [] (-1)) A HR5 N1.out).mono ?_
  rintro e w6 ⟨rfl, rfl⟩
  go_wp2_with fail
  go_ret
  exact ⟨rfl, HF.out⟩

set_option maxRecDepth 100000 in
theorem lifted (os : Os) (started : os.Started) (H : Type) (enc : TypeId × Value → H) :
    ReturnsInHanded {} Tryz.checked os 4 .any (Rows.wireFormsSpec.pre6 enc Tryz.prog Tryz.f4 Rows.wireFormsRow.domain false) (Rows.wireFormsSpec.post enc Tryz.prog Tryz.f4 false true false false) := by
  refine returnsInHanded_of_change (C := Tryz.checked) own started (by kernel_rfl) Tryz.func4
    (ChangeSpec.witness6 (enc := enc) (C := Tryz.checked) false ⟨#[], #[.int .i64 0, .int .i64 0], []⟩ 8 (by kernel_rfl) (by kernel_rfl) (by kernel_rfl) (by kernel_rfl)) ?_
  intro W base args ds gs before hval0 hW hcnd _
  have hval : ∀ (j : Nat) t v, Tryz.f4.params[j]? = some t → args[j]? = some v → Value.okWide Tryz.prog W .any base t v := hval0
  have hW' := hW
  obtain ⟨p, q, hA0, hV, rfl, hfz, hnd⟩ := hW
  have hA : DataW.TrodAll enc Tryz.prog W 0 (fun _ => true) true Tryz.f4.params.toList args.toList ds p := hA0
  rw [Tryz.params4] at hA hval
  obtain ⟨v0, vs0, d0, ds0, p0, q0, hargs, rfl, rfl, h0, r0⟩ := trodAll_cons hA
  obtain ⟨v1, vs1, d1, ds1, p1, q1, rfl, rfl, rfl, h1, r1⟩ := trodAll_cons r0
  obtain ⟨rfl, rfl, rfl⟩ := trodAll_nil r1
  obtain rfl : args = #[v0, v1] := by cases args; simp_all
  obtain ⟨rfl, rfl⟩ := trodVars_none hV
  obtain ⟨a0, rfl, rfl, rfl, w0⟩ := open_int Tryz.underlying3 (hval 0 3 v0 rfl rfl) h0
  obtain ⟨a1, rfl, rfl, rfl, w1⟩ := open_int Tryz.underlying3 (hval 1 3 v1 rfl rfl) h1
  clear hA0 hval0
  refine (walk a0 a1 W w0 w1).mono fun e W' ⟨he, bel⟩ => ?_
  subst he
  exact ⟨_, rfl, _, _, _, [], _, [], hW', trodAll_mk1 (shut_bool Tryz.underlying4 _), (trodAll_cons_mk (shut_int Tryz.underlying3 w0) (trodAll_cons_mk (shut_int Tryz.underlying3 w1) trodAll_mk0)), rfl, bel.frame _, fun h => by cases h⟩

theorem over : Rows.wireFormsRow.holds Tryz.pinned (OpenSpec.ofChange Rows.wireFormsSpec) :=
  OpenClaim.holds_of_wide 4 Tryz.f4 rfl rfl rfl rfl rfl rfl rfl ⟨rfl, rfl, rfl, rfl, rfl⟩ rfl rfl rfl rfl rfl (by kernel_rfl) Tryz.func4 (by kernel_rfl)
    (of_decide_eq_true (by kernel_rfl)) (by unfold Func.isWrapper; first | (rw [if_pos (by decide +kernel)]; kernel_rfl) | (rw [if_neg (by decide +kernel)]; exact ⟨rfl, rfl⟩))
    (fun os started H enc _ => lifted os started H enc)

theorem proved : Rows.WireFormsSaid := over
#print axioms proved
end Go.Proofs.YtjhjghakfedeeaaGreat.wireForms
