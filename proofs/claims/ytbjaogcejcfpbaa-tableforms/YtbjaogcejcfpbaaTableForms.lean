/-
  TableForms: commands that may not be so are refused, one thing at a time; beside them one that may. No conditions.
-/
import Derived.Test.YtbjaogcejcfpbaaRows
import Derived.Test.YtbjaogcejcfpbaaForms
import Derived.Deep.RegionHeld3
import Derived.Deep.CutBlock
import Derived.Deep.CutRange
import Derived.WalkKit
import Derived.ProofKit
import Derived.OpenShut
import Derived.ShutString
import Derived.ChangeOld
import Derived.Below
namespace Go.Proofs.Ytbjaogcejcfpbaa.tableForms
open Go.ChangeShapes Go.WideShapes Go.ChangeAt Go.RowKit
open Go.ChangeMaps (open_string shut_string)
set_option linter.unusedVariables false

theorem own : ownKnob Try.prog.godebug = none := by kernel_rfl
theorem laidOut : laidOutB Try.prog = true := by kernel_rfl

set_option maxRecDepth 100000 in
set_option maxHeartbeats 2000000 in
theorem walk (a0 : Int) (a1 : Int) (w : World) (w0 : (Lit.int .i64 a0).wf = true) (w1 : (Lit.int .i64 a1).wf = true) :
    Calls Try.prog 5 #[.int .i64 a0, .int .i64 a1] w fun e w' => e = .returned (.bool true) ∧ Below w.heap.size w w' := by
  obtain ⟨K, hK, hmod⟩ := umod a0 19 (by omega) (by omega)
  have HM : Hid (wrap64 ((IntKind.u64.wrap a0).tmod 19) = (K : Int)) := hmod
  obtain ⟨d, hd⟩ : ∃ d : Nat, (d : Int) = a1 % 1024 + 1 := ⟨(a1 % 1024 + 1).toNat, by omega⟩
  have hd1 : 1 ≤ d := by omega
  have hd2 : d ≤ 1024 := by omega
  have HD : Hid (wrap64 (1 + bits .and .i64 a1 1023) = (d : Int)) := by
    rw [Hid, and_1023, hd, IntWalk.wrap64_in _ (by omega)]; omega
  clear hmod w0 w1 hd
  go_enter Try.func5, Try.ntmps5
  go_wp2_with fail
  refine (awake_any _).mono ?_
  rintro e w1 ⟨rfl, b1⟩
  have B1 : Hid (Below w.heap.size w w1) := b1
  clear b1
  go_upto_region 4 with fail
  rw [HD.out]
  go_wp2_with fail
  refine (find_3 _).mono ?_
  rintro e w2 ⟨rfl, b2⟩
  have S3 : Hid (Six (w2.alloc C3) w2.heap.size (.int .i64 3) (.int .i64 1) (.bool false) (.int .i64 0) (.int .i64 1) (.bool false)) := Six.new _ _ _ _ _ _ _
  have B2 : Hid (Below w.heap.size w (w2.alloc C3)) := below_then (below_then B1.out b2) (below_new _ _)
  clear b2 B1
  go_wp2_with fail
  refine (find_2 _).mono ?_
  rintro e w3 ⟨rfl, b3⟩
  have b3' : Below (w2.alloc C3).heap.size (w2.alloc C3) (w3.alloc C2) := below_then b3 (below_new _ _)
  have S2 : Hid (Six (w3.alloc C2) w3.heap.size (.int .i64 2) (.int .i64 1) (.bool false) (.int .i64 0) (.int .i64 1) (.bool true)) := Six.new _ _ _ _ _ _ _
  have S3 : Hid (Six (w3.alloc C2) w2.heap.size _ _ _ _ _ _) := S3.out.below b3'
  have B3 : Hid (Below w.heap.size w (w3.alloc C2)) := below_then B2.out b3'
  clear b3 b3' B2
  go_wp2_with fail
  refine (find_235 _).mono ?_
  rintro e w4 ⟨rfl, b4⟩
  have b4' : Below (w3.alloc C2).heap.size (w3.alloc C2) (w4.alloc C235) := below_then b4 (below_new _ _)
  have S235 : Hid (Six (w4.alloc C235) w4.heap.size (.int .i64 235) (.int .i64 4) (.bool true) (.int .i64 4) (.int .i64 4) (.bool false)) := Six.new _ _ _ _ _ _ _
  have S2 : Hid (Six (w4.alloc C235) w3.heap.size _ _ _ _ _ _) := S2.out.below b4'
  have S3 : Hid (Six (w4.alloc C235) w2.heap.size _ _ _ _ _ _) := S3.out.below b4'
  have B4 : Hid (Below w.heap.size w (w4.alloc C235)) := below_then B3.out b4'
  clear b4 b4' B3
  go_wp2_with fail
  refine (find_6 _).mono ?_
  rintro e w5 ⟨rfl, b5⟩
  have b5' : Below (w4.alloc C235).heap.size (w4.alloc C235) (w5.alloc C6) := below_then b5 (below_new _ _)
  have S6 : Hid (Six (w5.alloc C6) w5.heap.size (.int .i64 6) (.int .i64 0) (.bool false) (.int .i64 0) (.int .i64 0) (.bool false)) := Six.new _ _ _ _ _ _ _
  have S235 : Hid (Six (w5.alloc C6) w4.heap.size _ _ _ _ _ _) := S235.out.below b5'
  have S2 : Hid (Six (w5.alloc C6) w3.heap.size _ _ _ _ _ _) := S2.out.below b5'
  have S3 : Hid (Six (w5.alloc C6) w2.heap.size _ _ _ _ _ _) := S3.out.below b5'
  have B5 : Hid (Below w.heap.size w (w5.alloc C6)) := below_then B4.out b5'
  clear b5 b5' B4
  go_wp2_with fail
  refine (find_5 _).mono ?_
  rintro e w6 ⟨rfl, b6⟩
  have b6' : Below (w5.alloc C6).heap.size (w5.alloc C6) (w6.alloc C5) := below_then b6 (below_new _ _)
  have S5 : Hid (Six (w6.alloc C5) w6.heap.size (.int .i64 5) (.int .i64 0) (.bool false) (.int .i64 0) (.int .i64 1) (.bool false)) := Six.new _ _ _ _ _ _ _
  have S6 : Hid (Six (w6.alloc C5) w5.heap.size _ _ _ _ _ _) := S6.out.below b6'
  have S235 : Hid (Six (w6.alloc C5) w4.heap.size _ _ _ _ _ _) := S235.out.below b6'
  have S2 : Hid (Six (w6.alloc C5) w3.heap.size _ _ _ _ _ _) := S2.out.below b6'
  have S3 : Hid (Six (w6.alloc C5) w2.heap.size _ _ _ _ _ _) := S3.out.below b6'
  have B6 : Hid (Below w.heap.size w (w6.alloc C5)) := below_then B5.out b6'
  clear b6 b6' B5
  go_upto_region 9 with fail
  generalize hW : w6.alloc (.cells #[.int .i64 5, .int .i64 0, .bool false, .int .i64 0, .int .i64 1, .bool false] 23) = W at S5 S6 S235 S2 S3 B6 ⊢
  generalize hg3 : w2.heap.size = g3 at S3 ⊢
  generalize hg2 : w3.heap.size = g2 at S2 ⊢
  generalize hg235 : w4.heap.size = g235 at S235 ⊢
  generalize hg6 : w5.heap.size = g6 at S6 ⊢
  generalize hg5 : w6.heap.size = g5 at S5 ⊢
  clear hW hg3 hg2 hg235 hg6 hg5
  obtain ⟨p0, p1, p2, p3, p4, p5⟩ := S3.out
  obtain ⟨q0, q1, q2, q3, q4, q5⟩ := S2.out
  obtain ⟨r0, r1, r2, r3, r4, r5⟩ := S235.out
  obtain ⟨s0, s1, s2, s3, s4, s5⟩ := S6.out
  obtain ⟨t0, t1, t2, t3, t4, t5⟩ := S5.out
  have hmk := make_512 d hd2
  go_upto_region 16 with (go_at_call 12; refine (num_any _ _).mono ?_; rintro e w' ⟨rfl, rfl⟩)
  rw [HM.out]
  show Code.wp _ _ _ _ (formsW W d W.heap.size)
  obtain ⟨o, k, r, a, n, c, L, hO, hA, hDt, hR, hCm, hn, hf⟩ := forms_at W d W.heap.size K rfl hd1 hd2 hK
  have bZ : Below W.heap.size W (formsW W d W.heap.size) := allocs_below _ _
  generalize hZ : formsW W d W.heap.size = Z at hO hA hDt hR hCm bZ ⊢
  clear hZ hmk S2 S235 S6 S5 p0 p1 p2 p3 p4 p5 q0 q1 q2 q3 q4 q5 r0 r1 r2 r3 r4 r5 s0 s1 s2 s3 s4 s5 t0 t1 t2 t3 t4 t5 HD
  obtain ⟨ob, oA, oM, oD, oN, oI⟩ := o
  obtain ⟨o0, o1, o2, o3, o4, o5⟩ := hO
  dsimp only at o0 o1 o2 o3 o4 o5 hf
  have HB : Hid (Below w.heap.size w Z) := below_then B6.out bZ
  have HS : Hid (Six Z g3 _ _ _ _ _ _) := S3.out.below bZ
  have HC : Hid (Came Z a n c L) := hCm
  have HF : Hid (fitB ob oA oM oD oN oI k L r = false) := hf
  clear B6 bZ S3 hCm hf
  have S0 : Z.drew.cell? ⟨W.heap.size, K * 6, none⟩ = some (.int .i64 ob) ∧ Z.drew.cell? ⟨W.heap.size, K * 6 + 1, none⟩ = some (.int .i64 oA) ∧ Z.drew.cell? ⟨W.heap.size, K * 6 + 2, none⟩ = some (.bool oM) ∧ Z.drew.cell? ⟨W.heap.size, K * 6 + 3, none⟩ = some (.int .i64 oD) ∧ Z.drew.cell? ⟨W.heap.size, K * 6 + 4, none⟩ = some (.int .i64 oN) ∧ Z.drew.cell? ⟨W.heap.size, K * 6 + 5, none⟩ = some (.bool oI) ∧ Z.drew.cell? ⟨W.heap.size + 1, K, none⟩ = some (.int .i64 k) ∧ Z.drew.cell? ⟨W.heap.size + 1 + 1 + 1 + 1 + 1 + 1 + 1 + 1 + 1 + 1 + 1, K, none⟩ = some (.slice a n c) ∧ Z.drew.cell? ⟨W.heap.size + 1 + 1 + 1 + 1 + 1 + 1 + 1 + 1 + 1 + 1 + 1 + 1, K, none⟩ = some (.int .i64 r) := ⟨o0, o1, o2, o3, o4, o5, hA, hDt, hR⟩
  have i1 : (0 : Int) ≤ (K : Int) := by omega
  have i2 : (K : Int) < 19 := by omega
  clear o0 o1 o2 o3 o4 o5 hA hDt hR
  go_region_held3 (fun z => z.cell? ⟨W.heap.size, K * 6, none⟩ = some (.int .i64 ob) ∧ z.cell? ⟨W.heap.size, K * 6 + 1, none⟩ = some (.int .i64 oA) ∧ z.cell? ⟨W.heap.size, K * 6 + 2, none⟩ = some (.bool oM) ∧ z.cell? ⟨W.heap.size, K * 6 + 3, none⟩ = some (.int .i64 oD) ∧ z.cell? ⟨W.heap.size, K * 6 + 4, none⟩ = some (.int .i64 oN) ∧ z.cell? ⟨W.heap.size, K * 6 + 5, none⟩ = some (.bool oI) ∧ z.cell? ⟨W.heap.size + 1, K, none⟩ = some (.int .i64 k) ∧ z.cell? ⟨W.heap.size + 1 + 1 + 1 + 1 + 1 + 1 + 1 + 1 + 1 + 1 + 1, K, none⟩ = some (.slice a n c) ∧ z.cell? ⟨W.heap.size + 1 + 1 + 1 + 1 + 1 + 1 + 1 + 1 + 1 + 1 + 1 + 1, K, none⟩ = some (.int .i64 r)) (first | exact S0 | exact s1)
    (first | (go_at_call 10; refine (command_no ob oA oM oD oN oI k a n c L r _ (HC.out.below (Below.refl _ _).drew) hn HF.out).mono ?_; rintro e z1 ⟨rfl, b1⟩; (have s1 := And.intro ((b1.cell (cell_lt S0.1)).trans S0.1) (And.intro ((b1.cell (cell_lt S0.2.1)).trans S0.2.1) (And.intro ((b1.cell (cell_lt S0.2.2.1)).trans S0.2.2.1) (And.intro ((b1.cell (cell_lt S0.2.2.2.1)).trans S0.2.2.2.1) (And.intro ((b1.cell (cell_lt S0.2.2.2.2.1)).trans S0.2.2.2.2.1) (And.intro ((b1.cell (cell_lt S0.2.2.2.2.2.1)).trans S0.2.2.2.2.2.1) (And.intro ((b1.cell (cell_lt S0.2.2.2.2.2.2.1)).trans S0.2.2.2.2.2.2.1) (And.intro ((b1.cell (cell_lt S0.2.2.2.2.2.2.2.1)).trans S0.2.2.2.2.2.2.2.1) ((b1.cell (cell_lt S0.2.2.2.2.2.2.2.2)).trans S0.2.2.2.2.2.2.2.2)))))))))))
  have bz : Below Z.heap.size Z z1 := below_then (Below.refl _ _).drew b1
  have B1 : Hid (Below w.heap.size w z1) := below_then HB.out bz
  have HS1 : Hid (Six z1 g3 _ _ _ _ _ _) := HS.out.below bz
  have HD1 : Hid (1 ≤ d) := hd1
  clear b1 bz S0 s1 HB HS HC HF
  go_wp2_with fail
  refine (find_no (255 + (d : Int)) _ (far_no d HD1.out)).mono ?_
  rintro e z2 ⟨rfl, b2⟩
  have bz : Below z1.heap.size z1 (z2.alloc (.cells #[.int .i64 0, .int .i64 0, .bool false, .int .i64 0, .int .i64 0, .bool false] 23)) := below_then b2 (below_new _ _)
  have B2 : Hid (Below w.heap.size w (z2.alloc (.cells #[.int .i64 0, .int .i64 0, .bool false, .int .i64 0, .int .i64 0, .bool false] 23))) := below_then B1.out bz
  obtain ⟨c0, c1, c2, c3, c4, c5⟩ := HS1.out.below bz
  clear b2 bz B1 HS1
  go_wp2_with fail
  refine (command_yes 3 1 false 0 1 false 4095 none 0 0 [] 512 _ okL (Came.none _) (by decide) (by decide) ok_is).mono ?_
  rintro e z3 ⟨v, rfl, qs, hp, hX, b3⟩
  obtain ⟨va, vc, rfl⟩ := powns_three hp hX 3 rfl
  have B3 : Hid (Below w.heap.size w z3) := below_then B2.out b3
  clear hp hX b3 B2 c0 c1 c2 c3 c4 c5
  go_wp2_with (go_at_call 12; refine (num_any _ _).mono ?_; rintro e w' ⟨rfl, rfl⟩)
  go_ret
  exact ⟨rfl, B3.out⟩

set_option maxRecDepth 100000 in
theorem lifted (os : Os) (started : os.Started) (H : Type) (enc : TypeId × Value → H) :
    ReturnsInHanded {} Try.checked os 5 .any (Rows.tableFormsSpec.pre6 enc Try.prog Try.f5 Rows.tableFormsRow.domain false) (Rows.tableFormsSpec.post enc Try.prog Try.f5 false true false false) := by
  refine returnsInHanded_of_change (C := Try.checked) own started (by kernel_rfl) Try.func5
    (ChangeSpec.witness6 (enc := enc) (C := Try.checked) false ⟨#[], #[.int .i64 0, .int .i64 0], []⟩ 8 (by kernel_rfl) (by kernel_rfl) (by kernel_rfl) (by kernel_rfl)) ?_
  intro W base args ds gs before hval0 hW hcnd _
  have hval : ∀ (j : Nat) t v, Try.f5.params[j]? = some t → args[j]? = some v → Value.okWide Try.prog W .any base t v := hval0
  have hW' := hW
  obtain ⟨p, q, hA0, hV, rfl, hfz, hnd⟩ := hW
  have hA : DataW.TrodAll enc Try.prog W 0 (fun _ => true) true Try.f5.params.toList args.toList ds p := hA0
  rw [Try.params5] at hA hval
  obtain ⟨v0, vs0, d0, ds0, p0, q0, hargs, rfl, rfl, h0, r0⟩ := trodAll_cons hA
  obtain ⟨v1, vs1, d1, ds1, p1, q1, rfl, rfl, rfl, h1, r1⟩ := trodAll_cons r0
  obtain ⟨rfl, rfl, rfl⟩ := trodAll_nil r1
  obtain rfl : args = #[v0, v1] := by cases args; simp_all
  obtain ⟨rfl, rfl⟩ := trodVars_none hV
  obtain ⟨a0, rfl, rfl, rfl, w0⟩ := open_int Try.underlying3 (hval 0 3 v0 rfl rfl) h0
  obtain ⟨a1, rfl, rfl, rfl, w1⟩ := open_int Try.underlying3 (hval 1 3 v1 rfl rfl) h1
  clear hA0 hval0
  refine (walk a0 a1 W w0 w1).mono fun e W' ⟨he, bel⟩ => ?_
  subst he
  exact ⟨_, rfl, _, _, _, [], _, [], hW', trodAll_mk1 (shut_bool Try.underlying4 _), (trodAll_cons_mk (shut_int Try.underlying3 w0) (trodAll_cons_mk (shut_int Try.underlying3 w1) trodAll_mk0)), rfl, bel.frame _, fun h => by cases h⟩

theorem over : Rows.tableFormsRow.holds Try.pinned (OpenSpec.ofChange Rows.tableFormsSpec) :=
  OpenClaim.holds_of_wide 5 Try.f5 rfl rfl rfl rfl rfl rfl rfl ⟨rfl, rfl, rfl, rfl, rfl⟩ rfl rfl rfl rfl rfl (by kernel_rfl) Try.func5 (by kernel_rfl)
    (of_decide_eq_true (by kernel_rfl)) (by unfold Func.isWrapper; first | (rw [if_pos (by decide +kernel)]; kernel_rfl) | (rw [if_neg (by decide +kernel)]; exact ⟨rfl, rfl⟩))
    (fun os started H enc _ => lifted os started H enc)

theorem proved : Rows.TableFormsSaid := over
#print axioms proved
end Go.Proofs.Ytbjaogcejcfpbaa.tableForms
