/-
  TableAddress: of commands with an address it stands in three bytes, the highest first; unlike ones have unlike phases. No conditions.
-/
import Derived.Test.YtbjaogcejcfpbaaRows
import Derived.Test.YtbjaogcejcfpbaaPlace
import Derived.Deep.RegionHeld3
import Derived.Deep.CutBlock
import Derived.Deep.CutRange
import Derived.WalkKit
import Derived.ProofKit
import Derived.OpenShut
import Derived.ShutString
import Derived.ChangeOld
import Derived.Below
namespace Go.Proofs.Ytbjaogcejcfpbaa.tableAddress
open Go.ChangeShapes Go.WideShapes Go.ChangeAt Go.RowKit
open Go.ChangeMaps (open_string shut_string)
set_option linter.unusedVariables false

theorem own : ownKnob Try.prog.godebug = none := by kernel_rfl
theorem laidOut : laidOutB Try.prog = true := by kernel_rfl

set_option maxRecDepth 100000 in
set_option maxHeartbeats 8000000 in
theorem walk (a0 : Int) (a1 : Int) (a2 : Int) (w : World) (w0 : (Lit.int .i64 a0).wf = true) (w1 : (Lit.int .i64 a1).wf = true) (w2 : (Lit.int .i64 a2).wf = true) :
    Calls Try.prog 6 #[.int .i64 a0, .int .i64 a1, .int .i64 a2] w fun e w' => e = .returned (.bool true) ∧ Below w.heap.size w w' := by
  obtain ⟨K, hK, hmod⟩ := umod a2 5 (by omega) (by omega)
  have HM : Hid (wrap64 ((IntKind.u64.wrap a2).tmod 5) = (K : Int)) := hmod
  obtain ⟨x, hx⟩ : ∃ x : Nat, (x : Int) = a0 % 4096 := ⟨(a0 % 4096).toNat, by omega⟩
  obtain ⟨y, hy⟩ : ∃ y : Nat, (y : Int) = a1 % 4096 := ⟨(a1 % 4096).toNat, by omega⟩
  have hx2 : x < 4096 := by omega
  have hy2 : y < 4096 := by omega
  have HX : Hid (bits .and .i64 a0 4095 = (x : Int)) := by rw [Hid, and_4095, hx]
  have HY : Hid (bits .and .i64 a1 4095 = (y : Int)) := by rw [Hid, and_4095, hy]
  clear hmod w0 w1 w2 hx hy
  obtain ⟨b, hb⟩ : ∃ b, b = placeL.getD K 0 := ⟨_, rfl⟩
  obtain ⟨hop, hA, hMo⟩ := place_at K hK
  rw [← hb] at hop hA hMo
  obtain ⟨D, hD⟩ : ∃ D, opD b = D := ⟨_, rfl⟩
  obtain ⟨N, hN⟩ : ∃ N, opN b = N := ⟨_, rfl⟩
  obtain ⟨I, hI⟩ : ∃ I, opI b = I := ⟨_, rfl⟩
  have HFd : Hid (∀ z, Calls Try.prog 7 #[.int .i64 b] z fun e w' => e = .returned (.tuple #[.agg #[.int .i64 b, .int .i64 1, .bool false, .int .i64 D, .int .i64 N, .bool I], .int .i64 0]) ∧ Below z.heap.size z w') := fun z => by
    have := find_yes b z hop
    rwa [hA, hMo, hD, hN, hI] at this
  have HFit : Hid (∀ k : Nat, k < 4096 → fitB b 1 false D N I k [] 0 = true ∧ phL (b, 1, false, D, N, I) (k : Int).toNat [] 0 = placeP b D k) := fun k hk => place_fit hop hA hMo hD hN hI k hk
  have HBs : Hid (b = placeL.getD K 0) := hb
  clear hb hop hA hMo hD hN hI
  go_enter Try.func6, Try.ntmps6
  go_wp2_with fail
  refine (awake_any _).mono ?_
  rintro e w1 ⟨rfl, b1⟩
  go_upto_region 4 with fail
  have R1 : Reads (w1.alloc (.cells #[.int .i64 3, .int .i64 32, .int .i64 90, .int .i64 107, .int .i64 2] 3)) (.slice (some ⟨w1.heap.size, 0, none⟩) 5 5) placeL := reads_lit placeL (heap_alloc_new _ _) rfl rfl 5
  have cK := reads_cell R1 K hK
  rw [← HBs.out] at cK
  have B1 : Hid (Below w.heap.size w (w1.alloc (.cells #[.int .i64 3, .int .i64 32, .int .i64 90, .int .i64 107, .int .i64 2] 3))) := below_then b1 (below_new _ _)
  generalize hW : w1.alloc (.cells #[.int .i64 3, .int .i64 32, .int .i64 90, .int .i64 107, .int .i64 2] 3) = W at cK B1 ⊢
  clear hW b1 R1
  have hmod := HM.out
  have i1 : (0 : Int) ≤ (K : Int) := by omega
  have i2 : (K : Int) < 5 := by omega
  go_wp2_with fail
  refine (HFd.out _).mono ?_
  rintro e w2 ⟨rfl, b2⟩
  have S2 : Hid (Six (w2.alloc (.cells #[.int .i64 b, .int .i64 1, .bool false, .int .i64 D, .int .i64 N, .bool I] 23)) w2.heap.size (.int .i64 b) (.int .i64 1) (.bool false) (.int .i64 D) (.int .i64 N) (.bool I)) := Six.new _ _ _ _ _ _ _
  have B2 : Hid (Below w.heap.size w (w2.alloc (.cells #[.int .i64 b, .int .i64 1, .bool false, .int .i64 D, .int .i64 N, .bool I] 23))) := below_then (below_then B1.out b2) (below_new _ _)
  clear hmod i1 i2 cK B1 b2 HM HFd HBs
  have hbx := HX.out
  have hby := HY.out
  obtain ⟨m, hm1, hm2, hm⟩ := place_len b D
  have HL : Hid (∀ k, (placeP b D k).length = m) := hm
  clear hm
  go_wp2_with fail
  refine (command_yes b 1 false D N I x none 0 0 [] 0 _ (placeP b D x) (Came.none _) (by decide) (HFit.out x hx2).1 (HFit.out x hx2).2).mono ?_
  rintro e w3 ⟨v, rfl, qs, hp, hX, b3⟩
  obtain ⟨g, c, a0', c0, gz, c1, rfl, y0, y1, y2, y3, y5, yr, z0, z1, z2⟩ := place_open hx2 hp hX (HL.out x)
  have HP3 : Hid (PReads w3 (.slice (some ⟨g, 0, none⟩) m c) (placeP b D x)) := by rw [Hid, ← hX]; exact hp.reads
  have C3 : Hid (w3.cell? ⟨g, 0, none⟩ = some (.int .i64 1) ∧ w3.cell? ⟨g, 1, none⟩ = some (.slice a0' 1 c0) ∧ w3.cell? ⟨g, 2, none⟩ = some (.int .i64 0) ∧ w3.cell? ⟨g, 3, none⟩ = some (.int .i64 0) ∧ w3.cell? ⟨g, 5, none⟩ = some (.slice (some ⟨gz, 0, none⟩) 3 c1) ∧ Reads w3 (.slice a0' 1 c0) [b] ∧ w3.cell? ⟨gz, 0, none⟩ = some (.int .i64 0) ∧ w3.cell? ⟨gz, 1, none⟩ = some (.int .i64 ((x / 256 : Nat) : Int)) ∧ w3.cell? ⟨gz, 2, none⟩ = some (.int .i64 ((x % 256 : Nat) : Int))) := ⟨y0, y1, y2, y3, y5, yr, z0, z1, z2⟩
  obtain ⟨k0, k1, k2, k3, k4, k5⟩ := S2.out.below b3
  have B3 : Hid (Below w.heap.size w w3) := below_then B2.out b3
  clear hp hX b3 y0 y1 y2 y3 y5 yr z0 z1 z2 S2 B2
  go_wp2_with fail
  refine (command_yes b 1 false D N I y none 0 0 [] 0 _ (placeP b D y) (Came.none _) (by decide) (HFit.out y hy2).1 (HFit.out y hy2).2).mono ?_
  rintro e w4 ⟨v, rfl, qs, hp, hX, b4⟩
  obtain ⟨g', c', a0'', c0', gz', c1', rfl, y0, y1, y2, y3, -, yr, -, -, -⟩ := place_open hy2 hp hX (HL.out y)
  have HP4 : Hid (PReads w4 (.slice (some ⟨g', 0, none⟩) m c') (placeP b D y)) := by rw [Hid, ← hX]; exact hp.reads
  have HP3 : Hid (PReads w4 (.slice (some ⟨g, 0, none⟩) m c) (placeP b D x)) := HP3.out.below b4
  have B4 : Hid (Below w.heap.size w w4) := below_then B3.out b4
  obtain ⟨d0, d1, d2, d3, d5, dr, e0, e1, e2⟩ := C3.out
  have f0 := (b4.cell (cell_lt d0)).trans d0
  have f1 := (b4.cell (cell_lt d1)).trans d1
  have f2 := (b4.cell (cell_lt d2)).trans d2
  have f3 := (b4.cell (cell_lt d3)).trans d3
  have f5 := (b4.cell (cell_lt d5)).trans d5
  have h0 := (b4.cell (cell_lt e0)).trans e0
  have h1 := (b4.cell (cell_lt e1)).trans e1
  have h2 := (b4.cell (cell_lt e2)).trans e2
  have HR : Hid (Reads w4 (.slice a0' 1 c0) [b] ∧ Reads w4 (.slice a0'' 1 c0') [b]) := ⟨dr.below b4, yr⟩
  clear hp hX b4 yr d0 d1 d2 d3 d5 dr e0 e1 e2 B3 C3 k0 k1 k2 k3 k4 k5 HFit
  have hm2' : ¬ ((m : Int) < 2) := by omega
  go_upto_region 10 with (go_at_call 12; refine (num_any _ _).mono ?_; rintro e w' ⟨rfl, rfl⟩)
  go_cut [16] from 17 (fun v16 wc => v16 = .slice (some ⟨gz, 0, none⟩) 3 c1 ∧ wc = w4)
  case first => as_aux_lemma =>
    go_wp2_with fail
    go_meet
    case rel => exact ⟨rfl, rfl⟩
  obtain ⟨rfl, rfl⟩ := hcut
  obtain ⟨w4, ec⟩ : ∃ y, y = wc := ⟨_, rfl⟩
  subst ec
  obtain ⟨u, hu⟩ : ∃ u : Nat, u = x / 256 := ⟨_, rfl⟩
  obtain ⟨t, ht⟩ : ∃ t : Nat, t = x % 256 := ⟨_, rfl⟩
  rw [← hu] at h1
  rw [← ht] at h2
  have hu2 : u < 16 := by omega
  have ht2 : t < 256 := by omega
  have hxt : (u : Int) * 256 + t = x := by omega
  have ho1 : bits .or .i64 0 ((u : Int) * 256) = (u : Int) * 256 := by
    have := or_add 0 ((u : Int) * 256) 12 (by omega) (by omega) (by omega) (by omega)
    simpa using this
  have ho2 : bits .or .i64 ((u : Int) * 256) (t : Int) = (x : Int) := by
    have := or_add (u : Int) (t : Int) 8 (by omega) (by omega) (by omega) (by omega)
    rw [show ((2 : Int) ^ 8) = 256 from rfl] at this
    rw [this, hxt]
  have hw0 : IntKind.i64.wrap 0 = 0 := by decide
  have hw1 : IntKind.i64.wrap ((u : Int) * 256) = (u : Int) * 256 := by rw [IntKind.wrap_i64]; omega
  have im : (0 : Int) < (m : Int) := by omega
  have im' : 0 < m := by omega
  have HS : Hid (∀ z, Below w4.heap.size w4 z → z.cell? ⟨g, 0, none⟩ = some (.int .i64 1) ∧ z.cell? ⟨g, 1, none⟩ = some (.slice a0' 1 c0) ∧ z.cell? ⟨g, 2, none⟩ = some (.int .i64 0) ∧ z.cell? ⟨g, 3, none⟩ = some (.int .i64 0) ∧ z.cell? ⟨g', 0, none⟩ = some (.int .i64 1) ∧ z.cell? ⟨g', 1, none⟩ = some (.slice a0'' 1 c0') ∧ z.cell? ⟨g', 2, none⟩ = some (.int .i64 0) ∧ z.cell? ⟨g', 3, none⟩ = some (.int .i64 0) ∧ z.cell? ⟨gz, 0, none⟩ = some (.int .i64 0) ∧ z.cell? ⟨gz, 1, none⟩ = some (.int .i64 (u : Int)) ∧ z.cell? ⟨gz, 2, none⟩ = some (.int .i64 (t : Int))) := fun z hz => ⟨(hz.cell (cell_lt f0)).trans f0, (hz.cell (cell_lt f1)).trans f1, (hz.cell (cell_lt f2)).trans f2, (hz.cell (cell_lt f3)).trans f3, (hz.cell (cell_lt y0)).trans y0, (hz.cell (cell_lt y1)).trans y1, (hz.cell (cell_lt y2)).trans y2, (hz.cell (cell_lt y3)).trans y3, (hz.cell (cell_lt h0)).trans h0, (hz.cell (cell_lt h1)).trans h1, (hz.cell (cell_lt h2)).trans h2⟩
  obtain ⟨q, hq1, hq2⟩ : ∃ q : Bool, decide (placeP b D x = placeP b D y) = q ∧ ((x : Int) == (y : Int)) = q := by
    by_cases h : x = y
    · exact ⟨true, decide_eq_true ((place_inj hx2 hy2).2 h), by simp [h]⟩
    · exact ⟨false, decide_eq_false (fun k => h ((place_inj hx2 hy2).1 k)), by simp; omega⟩
  have HQ : Hid (decide (placeP b D x = placeP b D y) = q) := hq1
  have bz0 : Below w4.heap.size w4 w4.drew := (Below.refl _ _).drew
  have HC1 : Hid (Calls Try.prog 13 #[.slice (some ⟨g, 0, none⟩) m c, .slice (some ⟨g', 0, none⟩) m c'] w4.drew fun e w' => e = .returned (.bool q) ∧ Below w4.drew.heap.size w4.drew w') := (phases_same _ _ (placeP b D x) (placeP b D y) _ (HP3.out.below bz0) (HP4.out.below bz0) (place_short _ _ _) (place_short _ _ _)).mono fun e w' ⟨he, hb⟩ => ⟨by rw [he, HQ.out], hb⟩
  clear f0 f1 f2 f3 f5 y0 y1 y2 y3 h0 h1 h2 hu ht hq1 hbx hby hx2 hy2
  have hqq : (q == q) = true := by simp
  as_aux_lemma =>
   go_upto_region 11 with fail
   go_region_held3 (fun z => z.cell? ⟨g, 0, none⟩ = some (.int .i64 1) ∧ z.cell? ⟨g, 1, none⟩ = some (.slice a0' 1 c0) ∧ z.cell? ⟨g, 2, none⟩ = some (.int .i64 0) ∧ z.cell? ⟨g, 3, none⟩ = some (.int .i64 0) ∧ z.cell? ⟨g', 0, none⟩ = some (.int .i64 1) ∧ z.cell? ⟨g', 1, none⟩ = some (.slice a0'' 1 c0') ∧ z.cell? ⟨g', 2, none⟩ = some (.int .i64 0) ∧ z.cell? ⟨g', 3, none⟩ = some (.int .i64 0) ∧ z.cell? ⟨gz, 0, none⟩ = some (.int .i64 0) ∧ z.cell? ⟨gz, 1, none⟩ = some (.int .i64 (u : Int)) ∧ z.cell? ⟨gz, 2, none⟩ = some (.int .i64 (t : Int))) (exact HS.out _ (by assumption))
     (first | ((have hh := bz1); go_at_call 13; refine (phases_same _ _ [(1, [b], 0, 0)] [(1, [b], 0, 0)] _ (by assumption) (by assumption) (short_one b) (short_one b)).mono ?_; rintro e s2 ⟨rfl, b2⟩; (have bz4 : Below w4.heap.size w4 s2 := below_then (by assumption) b2)) | (go_at_call 13; refine (HC1.out).mono ?_; rintro e s1 ⟨rfl, b1⟩; (have bz1 : Below w4.heap.size w4 s1 := below_then bz0 b1); (have bz2 : Below w4.heap.size w4 (s1.alloc (.cells #[.int .i64 1, .slice a0' 1 c0, .int .i64 0, .int .i64 0] 45)) := below_then bz1 (below_new _ _)); (have bz3 : Below w4.heap.size w4 (s1.alloc (.cells #[.int .i64 1, .slice a0'' 1 c0', .int .i64 0, .int .i64 0] 45)) := below_then bz1 (below_new _ _)); (have bz5 : Below w4.heap.size w4 ((s1.alloc (.cells #[.int .i64 1, .slice a0' 1 c0, .int .i64 0, .int .i64 0] 45)).alloc (.cells #[.int .i64 1, .slice a0'' 1 c0', .int .i64 0, .int .i64 0] 45)) := below_then bz2 (below_new _ _)); (have bz6 : Below w4.heap.size w4 ((s1.alloc (.cells #[.int .i64 1, .slice a0'' 1 c0', .int .i64 0, .int .i64 0] 45)).alloc (.cells #[.int .i64 1, .slice a0' 1 c0, .int .i64 0, .int .i64 0] 45)) := below_then bz3 (below_new _ _)); (have r1a : PReads ((s1.alloc (.cells #[.int .i64 1, .slice a0' 1 c0, .int .i64 0, .int .i64 0] 45)).alloc (.cells #[.int .i64 1, .slice a0'' 1 c0', .int .i64 0, .int .i64 0] 45)) (.slice (some ⟨s1.heap.size, 0, none⟩) 1 1) [(1, [b], 0, 0)] := (lit_one (HR.out.1.below bz1) rfl).below (below_new _ _)); (have r2a : PReads ((s1.alloc (.cells #[.int .i64 1, .slice a0' 1 c0, .int .i64 0, .int .i64 0] 45)).alloc (.cells #[.int .i64 1, .slice a0'' 1 c0', .int .i64 0, .int .i64 0] 45)) (.slice (some ⟨s1.heap.size + 1, 0, none⟩) 1 1) [(1, [b], 0, 0)] := lit_one (HR.out.2.below bz2) (by simp)); (have r1b : PReads ((s1.alloc (.cells #[.int .i64 1, .slice a0'' 1 c0', .int .i64 0, .int .i64 0] 45)).alloc (.cells #[.int .i64 1, .slice a0' 1 c0, .int .i64 0, .int .i64 0] 45)) (.slice (some ⟨s1.heap.size + 1, 0, none⟩) 1 1) [(1, [b], 0, 0)] := lit_one (HR.out.1.below bz3) (by simp)); (have r2b : PReads ((s1.alloc (.cells #[.int .i64 1, .slice a0'' 1 c0', .int .i64 0, .int .i64 0] 45)).alloc (.cells #[.int .i64 1, .slice a0' 1 c0, .int .i64 0, .int .i64 0] 45)) (.slice (some ⟨s1.heap.size, 0, none⟩) 1 1) [(1, [b], 0, 0)] := (lit_one (HR.out.2.below bz1) rfl).below (below_new _ _)); (clear b1)))
   all_goals go_wp2
   all_goals go_ret
   all_goals exact ⟨rfl, below_then B4.out bz4⟩

set_option maxRecDepth 100000 in
theorem lifted (os : Os) (started : os.Started) (H : Type) (enc : TypeId × Value → H) :
    ReturnsInHanded {} Try.checked os 6 .any (Rows.tableAddressSpec.pre6 enc Try.prog Try.f6 Rows.tableAddressRow.domain false) (Rows.tableAddressSpec.post enc Try.prog Try.f6 false true false false) := by
  refine returnsInHanded_of_change (C := Try.checked) own started (by kernel_rfl) Try.func6
    (ChangeSpec.witness6 (enc := enc) (C := Try.checked) false ⟨#[], #[.int .i64 0, .int .i64 0, .int .i64 0], []⟩ 8 (by kernel_rfl) (by kernel_rfl) (by kernel_rfl) (by kernel_rfl)) ?_
  intro W base args ds gs before hval0 hW hcnd _
  have hval : ∀ (j : Nat) t v, Try.f6.params[j]? = some t → args[j]? = some v → Value.okWide Try.prog W .any base t v := hval0
  have hW' := hW
  obtain ⟨p, q, hA0, hV, rfl, hfz, hnd⟩ := hW
  have hA : DataW.TrodAll enc Try.prog W 0 (fun _ => true) true Try.f6.params.toList args.toList ds p := hA0
  rw [Try.params6] at hA hval
  obtain ⟨v0, vs0, d0, ds0, p0, q0, hargs, rfl, rfl, h0, r0⟩ := trodAll_cons hA
  obtain ⟨v1, vs1, d1, ds1, p1, q1, rfl, rfl, rfl, h1, r1⟩ := trodAll_cons r0
  obtain ⟨v2, vs2, d2, ds2, p2, q2, rfl, rfl, rfl, h2, r2⟩ := trodAll_cons r1
  obtain ⟨rfl, rfl, rfl⟩ := trodAll_nil r2
  obtain rfl : args = #[v0, v1, v2] := by cases args; simp_all
  obtain ⟨rfl, rfl⟩ := trodVars_none hV
  obtain ⟨a0, rfl, rfl, rfl, w0⟩ := open_int Try.underlying3 (hval 0 3 v0 rfl rfl) h0
  obtain ⟨a1, rfl, rfl, rfl, w1⟩ := open_int Try.underlying3 (hval 1 3 v1 rfl rfl) h1
  obtain ⟨a2, rfl, rfl, rfl, w2⟩ := open_int Try.underlying3 (hval 2 3 v2 rfl rfl) h2
  clear hA0 hval0
  refine (walk a0 a1 a2 W w0 w1 w2).mono fun e W' ⟨he, bel⟩ => ?_
  subst he
  exact ⟨_, rfl, _, _, _, [], _, [], hW', trodAll_mk1 (shut_bool Try.underlying4 _), (trodAll_cons_mk (shut_int Try.underlying3 w0) (trodAll_cons_mk (shut_int Try.underlying3 w1) (trodAll_cons_mk (shut_int Try.underlying3 w2) trodAll_mk0))), rfl, bel.frame _, fun h => by cases h⟩

theorem over : Rows.tableAddressRow.holds Try.pinned (OpenSpec.ofChange Rows.tableAddressSpec) :=
  OpenClaim.holds_of_wide 6 Try.f6 rfl rfl rfl rfl rfl rfl rfl ⟨rfl, rfl, rfl, rfl, rfl⟩ rfl rfl rfl rfl rfl (by kernel_rfl) Try.func6 (by kernel_rfl)
    (of_decide_eq_true (by kernel_rfl)) (by unfold Func.isWrapper; first | (rw [if_pos (by decide +kernel)]; kernel_rfl) | (rw [if_neg (by decide +kernel)]; exact ⟨rfl, rfl⟩))
    (fun os started H enc _ => lifted os started H enc)

theorem proved : Rows.TableAddressSaid := over
#print axioms proved
end Go.Proofs.Ytbjaogcejcfpbaa.tableAddress
