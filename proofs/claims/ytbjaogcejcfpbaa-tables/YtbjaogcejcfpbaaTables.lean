/-
  Tables: any byte, command, place, data, read is answered by the program as by the document; the data stay. No conditions.
-/
import Derived.Test.YtbjaogcejcfpbaaRows
import Derived.Test.YtbjaogcejcfpbaaTell
import Derived.Deep.CutBlock
import Derived.Deep.CutRange
import Derived.WalkKit
import Derived.ProofKit
import Derived.OpenShut
import Derived.ShutString
import Derived.ChangeOld
import Derived.SizedLaws
import Derived.Below
namespace Go.Proofs.Ytbjaogcejcfpbaa.tables
open Go.ChangeShapes Go.WideShapes Go.ChangeAt Go.RowKit
open Go.ChangeMaps (open_string shut_string)
set_option linter.unusedVariables false

theorem own : ownKnob Try.prog.godebug = none := by kernel_rfl
theorem laidOut : laidOutB Try.prog = true := by kernel_rfl

set_option maxRecDepth 100000 in
set_option maxHeartbeats 2000000 in
theorem walk (a0 : Int) (ob oA : Int) (oM : Bool) (oD oN : Int) (oI : Bool) (a2 : Bool) (a3 : Int) (a4 : Option Addr) (len4 cap4 : Nat) (z4 : List Int) (a5 : Int) (w : World) (w4 : Came w a4 len4 cap4 z4) (s4 : len4 * 8 ≤ 140737488351232) :
    Calls Try.prog 3 #[.int .i64 a0, .agg #[.int .i64 ob, .int .i64 oA, .bool oM, .int .i64 oD, .int .i64 oN, .bool oI], .bool a2, .int .i64 a3, .slice a4 len4 cap4, .int .i64 a5] w fun e w' => e = .returned (.bool true) ∧ Below w.heap.size w w' := by
  have HC : Hid (Came w a4 len4 cap4 z4) := w4
  have HX0 : Hid (Box (w.alloc (.cells #[.int .i64 ob, .int .i64 oA, .bool oM, .int .i64 oD, .int .i64 oN, .bool oI] 23)) w.heap.size (ob, oA, oM, oD, oN, oI)) := Box.new w (ob, oA, oM, oD, oN, oI)
  obtain ⟨f0, F0⟩ : ∃ x, opB a0 = x := ⟨_, rfl⟩
  obtain ⟨f1, F1⟩ : ∃ x, opA a0 = x := ⟨_, rfl⟩
  obtain ⟨f2, F2⟩ : ∃ x, opM a0 = x := ⟨_, rfl⟩
  obtain ⟨f3, F3⟩ : ∃ x, opD a0 = x := ⟨_, rfl⟩
  obtain ⟨f4, F4⟩ : ∃ x, opN a0 = x := ⟨_, rfl⟩
  obtain ⟨f5, F5⟩ : ∃ x, opI a0 = x := ⟨_, rfl⟩
  obtain ⟨fe, FE⟩ : ∃ x : Int, (if isOp a0 = true then 0 else 900) = x := ⟨_, rfl⟩
  have HF : Hid (∀ z, Calls Try.prog 7 #[.int .i64 a0] z fun e w' => e = .returned (.tuple #[.agg #[.int .i64 f0, .int .i64 f1, .bool f2, .int .i64 f3, .int .i64 f4, .bool f5], .int .i64 fe]) ∧ Below z.heap.size z w') := fun z => by
    have := find_any a0 z
    unfold Finds at this
    rwa [F0, F1, F2, F3, F4, F5, FE] at this
  have HG : Hid (∀ z, Calls Try.prog 8 #[.int .i64 a0] z fun e w' => e = .returned (.tuple #[.agg #[.int .i64 f0, .int .i64 f1, .bool f2, .int .i64 f3, .int .i64 f4, .bool f5], .int .i64 fe]) ∧ Below z.heap.size z w') := fun z => by
    have := refFind_any a0 z
    unfold Finds at this
    rwa [F0, F1, F2, F3, F4, F5, FE] at this
  clear F0 F1 F2 F3 F4 F5 FE w4
  go_enter Try.func3, Try.ntmps3
  go_wp2_with fail
  refine (HF.out _).mono ?_
  rintro e w1 ⟨rfl, b1⟩
  have X1 : Hid (Box (w1.alloc (.cells #[.int .i64 f0, .int .i64 f1, .bool f2, .int .i64 f3, .int .i64 f4, .bool f5] 23)) w.heap.size (ob, oA, oM, oD, oN, oI)) := (HX0.out.below b1).below (below_new _ _)
  have P1 : Hid (Box (w1.alloc (.cells #[.int .i64 f0, .int .i64 f1, .bool f2, .int .i64 f3, .int .i64 f4, .bool f5] 23)) w1.heap.size (f0, f1, f2, f3, f4, f5)) := Box.new w1 (f0, f1, f2, f3, f4, f5)
  have B1 : Hid (Below w.heap.size w (w1.alloc (.cells #[.int .i64 f0, .int .i64 f1, .bool f2, .int .i64 f3, .int .i64 f4, .bool f5] 23))) := below_then (below_then (below_new _ _) b1) (below_new _ _)
  have n1 : w.heap.size < w1.heap.size := by have := b1.size; simp at this; omega
  clear b1 HX0 HF
  go_wp2_with fail
  refine (HG.out _).mono ?_
  rintro e w2 ⟨rfl, b2⟩
  go_upto_if 32 with fail
  have b2' : Below (w1.alloc (.cells #[.int .i64 f0, .int .i64 f1, .bool f2, .int .i64 f3, .int .i64 f4, .bool f5] 23)).heap.size (w1.alloc (.cells #[.int .i64 f0, .int .i64 f1, .bool f2, .int .i64 f3, .int .i64 f4, .bool f5] 23)) (w2.alloc (.cells #[.int .i64 f0, .int .i64 f1, .bool f2, .int .i64 f3, .int .i64 f4, .bool f5] 23)) := below_then b2 (below_new _ _)
  have X2 : Hid (Box (w2.alloc (.cells #[.int .i64 f0, .int .i64 f1, .bool f2, .int .i64 f3, .int .i64 f4, .bool f5] 23)) w.heap.size (ob, oA, oM, oD, oN, oI)) := X1.out.below b2'
  have P2 : Hid (Box (w2.alloc (.cells #[.int .i64 f0, .int .i64 f1, .bool f2, .int .i64 f3, .int .i64 f4, .bool f5] 23)) w1.heap.size (f0, f1, f2, f3, f4, f5)) := P1.out.below b2'
  have Q2 : Hid (Box (w2.alloc (.cells #[.int .i64 f0, .int .i64 f1, .bool f2, .int .i64 f3, .int .i64 f4, .bool f5] 23)) w2.heap.size (f0, f1, f2, f3, f4, f5)) := Box.new w2 (f0, f1, f2, f3, f4, f5)
  have B2 : Hid (Below w.heap.size w (w2.alloc (.cells #[.int .i64 f0, .int .i64 f1, .bool f2, .int .i64 f3, .int .i64 f4, .bool f5] 23))) := below_then B1.out b2'
  have n2 : w1.heap.size < w2.heap.size := by have := b2.size; simp at this; omega
  have n3 : w.heap.size ≠ w1.heap.size := by omega
  have n4 : w.heap.size ≠ w2.heap.size := by omega
  generalize hW : w2.alloc (.cells #[.int .i64 f0, .int .i64 f1, .bool f2, .int .i64 f3, .int .i64 f4, .bool f5] 23) = W at X2 P2 Q2 B2 ⊢
  generalize hg1 : w1.heap.size = g1 at P2 n3 ⊢
  generalize hg2 : w2.heap.size = g2 at Q2 n4 ⊢
  clear hW hg1 hg2 b2 b2' n1 n2 X1 P1 B1 HG
  go_cut [12] from 17 (fun v12 wc => v12 = .bool false ∧ ∃ o : Op6, Hid (Box wc w.heap.size o ∧ Box wc g1 (f0, f1, f2, f3, f4, f5) ∧ Box wc g2 (f0, f1, f2, f3, f4, f5) ∧ Below w.heap.size w wc))
  case first => as_aux_lemma =>
    cases a2
    · go_wp2_with fail
      go_meet
      case rel => exact ⟨rfl, _, X2.out, P2.out, Q2.out, B2.out⟩
    · obtain ⟨y0, y1, y2, y3, y4, y5⟩ := Q2.out.six
      obtain ⟨c0, c1, c2, c3, c4, c5⟩ := X2.out.six
      dsimp only at y0 y1 y2 y3 y4 y5 c0 c1 c2 c3 c4 c5
      have z0 := X2.out.frozen 0
      have z1 := X2.out.frozen 1
      have z2 := X2.out.frozen 2
      have z3 := X2.out.frozen 3
      have z4' := X2.out.frozen 4
      have z5 := X2.out.frozen 5
      go_wp2_with fail
      go_meet
      case rel => exact ⟨rfl, (f0, f1, f2, f3, f4, f5), X2.out.sets (f0, f1, f2, f3, f4, f5), P2.out.other (p := (f0, f1, f2, f3, f4, f5)) n3, Q2.out.other (p := (f0, f1, f2, f3, f4, f5)) n4, below_six B2.out (Nat.le_refl _) (f0, f1, f2, f3, f4, f5)⟩
  case rest => as_aux_lemma =>
    obtain ⟨rfl, ⟨pb, pA, pM, pD, pN, pI⟩, HR⟩ := hcut
    obtain ⟨W, ec⟩ : ∃ y, y = wc := ⟨_, rfl⟩
    subst ec
    have B3 : Hid (Below w.heap.size w W) := HR.out.2.2.2
    clear X2 P2 Q2 B2
    go_wp2_with fail
    refine (lend_any a4 len4 cap4 z4 _ (HC.out.below B3.out) s4).mono ?_
    rintro e w5 ⟨gl, cl, rfl, hg0, hg1, hL, b5⟩
    have B5 : Hid (Below w.heap.size w w5) := below_then B3.out b5
    have R5 : Hid (Box w5 w.heap.size (pb, pA, pM, pD, pN, pI) ∧ Box w5 g1 (f0, f1, f2, f3, f4, f5) ∧ Box w5 g2 (f0, f1, f2, f3, f4, f5)) := ⟨HR.out.1.below b5, HR.out.2.1.below b5, HR.out.2.2.1.below b5⟩
    have L5 : Hid (Lent w5 gl len4 cl z4) := hL
    have hgl : gl < w5.heap.size := hg1
    clear hg0 hL b5 HR B3
    obtain ⟨c0, c1, c2, c3, c4, c5⟩ := R5.out.1.six
    dsimp only at c0 c1 c2 c3 c4 c5
    go_wp2_with fail
    refine (command_any pb pA pM pD pN pI a3 (some ⟨gl, 0, none⟩) len4 cl z4 a5 _ L5.out.came s4).mono ?_
    intro e w6 hd
    obtain ⟨v, rfl, qs, hp, hX, b6⟩ := drives_both hd
    have B6 : Hid (Below w5.heap.size w5 w6) := b6
    have R6 : Hid (Box w6 w.heap.size (pb, pA, pM, pD, pN, pI) ∧ Box w6 g1 (f0, f1, f2, f3, f4, f5) ∧ Box w6 g2 (f0, f1, f2, f3, f4, f5)) := ⟨R5.out.1.below b6, R5.out.2.1.below b6, R5.out.2.2.below b6⟩
    have O6 : Hid (POwns w5.heap.size w6 v qs) := hp
    have E6 : Hid (qs.map Prod.snd = tellX (pb, pA, pM, pD, pN, pI) a3 z4 a5) := hX
    clear hd hp hX b6 c0 c1 c2 c3 c4 c5 R5
    obtain ⟨c0, c1, c2, c3, c4, c5⟩ := R6.out.1.six
    dsimp only at c0 c1 c2 c3 c4 c5
    go_wp2_with fail
    refine (refCommand_any pb pA pM pD pN pI a3 a4 len4 cap4 z4 a5 _ (HC.out.below (below_then B5.out B6.out)) s4).mono ?_
    intro e w7 hd
    obtain ⟨v', rfl, qs', hp, hX, b7⟩ := drives_both hd
    obtain ⟨te, hte⟩ : ∃ te, tellE (pb, pA, pM, pD, pN, pI) a3 z4 a5 = te := ⟨_, rfl⟩
    rw [hte]
    have B7 : Hid (Below w5.heap.size w5 w7) := below_then B6.out b7
    have O7 : Hid (POwns w5.heap.size w7 v qs) := O6.out.below b7 (Nat.le_refl _)
    have A7 : Hid (PReads w7 v (tellX (pb, pA, pM, pD, pN, pI) a3 z4 a5)) := by rw [Hid, ← E6.out]; exact O7.out.reads
    have A7' : Hid (PReads w7 v' (tellX (pb, pA, pM, pD, pN, pI) a3 z4 a5)) := by rw [Hid, ← hX]; exact hp.reads
    obtain ⟨y0, y1, y2, y3, y4, y5⟩ := (R6.out.2.1.below b7).six
    obtain ⟨x0, x1, x2, x3, x4, x5⟩ := (R6.out.2.2.below b7).six
    dsimp only at y0 y1 y2 y3 y4 y5 x0 x1 x2 x3 x4 x5
    clear hd hp hX b7 c0 c1 c2 c3 c4 c5 R6 B6 O6
    go_wp2_with (go_at_call 12; refine (num_any _ _).mono ?_; rintro e w' ⟨rfl, rfl⟩)
    refine (phases_same _ _ _ _ _ A7.out A7'.out (tell_short _ _ _ _ (by rw [HC.out.1]; exact s4)) (tell_short _ _ _ _ (by rw [HC.out.1]; exact s4))).mono ?_
    rintro e w8 ⟨rfl, b8⟩
    rw [decide_eq_true rfl]
    have B8 : Hid (Below w5.heap.size w5 w8) := below_then B7.out b8
    have O8 : Hid (POwns w5.heap.size w8 v qs) := O7.out.below b8 (Nat.le_refl _)
    clear b8 B7 O7 A7 A7' y0 y1 y2 y3 y4 y5 x0 x1 x2 x3 x4 x5
    go_wp2_with (go_at_call 12; refine (num_any _ _).mono ?_; rintro e w' ⟨rfl, rfl⟩)
    refine (spoil_phases w5.heap.size v qs _ O8.out (by rw [E6.out]; exact tell_short _ _ _ _ (by rw [HC.out.1]; exact s4))).mono ?_
    rintro e w9 ⟨rfl, b9⟩
    have B9 : Hid (Below w5.heap.size w5 w9) := B8.out.trans b9
    have L9 : Hid (Lent w9 gl len4 cl z4) := L5.out.below B9.out hgl
    have C9 : Hid (Came w9 a4 len4 cap4 z4) := HC.out.below (below_then B5.out B9.out)
    clear b9 B8 O8
    go_wp2_with fail
    refine (kept_any a4 gl len4 cl cap4 z4 _ L9.out C9.out.reads s4).mono ?_
    rintro e w10 ⟨rfl, b10⟩
    have B10 : Hid (Below w.heap.size w w10) := below_then (below_then B5.out B9.out) b10
    clear b10 B9 L9 C9
    go_wp2_with fail
    refine (awake_any _).mono ?_
    rintro e w11 ⟨rfl, b11⟩
    have B11 : Hid (Below w.heap.size w w11) := below_then B10.out b11
    clear b11 B10
    go_wp2
    go_ret
    exact ⟨rfl, B11.out⟩

set_option maxRecDepth 100000 in
theorem lifted (os : Os) (started : os.Started) (H : Type) (enc : TypeId × Value → H) :
    ReturnsInHanded {} Try.checked os 3 .any (Rows.tablesSpec.pre6 enc Try.prog Try.f3 Rows.tablesRow.domain false) (Rows.tablesSpec.post enc Try.prog Try.f3 false true false false) := by
  refine returnsInHanded_of_change_sized (C := Try.checked) own started (by kernel_rfl) Try.func3
    (ChangeSpec.witness6 (enc := enc) (C := Try.checked) false ⟨#[], #[.int .i64 0, .agg #[.int .i64 0, .int .i64 0, .bool false, .int .i64 0, .int .i64 0, .bool false], .bool false, .int .i64 0, .slice none 0 0, .int .i64 0], []⟩ 8 (by kernel_rfl) (by kernel_rfl) (by kernel_rfl) (by kernel_rfl)) ?_
  intro W base args ds gs before hval0 hW hcnd hsz0 _
  have hsz : (DataW.weightsEach Try.prog (Try.f3.params.toList ++ Rows.tablesSpec.plain.varTypes Try.prog) (ds ++ gs)).all (· ≤ reachBytes) = true := hsz0
  clear hsz0
  have hval : ∀ (j : Nat) t v, Try.f3.params[j]? = some t → args[j]? = some v → Value.okWide Try.prog W .any base t v := hval0
  have hW' := hW
  obtain ⟨p, q, hA0, hV, rfl, hfz, hnd⟩ := hW
  have hA : DataW.TrodAll enc Try.prog W 0 (fun _ => true) true Try.f3.params.toList args.toList ds p := hA0
  rw [Try.params3] at hA hval hsz
  obtain ⟨v0, vs0, d0, ds0, p0, q0, hargs, rfl, rfl, h0, r0⟩ := trodAll_cons hA
  obtain ⟨v1, vs1, d1, ds1, p1, q1, rfl, rfl, rfl, h1, r1⟩ := trodAll_cons r0
  obtain ⟨v2, vs2, d2, ds2, p2, q2, rfl, rfl, rfl, h2, r2⟩ := trodAll_cons r1
  obtain ⟨v3, vs3, d3, ds3, p3, q3, rfl, rfl, rfl, h3, r3⟩ := trodAll_cons r2
  obtain ⟨v4, vs4, d4, ds4, p4, q4, rfl, rfl, rfl, h4, r4⟩ := trodAll_cons r3
  obtain ⟨v5, vs5, d5, ds5, p5, q5, rfl, rfl, rfl, h5, r5⟩ := trodAll_cons r4
  obtain ⟨rfl, rfl, rfl⟩ := trodAll_nil r5
  obtain rfl : args = #[v0, v1, v2, v3, v4, v5] := by cases args; simp_all
  obtain ⟨rfl, rfl⟩ := trodVars_none hV
  obtain ⟨a0, rfl, rfl, rfl, w0⟩ := open_int Try.underlying3 (hval 0 3 v0 rfl rfl) h0
  have k1 := h1
  have lt1 : ∀ x ∈ p1, x.block < W.heap.size := by obtain ⟨m, hm⟩ := k1; exact DataW.trod_lt m _ _ _ hm
  obtain ⟨ob, oA, oM, oD, oN, oI, rfl⟩ : ∃ (b A : Int) (M : Bool) (D N : Int) (I : Bool), v1 = .agg #[.int .i64 b, .int .i64 A, .bool M, .int .i64 D, .int .i64 N, .bool I] := by
    obtain ⟨fuel, hf⟩ := h1
    exact op_open (hval 1 23 v1 rfl rfl) hf
  obtain ⟨a2, rfl, rfl, rfl⟩ := open_bool Try.underlying4 (hval 2 4 v2 rfl rfl) h2
  obtain ⟨a3, rfl, rfl, rfl, w3⟩ := open_int Try.underlying3 (hval 3 3 v3 rfl rfl) h3
  obtain ⟨a4, len4, cap4, rfl⟩ := okWide_slice Try.underlying24 (hval 4 24 v4 rfl rfl)
  have k4 := h4
  have lt4 : ∀ x ∈ p4, x.block < W.heap.size := by obtain ⟨m, hm⟩ := k4; exact DataW.trod_lt m _ _ _ hm
  obtain ⟨z4, w4, s4⟩ : ∃ zs, Came W a4 len4 cap4 zs ∧ len4 * 8 ≤ 140737488351232 := by
    obtain ⟨fuel, hf⟩ := h4
    rcases open_ints Try.underlying24 Try.underlying3 (by kernel_rfl) hf with ⟨hcs, _⟩ | ⟨x, l, c, zs, hcs, _, hl, hm, hz, hx, hcell, hwz⟩
    · simp [Value.cells] at hcs
      obtain ⟨rfl, rfl, rfl⟩ := hcs
      exact ⟨[], ⟨rfl, .inl ⟨rfl, rfl, rfl⟩⟩, by omega⟩
    · simp [Value.cells] at hcs
      obtain ⟨rfl, rfl, rfl⟩ := hcs
      simp only [Prod.mk.injEq] at hx
      obtain ⟨rfl, -⟩ := hx
      have hzl : zs.length = cap4 := by simpa using hz
      have hreach := sized_slice hsz (j := 4) (t := 24) (e := 3) rfl rfl Try.underlying24
      rw [show Try.prog.bytesOf 3 = 8 from by kernel_rfl] at hreach
      simp only [lits, List.length_map, List.length_take, List.length_drop, reachBytes] at hreach
      exact ⟨zs.take len4, came_of hl hzl hcell, by omega⟩
  obtain ⟨a5, rfl, rfl, rfl, w5⟩ := open_int Try.underlying3 (hval 5 3 v5 rfl rfl) h5
  clear hA0 hval0
  refine (walk a0 ob oA oM oD oN oI a2 a3 a4 len4 cap4 z4 a5 W w4 s4).mono fun e W' ⟨he, bel⟩ => ?_
  subst he
  exact ⟨_, rfl, _, _, _, [], _, [], hW', trodAll_mk1 (shut_bool Try.underlying4 _), (trodAll_cons_mk (shut_int Try.underlying3 w0) (trodAll_cons_mk (Below.trod laidOut (by kernel_rfl) (of_decide_eq_true (by kernel_rfl)) k1 bel lt1) (trodAll_cons_mk (shut_bool Try.underlying4 _) (trodAll_cons_mk (shut_int Try.underlying3 w3) (trodAll_cons_mk (Below.trod laidOut (by kernel_rfl) (of_decide_eq_true (by kernel_rfl)) k4 bel lt4) (trodAll_cons_mk (shut_int Try.underlying3 w5) trodAll_mk0)))))), rfl, bel.frame _, fun h => by cases h⟩

theorem over : Rows.tablesRow.holds Try.pinned (OpenSpec.ofChange Rows.tablesSpec) :=
  OpenClaim.holds_of_wide 3 Try.f3 rfl rfl rfl rfl rfl rfl rfl ⟨rfl, rfl, rfl, rfl, rfl⟩ rfl rfl rfl rfl rfl (by kernel_rfl) Try.func3 (by kernel_rfl)
    (of_decide_eq_true (by kernel_rfl)) (by unfold Func.isWrapper; first | (rw [if_pos (by decide +kernel)]; kernel_rfl) | (rw [if_neg (by decide +kernel)]; exact ⟨rfl, rfl⟩))
    (fun os started H enc _ => lifted os started H enc)

theorem proved : Rows.TablesSaid := over
#print axioms proved
end Go.Proofs.Ytbjaogcejcfpbaa.tables
