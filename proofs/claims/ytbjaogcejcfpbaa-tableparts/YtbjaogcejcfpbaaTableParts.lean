/-
  TableParts: a command's phases have its byte first, its address in three bytes, its data last: as many as it has parts. No conditions.
-/
import Derived.Test.YtbjaogcejcfpbaaRows
import Derived.Test.YtbjaogcejcfpbaaPart
import Derived.Deep.RegionHeld3
import Derived.Deep.CutBlock
import Derived.Deep.CutRange
import Derived.SizedLaws
import Derived.WalkKit
import Derived.ProofKit
import Derived.OpenShut
import Derived.ShutString
import Derived.ChangeOld
import Derived.Below
namespace Go.Proofs.Ytbjaogcejcfpbaa.tableParts
open Go.ChangeShapes Go.WideShapes Go.ChangeAt Go.RowKit
open Go.ChangeMaps (open_string shut_string)
set_option linter.unusedVariables false

theorem own : ownKnob Try.prog.godebug = none := by kernel_rfl
theorem laidOut : laidOutB Try.prog = true := by kernel_rfl

set_option maxRecDepth 100000 in
set_option maxHeartbeats 8000000 in
theorem walk (a0 : Int) (a1 : Int) (a2 : Option Addr) (len2 cap2 : Nat) (z2 : List Int) (a3 : Int) (w : World) (w0 : (Lit.int .i64 a0).wf = true) (w1 : (Lit.int .i64 a1).wf = true) (w2 : Came w a2 len2 cap2 z2) (s2 : len2 * 8 ≤ 140737488351232) (w3 : (Lit.int .i64 a3).wf = true) :
    Calls Try.prog 4 #[.int .i64 a0, .int .i64 a1, .slice a2 len2 cap2, .int .i64 a3] w fun e w' => e = .returned (.bool true) ∧ Below w.heap.size w w' := by
  obtain ⟨i0, hi, hz0, hz1, hz2⟩ := info_parts info3
  have HC : Hid (Came w a2 len2 cap2 z2) := w2
  obtain ⟨K, hK, hmod'⟩ := umod a0 14 (by omega) (by omega)
  have hmod : wrap64 ((IntKind.u64.wrap a0).tmod 14) = (K : Int) := hmod'
  clear hmod'
  obtain ⟨b, hb⟩ : ∃ b, b = opL.getD K 0 := ⟨_, rfl⟩
  have hop : isOp b = true := by rw [hb]; exact is_at K hK
  obtain ⟨A, hA⟩ : ∃ x, opA b = x := ⟨_, rfl⟩
  obtain ⟨M, hM⟩ : ∃ x, opM b = x := ⟨_, rfl⟩
  obtain ⟨D, hD⟩ : ∃ x, opD b = x := ⟨_, rfl⟩
  obtain ⟨N, hN⟩ : ∃ x, opN b = x := ⟨_, rfl⟩
  obtain ⟨I, hI⟩ : ∃ x, opI b = x := ⟨_, rfl⟩
  have HOf : Hid (∀ z, Calls Try.prog 18 #[.int .i64 b] z fun e w' => e = .returned (.tuple #[.agg #[.int .i64 b, .int .i64 A, .bool M, .int .i64 D, .int .i64 N, .bool I], .int .i64 0]) ∧ Below z.heap.size z w') := fun z => by
    have := of_yes b z hop
    rwa [hA, hM, hD, hN, hI] at this
  have hfit : ∀ (k : Nat) (L : List Int) (r : Int), k < 4096 ∧ (A = 0 → k = 0) ∧ fewB L = true ∧ 0 ≤ r ∧ r ≤ 63 ∧ (M = true → L.length = 1) ∧ (I = false → M = false → L = []) ∧ (¬ (0 < N ∧ I = false) → r = 0) → fitB b A M D N I k L r = true := fun k L r h => by
    have := asks_fit (b := b) (k := k) (L := L) (r := r) hop (by unfold Asks; rw [hA, hM, hN, hI]; exact h)
    rwa [hA, hM, hD, hN, hI] at this
  have HFit : Hid (∀ (k : Nat) (L : List Int) (r : Int), k < 4096 ∧ (A = 0 → k = 0) ∧ fewB L = true ∧ 0 ≤ r ∧ r ≤ 63 ∧ (M = true → L.length = 1) ∧ (I = false → M = false → L = []) ∧ (¬ (0 < N ∧ I = false) → r = 0) → fitB b A M D N I k L r = true) := hfit
  have hA0 : 0 ≤ A := by
    rcases parts b hop with ⟨e, -⟩ | ⟨e, -⟩ | ⟨e, -⟩ | ⟨e, -⟩ | ⟨e, -⟩ | ⟨e, -⟩ | ⟨e, -⟩ | ⟨e, -⟩ <;> omega
  have HBs : Hid (b = opL.getD K 0) := hb
  obtain ⟨kx, hkx⟩ : ∃ x : Nat, (x : Int) = a1 % 4096 := ⟨(a1 % 4096).toNat, by omega⟩
  obtain ⟨mx, hmx⟩ : ∃ x : Nat, (x : Int) = a1 % 256 := ⟨(a1 % 256).toNat, by omega⟩
  obtain ⟨rx, hrx⟩ : ∃ x : Nat, (x : Int) = a3 % 64 := ⟨(a3 % 64).toNat, by omega⟩
  have hkx2 : kx < 4096 := by omega
  have hmx2 : mx < 256 := by omega
  have hrx2 : rx < 64 := by omega
  have hbk : bits .and .i64 a1 4095 = (kx : Int) := by rw [and_4095, hkx]
  have hbm : bits .and .i64 a1 255 = (mx : Int) := by rw [and_255, hmx]
  have hbr : bits .and .i64 a3 63 = (rx : Int) := by rw [and_63, hrx]
  clear w0 w1 w2 w3 hb hop hA hM hD hN hI hfit hkx hmx hrx
  go_enter Try.func4, Try.ntmps4
  go_wp2_with fail
  refine (awake_any _).mono ?_
  rintro e w1 ⟨rfl, b1⟩
  have B1 : Hid (Below w.heap.size w w1) := b1
  clear b1
  go_wp2_with fail
  refine (all_any _).mono ?_
  rintro e w2 ⟨gl, cl, rfl, ho, b2⟩
  have cK := reads_cell ho.reads K hK
  rw [← HBs.out] at cK
  have B2 : Hid (Below w.heap.size w w2) := below_then B1.out b2
  have i1 : (0 : Int) ≤ (K : Int) := by omega
  have i2 : (K : Int) < 14 := by omega
  clear ho b2 B1
  go_wp2_with fail
  refine (HOf.out _).mono ?_
  rintro e w3 ⟨rfl, b3⟩
  go_upto_if 42 with fail
  have X3 : Hid (Box (w3.alloc (.cells #[.int .i64 b, .int .i64 A, .bool M, .int .i64 D, .int .i64 N, .bool I] 23)) w3.heap.size (b, A, M, D, N, I)) := Box.new w3 (b, A, M, D, N, I)
  have B3 : Hid (Below w.heap.size w (w3.alloc (.cells #[.int .i64 b, .int .i64 A, .bool M, .int .i64 D, .int .i64 N, .bool I] 23))) := below_then (below_then B2.out b3) (below_new _ _)
  generalize hW : w3.alloc (.cells #[.int .i64 b, .int .i64 A, .bool M, .int .i64 D, .int .i64 N, .bool I] 23) = W at X3 B3 ⊢
  generalize hgo : w3.heap.size = go at X3 ⊢
  clear hW hgo b3 B2 cK HOf HBs hmod i1 i2 hK
  go_cut [12] from 20 (fun v wc => (∃ kn : Nat, v = .int .i64 kn ∧ kn < 4096 ∧ Hid ((0 < A → kn = kx) ∧ (A = 0 → kn = 0))) ∧ wc = W)
  case first => as_aux_lemma =>
    by_cases h : 0 < A
    · go_wp2_with fail
      go_meet
      case rel => exact ⟨⟨kx, rfl, hkx2, fun _ => rfl, fun h0 => by omega⟩, rfl⟩
    · go_wp2_with fail
      go_meet
      case rel => exact ⟨⟨0, rfl, by omega, fun h0 => by omega, fun _ => rfl⟩, rfl⟩
  obtain ⟨⟨kn, rfl, hkn, HK⟩, rfl⟩ := hcut
  obtain ⟨W, ec⟩ : ∃ y, y = wc := ⟨_, rfl⟩
  subst ec
  obtain ⟨c0, c1, c2, c3, c4, c5⟩ := X3.out.six
  dsimp only at c0 c1 c2 c3 c4 c5
  go_upto_region 11 with fail
  obtain ⟨y, hy⟩ : ∃ y : Bool, (I || M) = y := ⟨_, rfl⟩
  have HY : Hid ((I || M) = y) := hy
  clear hy
  go_cut [50] from 20 (fun v wc => v = .bool y ∧ wc = W)
  case first => as_aux_lemma =>
    cases I
    · go_wp2
      go_meet
      case rel => exact ⟨congrArg Value.bool (by rw [← HY.out]; simp), rfl⟩
    · go_wp2
      go_meet
      case rel => exact ⟨congrArg Value.bool (by rw [← HY.out]; simp), rfl⟩
  obtain ⟨rfl, rfl⟩ := hcut
  obtain ⟨W, ec⟩ : ∃ y, y = wc := ⟨_, rfl⟩
  subst ec
  go_upto_if 50 with fail
  clear c0 c1 c2 c3 c4 c5
  go_cut [14, 15] from 20 (fun v14 v15 wc => ∃ L : List Int, Hid (Owns W.heap.size wc v14 L ∧ L.length ≤ 20 ∧ byB L = true ∧ (y = false → L = [])) ∧ Hid (Below W.heap.size W wc))
  case first => as_aux_lemma =>
    cases y
    · go_wp2_with fail
      go_meet
      case rel => exact ⟨[], ⟨World.ownsRow_nil _ _ _ _, by simp, rfl, fun _ => rfl⟩, Below.refl _ _⟩
    · go_wp2_with fail
      go_loopw [14, 15] (fun v i wr => ∃ (k : Nat) (L : List Int), k ≤ len2 ∧ k ≤ 20 ∧ i = .int .i64 k ∧ Hid (wr.ownsRow W.heap.size 3 1 v L.length (L.map (Value.int .i64)) ∧ byB L = true) ∧ L.length = k ∧ Hid (Below W.heap.size W wr)) (fun _ i _ => (20 - intOf i).toNat)
      case atStart => exact ⟨0, [], by omega, by omega, rfl, ⟨World.ownsRow_nil _ _ _ _, rfl⟩, rfl, Below.refl _ _⟩
      case round =>
        obtain ⟨k, L, hk, hk2, rfl, HO, hlen, HB⟩ := hrel
        by_cases hlt : k < len2 ∧ k < 20
        · obtain ⟨hlt, hl20⟩ := hlt
          obtain ⟨g, o, rfl, hc⟩ := came_at (HC.out.below (below_then B3.out HB.out)) k hlt
          obtain ⟨x, hx⟩ : ∃ x, z2.getD k 0 = x := ⟨_, rfl⟩
          rw [hx] at hc
          have hbx := and_255 x
          have j1 : (k : Int) < len2 := by omega
          have hsz : W.heap.size ≤ wr.heap.size := HB.out.size
          have hM := HO.out.1
          clear hx
          go_wp2_with (at_builtin; refine wpList_append_lies _ rfl _ _ 24 rfl W.heap.size 3 i0 (.int .i64 0) 1 8 Try.underlying24 hi hz0 hz1 hz2 rfl (by decide) _ _ _ rfl (hM.alloc _) ⟨wr.heap.size, 0, none⟩ 1 1 [.int .i64 (x % 256)] rfl rfl ?c1 ?c2 (by decide) ?c3 ?c4 ?c5 (wr.heap.size + 1) (by simp) ?_)
          case c1 =>
            intro j u hj
            match j, hj with
            | 0, hj => simp at hj; subst hj; simp [Addr.add]
          case c2 => intro u hu; simp at hu; subst hu; rfl
          case c3 => unfold maxLen; omega
          case c4 => omega
          case c5 => simp; omega
          intro g1 cap1 w2 hown hgrow hat hlt2
          have HO2 : Hid (w2.ownsRow W.heap.size 3 1 (.slice (some ⟨g1, 0, none⟩) (k + 1) cap1) (L ++ [x % 256]).length ((L ++ [x % 256]).map (Value.int .i64)) ∧ byB (L ++ [x % 256]) = true) := by
            refine ⟨?_, byB_more HO.out.2 x⟩
            rw [List.map_append, List.length_append, hlen]; exact hown
          have HB2 : Hid (Below W.heap.size W w2) := (HB.out.alloc hsz _).grown hgrow (by simp; omega) fun k hk => (hM.lt k hk).1
          have hl2 : (L ++ [x % 256]).length = k + 1 := by simp [hlen]
          clear hown hgrow hat hlt2 hM hc hbx
          go_wp2
          go_roundw
          case rel => exact ⟨k + 1, L ++ [x % 256], by omega, by omega, by go_num, HO2, hl2, HB2⟩
          case measure => simp [intOf]; omega
        · have HLe : Hid (L.length ≤ 20) := by rw [Hid]; omega
          by_cases hlt2 : k < len2
          · have hk20 : k = 20 := by omega
            subst hk20
            go_wp2_with fail
            go_meet
            case rel => exact ⟨L, ⟨HO.out.1, HLe.out, HO.out.2, fun h => by cases h⟩, HB⟩
          · go_wp2_with fail
            go_meet
            case rel => exact ⟨L, ⟨HO.out.1, HLe.out, HO.out.2, fun h => by cases h⟩, HB⟩
  obtain ⟨L, HL, HBL⟩ := hcut
  obtain ⟨dv, e14⟩ : ∃ y, y = u14 := ⟨_, rfl⟩
  obtain ⟨V, ec⟩ : ∃ y, y = wc := ⟨_, rfl⟩
  subst e14 ec
  have X4 : Hid (Box V go (b, A, M, D, N, I)) := X3.out.below HBL.out
  have B4 : Hid (Below w.heap.size w V) := below_then B3.out HBL.out
  obtain ⟨c0, c1, c2, c3, c4, c5⟩ := X4.out.six
  dsimp only at c0 c1 c2 c3 c4 c5
  go_upto_if 70 with fail
  clear c0 c1 c2 c3 c4 c5
  go_cut [14] from 20 (fun v14 wc => ∃ L : List Int, Hid (Owns W.heap.size wc v14 L ∧ fewB L = true ∧ (M = true → L.length = 1) ∧ (I = false → M = false → L = [])) ∧ Hid (Below V.heap.size V wc))
  case first => as_aux_lemma =>
    cases M
    · go_wp2_with fail
      go_meet
      case rel => exact ⟨L, ⟨HL.out.1, by rw [fewB, HL.out.2.2.1, decide_eq_true (by have := HL.out.2.1; omega)]; rfl, fun h => (by cases h), fun h _ => HL.out.2.2.2 (by rw [← HY.out, h]; rfl)⟩, Below.refl _ _⟩
    · have hWV : W.heap.size ≤ V.heap.size := HBL.out.size
      go_wp2_with fail
      go_meet
      case rel => exact ⟨[(mx : Int)], ⟨(Owns.lit (w := V) [(mx : Int)] 1 #[.int .i64 (mx : Int)] rfl rfl (by unfold maxLen; omega)).below (Below.refl _ _) hWV, by simp [fewB, byB]; omega, fun _ => rfl, fun _ h => (by cases h)⟩, below_new _ _⟩
  obtain ⟨L', HL', HBL'⟩ := hcut
  obtain ⟨dv', e14⟩ : ∃ y, y = u14 := ⟨_, rfl⟩
  obtain ⟨U, ec⟩ : ∃ y, y = wc := ⟨_, rfl⟩
  subst e14 ec
  have X5 : Hid (Box U go (b, A, M, D, N, I)) := X4.out.below HBL'.out
  have B5 : Hid (Below w.heap.size w U) := below_then B4.out HBL'.out
  clear HL HBL X4 B4 X3 B3
  obtain ⟨c0, c1, c2, c3, c4, c5⟩ := X5.out.six
  dsimp only at c0 c1 c2 c3 c4 c5
  go_upto_region 18 with fail
  obtain ⟨q, hq⟩ : ∃ q : Bool, (decide (0 < N) && !I) = q := ⟨_, rfl⟩
  have HQ : Hid ((decide (0 < N) && !I) = q) := hq
  clear hq
  go_cut [81] from 20 (fun v wc => v = .bool q ∧ wc = U)
  case first => as_aux_lemma =>
    by_cases hN0 : 0 < N
    · go_wp2
      go_meet
      case rel => exact ⟨congrArg Value.bool (by rw [← HQ.out]; simp [hN0]), rfl⟩
    · go_wp2
      go_meet
      case rel => exact ⟨congrArg Value.bool (by rw [← HQ.out, decide_eq_false (by omega)]; rfl), rfl⟩
  obtain ⟨rfl, rfl⟩ := hcut
  obtain ⟨U, ec⟩ : ∃ y, y = wc := ⟨_, rfl⟩
  subst ec
  go_upto_if 81 with fail
  go_cut [13] from 20 (fun v wc => (∃ r : Nat, v = .int .i64 r ∧ r < 64 ∧ Hid (¬ (0 < N ∧ I = false) → r = 0)) ∧ wc = U)
  case first => as_aux_lemma =>
    cases q
    · go_wp2_with fail
      go_meet
      case rel => exact ⟨⟨0, rfl, by omega, fun _ => rfl⟩, rfl⟩
    · go_wp2_with fail
      go_meet
      case rel => exact ⟨⟨rx, rfl, hrx2, fun h => absurd (by have := HQ.out; simpa using this) h⟩, rfl⟩
  obtain ⟨⟨r, rfl, hr, HR⟩, rfl⟩ := hcut
  obtain ⟨U, ec⟩ : ∃ y, y = wc := ⟨_, rfl⟩
  subst ec
  obtain ⟨da, dc, rfl⟩ := own_slice HL'.out.1
  have HF : Hid (fitB b A M D N I kn L' r = true) := HFit.out kn L' r ⟨hkn, HK.out.2, HL'.out.2.1, by omega, by omega, HL'.out.2.2.1, HL'.out.2.2.2, fun h => by have := HR.out h; omega⟩
  have HCm : Hid (Came U da L'.length dc L') := own_came HL'.out.1
  have hl8 : L'.length * 8 ≤ 140737488351232 := by
    have := HL'.out.2.1
    unfold fewB at this
    have := (Bool.and_eq_true _ _ ▸ this).1
    have := of_decide_eq_true this
    omega
  clear HFit HQ HY hbk hbm hbr HC
  go_wp2_with fail
  refine (command_yes b A M D N I kn da L'.length dc L' r _ (phL (b, A, M, D, N, I) kn L' r) HCm.out hl8 HF.out (by rw [Int.toNat_natCast])).mono ?_
  rintro e w4 ⟨v, rfl, qs, hp, hX, b4⟩
  obtain ⟨n, hnum⟩ : ∃ n, numP (b, A, M, D, N, I) L' (r : Int) = n := ⟨_, rfl⟩
  have hn6 := numP_le (b, A, M, D, N, I) L' (r : Int)
  rw [hnum] at hn6
  obtain ⟨m, hmn⟩ : ∃ m, n = m + 1 := ⟨n - 1, by omega⟩
  have hPl : (phL (b, A, M, D, N, I) kn L' r).length = n := by rw [phL_length, hnum]
  obtain ⟨g, cv, rfl⟩ := powns_form hp hX n hPl hn6.1
  obtain ⟨a0', c0', y0, y1, -, -, yr⟩ := ph_at hp hX 0 _ (phL_first _ _ _ _)
  have HS2 : Hid (0 < A → ∃ a c', w4.cell? ⟨g, 4, none⟩ = some (.int .i64 A) ∧ w4.cell? ⟨g, 5, none⟩ = some (.slice a 3 c') ∧ Reads w4 (.slice a 3 c') (addrL kn)) := fun h => by
    obtain ⟨a, c', e0, e1, -, -, er⟩ := ph_at hp hX 1 _ (phL_second (b, A, M, D, N, I) kn L' r h)
    exact ⟨a, c', e0, e1, er⟩
  obtain ⟨lp, hlp⟩ : ∃ p, (phL (b, A, M, D, N, I) kn L' r)[m]? = some p := ⟨_, List.getElem?_eq_getElem (by omega)⟩
  obtain ⟨la, lc, l0, l1, l2, l3, lr⟩ := ph_at hp hX m lp hlp
  have HDt : Hid (I = true ∧ 0 < L'.length → lp = (N, L', 0, 0)) := fun h => by
    have hr0 : ¬ (0 : Int) < r := by
      have := HR.out (fun h' => by rw [h.1] at h'; simp at h')
      omega
    have := phL_data (b, A, M, D, N, I) kn L' r n hnum h hr0
    rw [show n - 1 = m by omega, hlp] at this
    injection this
  have HRd : Hid (0 < (r : Int) → lp = (N, [], 0, (r : Int))) := fun h => by
    have := phL_read (b, A, M, D, N, I) kn L' r n hnum h
    rw [show n - 1 = m by omega, hlp] at this
    injection this
  have HNum : Hid (numP (b, A, M, D, N, I) L' (r : Int) = n) := hnum
  have HMn : Hid (n = m + 1) := hmn
  have X6 : Hid (Box w4 go (b, A, M, D, N, I)) := X5.out.below b4
  have B6 : Hid (Below w.heap.size w w4) := below_then B5.out b4
  have RD : Hid (Reads w4 (.slice da L'.length dc) L') := HCm.out.reads.below b4
  have hl20 : L'.length * 8 ≤ 140737488351232 := hl8
  have hkn2 : kn < 4096 := hkn
  have hn1 : 1 ≤ n := hn6.1
  have hm5 : m ≤ 5 := by omega
  clear hp hX b4 X5 B5 HCm HF HL' HBL' hnum hPl hlp hmn hn6 HR HK hkn c0 c1 c2 c3 c4 c5
  have y0' : w4.cell? ⟨g, 0, none⟩ = some (.int .i64 1) := y0
  have y1' : w4.cell? ⟨g, 1, none⟩ = some (.slice a0' 1 c0') := y1
  have HF0 : Hid (w4.cell? ⟨g, 0, none⟩ = some (.int .i64 1) ∧ w4.cell? ⟨g, 1, none⟩ = some (.slice a0' 1 c0') ∧ Reads w4 (.slice a0' 1 c0') [b]) := ⟨y0, y1, yr⟩
  have HLa : Hid (w4.cell? ⟨g, m * 4, none⟩ = some (.int .i64 lp.1) ∧ w4.cell? ⟨g, m * 4 + 1, none⟩ = some (.slice la lp.2.1.length lc) ∧ w4.cell? ⟨g, m * 4 + 2, none⟩ = some (.int .i64 lp.2.2.1) ∧ w4.cell? ⟨g, m * 4 + 3, none⟩ = some (.int .i64 lp.2.2.2) ∧ Reads w4 (.slice la lp.2.1.length lc) lp.2.1) := ⟨l0, l1, l2, l3, lr⟩
  clear y0 y1 y0' y1' yr l0 l1 l2 l3 lr
  have hm1 : ¬ ((n : Int) < 1) := by omega
  have hmb : decide ((n : Int) < 1) = false := decide_eq_false hm1
  have im : (0 : Int) < (n : Int) := by omega
  have im' : 0 < n := by omega
  have HS : Hid (∀ z, Below w4.heap.size w4 z → z.cell? ⟨g, 0, none⟩ = some (.int .i64 1) ∧ z.cell? ⟨g, 1, none⟩ = some (.slice a0' 1 c0') ∧ z.cell? ⟨go, 0, none⟩ = some (.int .i64 b)) := fun z hz => ⟨(hz.cell (cell_lt HF0.out.1)).trans HF0.out.1, (hz.cell (cell_lt HF0.out.2.1)).trans HF0.out.2.1, (X6.out.below hz).six.1⟩
  have bz0 : Below w4.heap.size w4 w4.drew := (Below.refl _ _).drew
  have bz1 : Below w4.heap.size w4 (w4.alloc (.cells #[.int .i64 b] 3)).drew := (below_new _ _).drew
  have HC1 : Hid (Calls Try.prog 19 #[.slice a0' 1 c0', .slice (some ⟨w4.heap.size, 0, none⟩) 1 1] (w4.alloc (.cells #[.int .i64 b] 3)).drew fun e w' => e = .returned (.bool true) ∧ Below w4.heap.size w4 w') := (same_any _ _ [b] [b] _ (HF0.out.2.2.below bz1) ((reads_lit (w := (w4.alloc (.cells #[.int .i64 b] 3))) [b] (heap_alloc_new _ _) rfl rfl 1).below (Below.refl _ _).drew) (by simp) (by simp)).mono fun e w' ⟨he, hb⟩ => ⟨by rw [he]; simp, below_then bz1 hb⟩
  go_upto_region 21 with fail
  go_cut [122] from 20 (fun v wc => v = .bool false ∧ Hid (Below w4.heap.size w4 wc))
  case first => as_aux_lemma =>
    go_region_held3 (fun z => z.cell? ⟨g, 0, none⟩ = some (.int .i64 1) ∧ z.cell? ⟨g, 1, none⟩ = some (.slice a0' 1 c0') ∧ z.cell? ⟨go, 0, none⟩ = some (.int .i64 b)) (exact HS.out _ (by assumption)) (first | (go_at_call 12; refine (num_any _ _).mono ?_; rintro e w' ⟨rfl, rfl⟩) | (go_at_call 19; refine (HC1.out).mono ?_; rintro e s1 ⟨rfl, bz2⟩))
    all_goals go_wp2_with fail
    all_goals go_meet
    all_goals case rel => exact ⟨rfl, by assumption⟩
  obtain ⟨rfl, HB7⟩ := hcut
  obtain ⟨W7, ec⟩ : ∃ y, y = wc := ⟨_, rfl⟩
  subst ec
  clear bz0 bz1 HC1 HS hm1 hmb
  have X7 : Hid (Box W7 go (b, A, M, D, N, I)) := X6.out.below HB7.out
  obtain ⟨c0, c1, c2, c3, c4, c5⟩ := X7.out.six
  dsimp only at c0 c1 c2 c3 c4 c5
  go_upto_if 125 with fail
  clear c0 c1 c2 c3 c4 c5
  go_cut [18] from 20 (fun v wc => (∃ p : Nat, v = .int .i64 p ∧ Hid (p = 1 + if 0 < A then 1 else 0)) ∧ Hid (Below W7.heap.size W7 wc))
  case first => as_aux_lemma =>
    by_cases h : 0 < A
    · have hm2 : 2 ≤ n := by
        have := HNum.out
        unfold numP at this
        rw [if_pos h] at this
        omega
      obtain ⟨a2', c2', d0, d1, dr⟩ := HS2.out h
      have HC2 : Hid (∀ v1 v2 : Int, v1 = ((kn / 256 : Nat) : Int) → v2 = ((kn % 256 : Nat) : Int) → Calls Try.prog 19 #[.slice a2' 3 c2', .slice (some ⟨W7.heap.size, 0, none⟩) 3 3] (W7.alloc (.cells #[.int .i64 0, .int .i64 v1, .int .i64 v2] 3)).drew fun e w' => e = .returned (.bool true) ∧ Below W7.heap.size W7 w') := fun v1 v2 h1 h2 => by
        have bz : Below W7.heap.size W7 (W7.alloc (.cells #[.int .i64 0, .int .i64 v1, .int .i64 v2] 3)).drew := (below_new _ _).drew
        refine (same_any _ _ (addrL kn) [0, v1, v2] _ ((dr.below HB7.out).below bz) ((reads_lit (w := (W7.alloc (.cells #[.int .i64 0, .int .i64 v1, .int .i64 v2] 3))) [0, v1, v2] (heap_alloc_new _ _) rfl rfl 3).below (Below.refl _ _).drew) (by simp [addrL]) (by simp)).mono fun e w' ⟨he, hb⟩ => ⟨by rw [he, addr_three hkn2, h1, h2]; simp, below_then bz hb⟩
      have HSa : Hid (∀ z, Below W7.heap.size W7 z → z.cell? ⟨g, 4, none⟩ = some (.int .i64 A) ∧ z.cell? ⟨g, 5, none⟩ = some (.slice a2' 3 c2') ∧ z.cell? ⟨go, 1, none⟩ = some (.int .i64 A)) := fun z hz => by
        have hz' := below_then HB7.out hz
        exact ⟨(hz'.cell (cell_lt d0)).trans d0, (hz'.cell (cell_lt d1)).trans d1, (X7.out.below hz).six.2.1⟩
      have hm3 : ¬ ((n : Int) < 2) := by omega
      have im1 : (1 : Int) < (n : Int) := by omega
      have im2 : 1 < n := by omega
      have hb255 : bits .and .i64 (kn : Int) 255 = ((kn % 256 : Nat) : Int) := by rw [and_255]; norm_cast
      have bz0 : Below W7.heap.size W7 W7.drew := (Below.refl _ _).drew
      have bz1 : ∀ v1 v2 : Int, Below W7.heap.size W7 (W7.alloc (.cells #[.int .i64 0, .int .i64 v1, .int .i64 v2] 3)).drew := fun v1 v2 => (below_new _ _).drew
      clear d0 d1 dr
      go_upto_region 25 with fail
      go_region_held3 (fun z => z.cell? ⟨g, 4, none⟩ = some (.int .i64 A) ∧ z.cell? ⟨g, 5, none⟩ = some (.slice a2' 3 c2') ∧ z.cell? ⟨go, 1, none⟩ = some (.int .i64 A)) (exact HSa.out _ (by first | assumption | exact bz1 _ _)) (first | (go_at_call 19; refine (HC2.out _ _ (by first | rfl | (simp; done) | omega | (rw [shr_nat])) (by first | rfl | (simp; done) | omega)).mono ?_; rintro e s1 ⟨rfl, bz2⟩))
      all_goals go_wp2_with fail
      all_goals go_meet
      all_goals case rel => exact ⟨⟨2, by go_num, by rw [Hid, if_pos h]⟩, by assumption⟩
    · go_wp2_with fail
      go_meet
      case rel => exact ⟨⟨1, rfl, by rw [Hid, if_neg (by omega)]⟩, Below.refl _ _⟩
  obtain ⟨⟨p1, rfl, HP1⟩, HB8⟩ := hcut
  obtain ⟨W8, ec⟩ : ∃ y, y = wc := ⟨_, rfl⟩
  subst ec
  have hp1 : p1 ≤ 2 := by
    have := HP1.out
    split at this <;> omega
  have X8 : Hid (Box W8 go (b, A, M, D, N, I)) := X7.out.below HB8.out
  have B8 : Hid (Below w4.heap.size w4 W8) := below_then HB7.out HB8.out
  clear X7 HB7 HB8 HS2 HF0 hkn2
  obtain ⟨c0, c1, c2, c3, c4, c5⟩ := X8.out.six
  dsimp only at c0 c1 c2 c3 c4 c5
  go_upto_if 154 with fail
  clear c0 c1 c2 c3 c4 c5
  go_cut [18] from 20 (fun v wc => (∃ p : Nat, v = .int .i64 p ∧ Hid (p = p1 + if M = true then 1 else 0)) ∧ wc = W8)
  case first => as_aux_lemma =>
    cases M
    · go_wp2_with fail
      go_meet
      case rel => exact ⟨⟨p1, rfl, by simp [Hid]⟩, rfl⟩
    · go_wp2_with fail
      go_meet
      case rel => exact ⟨⟨p1 + 1, by go_num, by simp [Hid]⟩, rfl⟩
  obtain ⟨⟨p2, rfl, HP2⟩, rfl⟩ := hcut
  obtain ⟨W8, ec⟩ : ∃ y, y = wc := ⟨_, rfl⟩
  subst ec
  have hp2 : p2 ≤ 3 := by
    have := HP2.out
    split at this <;> omega
  obtain ⟨c0, c1, c2, c3, c4, c5⟩ := X8.out.six
  dsimp only at c0 c1 c2 c3 c4 c5
  go_upto_if 159 with fail
  clear c0 c1 c2 c3 c4 c5
  go_cut [18] from 20 (fun v wc => (∃ p : Nat, v = .int .i64 p ∧ Hid (p = p2 + if 0 < D then 1 else 0)) ∧ wc = W8)
  case first => as_aux_lemma =>
    by_cases h : 0 < D
    · go_wp2_with fail
      go_meet
      case rel => exact ⟨⟨p2 + 1, by go_num, by rw [Hid, if_pos (by omega)]⟩, rfl⟩
    · go_wp2_with fail
      go_meet
      case rel => exact ⟨⟨p2, rfl, by rw [Hid, if_neg (by omega)]; rfl⟩, rfl⟩
  obtain ⟨⟨p3, rfl, HP3⟩, rfl⟩ := hcut
  obtain ⟨W8, ec⟩ : ∃ y, y = wc := ⟨_, rfl⟩
  subst ec
  have hp3 : p3 ≤ 4 := by
    have := HP3.out
    split at this <;> omega
  obtain ⟨l0, l1, l2, l3, lr⟩ := HLa.out
  have e0 := (B8.out.cell (cell_lt l0)).trans l0
  have e1 := (B8.out.cell (cell_lt l1)).trans l1
  have e2 := (B8.out.cell (cell_lt l2)).trans l2
  have e3 := (B8.out.cell (cell_lt l3)).trans l3
  have HLr : Hid (Reads W8 (.slice la lp.2.1.length lc) lp.2.1) := lr.below B8.out
  have hnm : (n : Int) - 1 = (m : Int) := by have := HMn.out; omega
  have jm : (m : Int) < (n : Int) := by omega
  have jm' : m < n := by omega
  have jm0 : (0 : Int) ≤ (m : Int) := Int.natCast_nonneg m
  have hwm : wrap64 (m : Int) = (m : Int) := IntWalk.wrap64_in _ (by omega)
  clear l0 l1 l2 l3 lr HLa
  go_upto_region 33 with fail
  obtain ⟨g0, g1, g2, g3⟩ := four_new W8 (.int .i64 lp.1) (.slice la lp.2.1.length lc) (.int .i64 lp.2.2.1) (.int .i64 lp.2.2.2)
  have HG : Hid ((W8.alloc (.cells #[.int .i64 lp.1, .slice la lp.2.1.length lc, .int .i64 lp.2.2.1, .int .i64 lp.2.2.2] 45)).cell? ⟨W8.heap.size, 0, none⟩ = some (.int .i64 lp.1) ∧ (W8.alloc (.cells #[.int .i64 lp.1, .slice la lp.2.1.length lc, .int .i64 lp.2.2.1, .int .i64 lp.2.2.2] 45)).cell? ⟨W8.heap.size, 1, none⟩ = some (.slice la lp.2.1.length lc) ∧ (W8.alloc (.cells #[.int .i64 lp.1, .slice la lp.2.1.length lc, .int .i64 lp.2.2.1, .int .i64 lp.2.2.2] 45)).cell? ⟨W8.heap.size, 3, none⟩ = some (.int .i64 lp.2.2.2)) := ⟨g0, g1, g3⟩
  have b9 := below_new W8 (.cells #[.int .i64 lp.1, .slice la lp.2.1.length lc, .int .i64 lp.2.2.1, .int .i64 lp.2.2.2] 45)
  have X9 : Hid (Box (W8.alloc (.cells #[.int .i64 lp.1, .slice la lp.2.1.length lc, .int .i64 lp.2.2.1, .int .i64 lp.2.2.2] 45)) go (b, A, M, D, N, I)) := X8.out.below b9
  have B9 : Hid (Below w4.heap.size w4 (W8.alloc (.cells #[.int .i64 lp.1, .slice la lp.2.1.length lc, .int .i64 lp.2.2.1, .int .i64 lp.2.2.2] 45))) := below_then B8.out b9
  have R9 : Hid (Reads (W8.alloc (.cells #[.int .i64 lp.1, .slice la lp.2.1.length lc, .int .i64 lp.2.2.1, .int .i64 lp.2.2.2] 45)) (.slice la lp.2.1.length lc) lp.2.1) := HLr.out.below b9
  generalize hW : W8.alloc (.cells #[.int .i64 lp.1, .slice la lp.2.1.length lc, .int .i64 lp.2.2.1, .int .i64 lp.2.2.2] 45) = W9 at HG X9 B9 R9 ⊢
  generalize hgl : W8.heap.size = gg at HG ⊢
  clear hW hgl b9 g0 g1 g2 g3 e0 e1 e2 e3 X8 B8 HLr hnm jm jm' jm0 hwm
  obtain ⟨c0, c1, c2, c3, c4, c5⟩ := X9.out.six
  dsimp only at c0 c1 c2 c3 c4 c5
  obtain ⟨y2, hy2⟩ : ∃ y : Bool, (I && decide (0 < L'.length)) = y := ⟨_, rfl⟩
  have HY2 : Hid ((I && decide (0 < L'.length)) = y2) := hy2
  clear hy2
  go_cut [174] from 20 (fun v wc => v = .bool y2 ∧ wc = W9)
  case first => as_aux_lemma =>
    cases I
    · go_wp2
      go_meet
      case rel => exact ⟨congrArg Value.bool (by rw [← HY2.out]; simp), rfl⟩
    · go_wp2
      go_meet
      case rel => exact ⟨congrArg Value.bool (by rw [← HY2.out]; simp), rfl⟩
  obtain ⟨rfl, rfl⟩ := hcut
  obtain ⟨W9, ec⟩ : ∃ y, y = wc := ⟨_, rfl⟩
  subst ec
  go_upto_if 174 with fail
  clear c0 c1 c2 c3 c4 c5
  go_cut [18] from 20 (fun v wc => (∃ p : Nat, v = .int .i64 p ∧ Hid (p = p3 + if y2 = true then 1 else 0)) ∧ Hid (Below W9.heap.size W9 wc))
  case first => as_aux_lemma =>
    cases y2
    · go_wp2_with fail
      go_meet
      case rel => exact ⟨⟨p3, rfl, by simp [Hid]⟩, Below.refl _ _⟩
    · have hlp := HDt.out (by have := HY2.out; simpa using this)
      subst hlp
      obtain ⟨g0, g1, g3⟩ := HG.out
      obtain ⟨c0, c1, c2, c3, c4, c5⟩ := X9.out.six
      dsimp only at c0 c1 c2 c3 c4 c5 g0 g1 g3
      have RD9 : Hid (Reads W9 (.slice da L'.length dc) L') := RD.out.below B9.out
      go_wp2_with fail
      refine (same_any _ _ L' L' _ R9.out RD9.out hl20 hl20).mono ?_
      rintro e s1 ⟨rfl, bz⟩
      have bz2 : Hid (Below W9.heap.size W9 s1) := bz
      have hd : decide (L' = L') = true := by simp
      rw [hd]
      clear bz c0 c1 c2 c3 c4 c5 g0 g1 g3
      go_wp2_with fail
      go_meet
      case rel => exact ⟨⟨p3 + 1, by go_num, by simp [Hid]⟩, bz2⟩
  obtain ⟨⟨p4, rfl, HP4⟩, HB10⟩ := hcut
  obtain ⟨W10, ec⟩ : ∃ y, y = wc := ⟨_, rfl⟩
  subst ec
  have hp4 : p4 ≤ 5 := by
    have := HP4.out
    split at this <;> omega
  have X10 : Hid (Box W10 go (b, A, M, D, N, I)) := X9.out.below HB10.out
  have B10 : Hid (Below w4.heap.size w4 W10) := below_then B9.out HB10.out
  obtain ⟨h0, h1, h3⟩ := HG.out
  have HG10 : Hid (W10.cell? ⟨gg, 0, none⟩ = some (.int .i64 lp.1) ∧ W10.cell? ⟨gg, 3, none⟩ = some (.int .i64 lp.2.2.2)) := ⟨(HB10.out.cell (cell_lt h0)).trans h0, (HB10.out.cell (cell_lt h3)).trans h3⟩
  clear h0 h1 h3 HG X9 B9 HB10 R9 RD HDt
  go_upto_if 190 with fail
  go_cut [18] from 20 (fun v wc => (∃ p : Nat, v = .int .i64 p ∧ Hid (p = p4 + if 0 < (r : Int) then 1 else 0)) ∧ wc = W10)
  case first => as_aux_lemma =>
    by_cases h : 0 < (r : Int)
    · have hlp := HRd.out h
      subst hlp
      obtain ⟨g0, g3⟩ := HG10.out
      obtain ⟨c0, c1, c2, c3, c4, c5⟩ := X10.out.six
      dsimp only at c0 c1 c2 c3 c4 c5 g0 g3
      go_wp2_with fail
      go_meet
      case rel => exact ⟨⟨p4 + 1, by go_num, by rw [Hid, if_pos (by omega)]⟩, rfl⟩
    · go_wp2_with fail
      go_meet
      case rel => exact ⟨⟨p4, rfl, by rw [Hid, if_neg (by omega)]; rfl⟩, rfl⟩
  obtain ⟨⟨p5, rfl, HP5⟩, rfl⟩ := hcut
  obtain ⟨W10, ec⟩ : ∃ y, y = wc := ⟨_, rfl⟩
  subst ec
  have HN : p5 = n := by
    have e1 := HP1.out
    have e2 := HP2.out
    have e3 := HP3.out
    have e4 := HP4.out
    have e5 := HP5.out
    have ey := HY2.out
    rw [← HNum.out, e5, e4, e3, e2, e1]
    unfold numP
    congr 2
    simp only [← ey, Bool.and_eq_true, decide_eq_true_eq]
  subst HN
  go_wp2_with fail
  go_ret
  exact ⟨rfl, below_then B6.out B10.out⟩

set_option maxRecDepth 100000 in
theorem lifted (os : Os) (started : os.Started) (H : Type) (enc : TypeId × Value → H) :
    ReturnsInHanded {} Try.checked os 4 .any (Rows.tablePartsSpec.pre6 enc Try.prog Try.f4 Rows.tablePartsRow.domain false) (Rows.tablePartsSpec.post enc Try.prog Try.f4 false true false false) := by
  refine returnsInHanded_of_change_sized (C := Try.checked) own started (by kernel_rfl) Try.func4
    (ChangeSpec.witness6 (enc := enc) (C := Try.checked) false ⟨#[], #[.int .i64 0, .int .i64 0, .slice none 0 0, .int .i64 0], []⟩ 8 (by kernel_rfl) (by kernel_rfl) (by kernel_rfl) (by kernel_rfl)) ?_
  intro W base args ds gs before hval0 hW hcnd hsz0 _
  have hsz : (DataW.weightsEach Try.prog (Try.f4.params.toList ++ Rows.tablePartsSpec.plain.varTypes Try.prog) (ds ++ gs)).all (· ≤ reachBytes) = true := hsz0
  clear hsz0
  have hval : ∀ (j : Nat) t v, Try.f4.params[j]? = some t → args[j]? = some v → Value.okWide Try.prog W .any base t v := hval0
  have hW' := hW
  obtain ⟨p, q, hA0, hV, rfl, hfz, hnd⟩ := hW
  have hA : DataW.TrodAll enc Try.prog W 0 (fun _ => true) true Try.f4.params.toList args.toList ds p := hA0
  rw [Try.params4] at hA hval hsz
  obtain ⟨v0, vs0, d0, ds0, p0, q0, hargs, rfl, rfl, h0, r0⟩ := trodAll_cons hA
  obtain ⟨v1, vs1, d1, ds1, p1, q1, rfl, rfl, rfl, h1, r1⟩ := trodAll_cons r0
  obtain ⟨v2, vs2, d2, ds2, p2, q2, rfl, rfl, rfl, h2, r2⟩ := trodAll_cons r1
  obtain ⟨v3, vs3, d3, ds3, p3, q3, rfl, rfl, rfl, h3, r3⟩ := trodAll_cons r2
  obtain ⟨rfl, rfl, rfl⟩ := trodAll_nil r3
  obtain rfl : args = #[v0, v1, v2, v3] := by cases args; simp_all
  obtain ⟨rfl, rfl⟩ := trodVars_none hV
  obtain ⟨a0, rfl, rfl, rfl, w0⟩ := open_int Try.underlying3 (hval 0 3 v0 rfl rfl) h0
  obtain ⟨a1, rfl, rfl, rfl, w1⟩ := open_int Try.underlying3 (hval 1 3 v1 rfl rfl) h1
  obtain ⟨a2, len2, cap2, rfl⟩ := okWide_slice Try.underlying24 (hval 2 24 v2 rfl rfl)
  have k2 := h2
  have lt2 : ∀ x ∈ p2, x.block < W.heap.size := by obtain ⟨m, hm⟩ := k2; exact DataW.trod_lt m _ _ _ hm
  obtain ⟨z2, w2, s2⟩ : ∃ zs, Came W a2 len2 cap2 zs ∧ len2 * 8 ≤ 140737488351232 := by
    obtain ⟨fuel, hf⟩ := h2
    rcases open_ints Try.underlying24 Try.underlying3 (by kernel_rfl) hf with ⟨hcs, _⟩ | ⟨x, l, c, zs, hcs, _, hl, hm, hz, hx, hcell, hwz⟩
    · simp [Value.cells] at hcs
      obtain ⟨rfl, rfl, rfl⟩ := hcs
      exact ⟨[], ⟨rfl, .inl ⟨rfl, rfl, rfl⟩⟩, by omega⟩
    · simp [Value.cells] at hcs
      obtain ⟨rfl, rfl, rfl⟩ := hcs
      simp only [Prod.mk.injEq] at hx
      obtain ⟨rfl, -⟩ := hx
      have hzl : zs.length = cap2 := by simpa using hz
      have hreach := sized_slice hsz (j := 2) (t := 24) (e := 3) rfl rfl Try.underlying24
      rw [show Try.prog.bytesOf 3 = 8 from by kernel_rfl] at hreach
      simp only [lits, List.length_map, List.length_take, List.length_drop, reachBytes] at hreach
      exact ⟨zs.take len2, came_of hl hzl hcell, by omega⟩
  obtain ⟨a3, rfl, rfl, rfl, w3⟩ := open_int Try.underlying3 (hval 3 3 v3 rfl rfl) h3
  clear hA0 hval0
  refine (walk a0 a1 a2 len2 cap2 z2 a3 W w0 w1 w2 s2 w3).mono fun e W' ⟨he, bel⟩ => ?_
  subst he
  exact ⟨_, rfl, _, _, _, [], _, [], hW', trodAll_mk1 (shut_bool Try.underlying4 _), (trodAll_cons_mk (shut_int Try.underlying3 w0) (trodAll_cons_mk (shut_int Try.underlying3 w1) (trodAll_cons_mk (Below.trod laidOut (by kernel_rfl) (of_decide_eq_true (by kernel_rfl)) k2 bel lt2) (trodAll_cons_mk (shut_int Try.underlying3 w3) trodAll_mk0)))), rfl, bel.frame _, fun h => by cases h⟩

theorem over : Rows.tablePartsRow.holds Try.pinned (OpenSpec.ofChange Rows.tablePartsSpec) :=
  OpenClaim.holds_of_wide 4 Try.f4 rfl rfl rfl rfl rfl rfl rfl ⟨rfl, rfl, rfl, rfl, rfl⟩ rfl rfl rfl rfl rfl (by kernel_rfl) Try.func4 (by kernel_rfl)
    (of_decide_eq_true (by kernel_rfl)) (by unfold Func.isWrapper; first | (rw [if_pos (by decide +kernel)]; kernel_rfl) | (rw [if_neg (by decide +kernel)]; exact ⟨rfl, rfl⟩))
    (fun os started H enc _ => lifted os started H enc)

theorem proved : Rows.TablePartsSaid := over
#print axioms proved
end Go.Proofs.Ytbjaogcejcfpbaa.tableParts
