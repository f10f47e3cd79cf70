/-
  Find and Command of the program. Conditions: those of each statement.
-/
import Derived.Test.YtjhjghakfedeeaaGreatTFew
import Derived.Test.YtjhjghakfedeeaaGreatCmdB
import Derived.Lib.SliceRun
import Derived.Deep.AppendLies
import Derived.Deep.RegionHeld3
import Derived.Deep.CutBlock
import Derived.Deep.CutRange
namespace Go.Proofs.YtjhjghakfedeeaaGreat
open Go.RowKit Plain
set_option linter.unusedVariables false
/-- What is answered for a command, a place, data, a read. -/
def Drives (o : Op6) (k : Int) (L : List Int) (r : Int) (w : World) (e : Ending) (w' : World) : Prop :=
  ((fitB o.1 o.2.1 o.2.2.1 o.2.2.2.1 o.2.2.2.2.1 o.2.2.2.2.2 k L r = false ∧ e = .returned (.tuple #[.slice none 0 0, .int .i64 900])) ∨
   (fitB o.1 o.2.1 o.2.2.1 o.2.2.2.1 o.2.2.2.2.1 o.2.2.2.2.2 k L r = true ∧ ∃ v, e = .returned (.tuple #[v, .int .i64 0]) ∧ ∃ qs, POwns w.heap.size w' v qs ∧ qs.map Prod.snd = phL o k.toNat L r)) ∧ Below w.heap.size w w'

set_option maxRecDepth 100000 in
set_option maxHeartbeats 4000000 in
theorem command_any (b A : Int) (M : Bool) (D N : Int) (I : Bool) (k : Int) (a : Option Addr) (n c : Nat) (L : List Int) (r : Int) (w : World) (hC : Came w a n c L) (hn : n * 8 ≤ 140737488351232) :
    Calls Tryz.prog 117 #[.agg #[.int .i64 b, .int .i64 A, .bool M, .int .i64 D, .int .i64 N, .bool I], .int .i64 k, .slice a n c, .int .i64 r] w (Drives (b, A, M, D, N, I) k L r w) := by
  obtain ⟨y1, h1⟩ : ∃ y, knB b A M D N I = y := ⟨_, rfl⟩
  obtain ⟨y2, h2⟩ : ∃ y, plB A k = y := ⟨_, rfl⟩
  obtain ⟨y3, h3⟩ : ∃ y, fewB L = y := ⟨_, rfl⟩
  obtain ⟨y4, h4⟩ : ∃ y, caB N I M n r = y := ⟨_, rfl⟩
  have H1 : Hid (knB b A M D N I = y1) := h1
  have H2 : Hid (plB A k = y2) := h2
  have H3 : Hid (fewB L = y3) := h3
  have H4 : Hid (caB N I M n r = y4) := h4
  have HC : Hid (Came w a n c L) := hC
  have HNo : Hid (∀ w', Below w.heap.size w w' → fitB b A M D N I k L r = false → Drives (b, A, M, D, N, I) k L r w (.returned (.tuple #[.slice none 0 0, .int .i64 900])) w') := fun w' hb hf => ⟨.inl ⟨hf, rfl⟩, hb⟩
  have hX0 := Box.new w (b, A, M, D, N, I)
  have HX0 : Hid (Box (w.alloc (.cells #[.int .i64 b, .int .i64 A, .bool M, .int .i64 D, .int .i64 N, .bool I] 54)) w.heap.size (b, A, M, D, N, I)) := hX0
  clear h1 h2 h3 h4 hC hX0
  go_enter Tryz.func117, Tryz.ntmps117
  go_wp2_with fail
  refine (known_any b A M D N I _).mono ?_
  rintro e w1 ⟨rfl, b1⟩
  rw [H1.out]
  have B1 : Hid (Below w.heap.size w w1) := below_then (below_new _ _) b1
  have X1 : Hid (Box w1 w.heap.size (b, A, M, D, N, I)) := HX0.out.below b1
  clear b1 HX0
  cases y1
  · as_aux_lemma =>
    go_wp2
    go_ret2
    exact HNo.out _ B1.out (fit_no (.inl H1.out))
  · obtain ⟨c0, c1, c2, c3, c4, c5⟩ := X1.out.six
    dsimp only at c0 c1 c2 c3 c4 c5
    go_wp2_with fail
    refine (placed_any b A M D N I k _).mono ?_
    rintro e w2 ⟨rfl, b2⟩
    rw [H2.out]
    have B2 : Hid (Below w.heap.size w w2) := below_then B1.out b2
    have X2 : Hid (Box w2 w.heap.size (b, A, M, D, N, I)) := X1.out.below b2
    clear b2 B1 X1 c0 c1 c2 c3 c4 c5
    cases y2
    · as_aux_lemma =>
      go_wp2
      go_ret2
      exact HNo.out _ B2.out (fit_no (.inr (.inl H2.out)))
    · go_wp2_with fail
      refine (tonly_any (.slice a n c) L _ (HC.out.below B2.out).reads (by rw [HC.out.1]; exact hn)).mono ?_
      rintro e w3 ⟨rfl, b3⟩
      rw [H3.out]
      have B3 : Hid (Below w.heap.size w w3) := below_then B2.out b3
      have X3 : Hid (Box w3 w.heap.size (b, A, M, D, N, I)) := X2.out.below b3
      clear b3 B2 X2
      cases y3
      · as_aux_lemma =>
        go_wp2
        go_ret2
        exact HNo.out _ B3.out (fit_no (.inr (.inr (.inl H3.out))))
      · by_cases r0 : r < 0
        · as_aux_lemma =>
          go_wp2
          go_ret2
          exact HNo.out _ B3.out (fit_no (.inr (.inr (.inr (.inl (decide_eq_false (by omega)))))))
        · by_cases r1 : 512 < r
          · as_aux_lemma =>
            go_wp2
            go_ret2
            exact HNo.out _ B3.out (fit_no (.inr (.inr (.inr (.inl (decide_eq_false (by omega)))))))
          · obtain ⟨c0, c1, c2, c3, c4, c5⟩ := X3.out.six
            dsimp only at c0 c1 c2 c3 c4 c5
            go_wp2_with fail
            refine (carries_any b A M D N I a n c r _ hn).mono ?_
            rintro e w4 ⟨rfl, b4⟩
            rw [H4.out]
            have B4 : Hid (Below w.heap.size w w4) := below_then B3.out b4
            have X4 : Hid (Box w4 w.heap.size (b, A, M, D, N, I)) := X3.out.below b4
            clear b4 B3 X3 c0 c1 c2 c3 c4 c5
            cases y4
            · as_aux_lemma =>
              go_wp2
              go_ret2
              exact HNo.out _ B4.out (fit_no (.inr (.inr (.inr (.inr (by rw [HC.out.1]; exact H4.out))))))
            · obtain ⟨c0, c1, c2, c3, c4, c5⟩ := X4.out.six
              dsimp only at c0 c1 c2 c3 c4 c5
              obtain ⟨j, rfl, hj⟩ := pl_nat H2.out
              go_wp2_with fail
              refine (phases_any b A M D N I j a n c L r _ hj (HC.out.below B4.out) hn).mono ?_
              rintro e w5 ⟨v, rfl, qs, hp, hX, b5⟩
              have B5 : Hid (Below w.heap.size w w5) := below_then B4.out b5
              have HP : Hid (POwns w.heap.size w5 v qs) := hp.below (Below.refl _ _) B4.out.size
              have HE : Hid (qs.map Prod.snd = phL (b, A, M, D, N, I) j L r) := hX
              clear hp hX b5
              go_wp2
              go_ret2
              refine ⟨.inr ⟨?_, v, rfl, qs, HP.out, ?_⟩, B5.out⟩
              · rw [show fitB b A M D N I j L r = _ from fit_yes H1.out H2.out H3.out (decide_eq_true (by omega)), HC.out.1]
                exact H4.out
              · rw [Int.toNat_natCast]; exact HE.out

/-- What Find answers. -/
def Finds (b : Int) (w : World) (e : Ending) (w' : World) : Prop :=
  e = .returned (.tuple #[.agg #[.int .i64 (opB b), .int .i64 (opA b), .bool (opM b), .int .i64 (opD b), .int .i64 (opN b), .bool (opI b)], .int .i64 (if isOp b = true then 0 else 900)]) ∧ Below w.heap.size w w'
theorem none_parts {b : Int} (h : isOp b = false) : opB b = 0 ∧ opA b = 0 ∧ opM b = false ∧ opD b = 0 ∧ opN b = 0 ∧ opI b = false := by
  have h' : ¬ isOp b = true := by rw [h]; decide
  have h'' := h'
  rw [isOp_iff] at h''
  simp only [not_or] at h''
  obtain ⟨h1, h2, h3, h4, h5, h6, h7, h8, h9, h10, h11, h12, h13, h14⟩ := h''
  refine ⟨by rw [opB, if_neg h'], ?_, ?_, ?_, ?_, ?_⟩ <;> simp [opA, opM, opD, opN, opI, *]

theorem Box.frozen {w : World} {g : Nat} {o : Op6} (h : Box w g o) (j : Nat) : w.frozen? ⟨g, j, none⟩ = false := by
  unfold Box at h
  simp [World.frozen?, h]
theorem below_six {B g : Nat} {a w : World} (h : Below B a w) (hg : B ≤ g) (p : Op6) : Below B a ((((((w.setCell ⟨g, 0, none⟩ (.int .i64 p.1)).setCell ⟨g, 1, none⟩ (.int .i64 p.2.1)).setCell ⟨g, 2, none⟩ (.bool p.2.2.1)).setCell ⟨g, 3, none⟩ (.int .i64 p.2.2.2.1)).setCell ⟨g, 4, none⟩ (.int .i64 p.2.2.2.2.1)).setCell ⟨g, 5, none⟩ (.bool p.2.2.2.2.2)) :=
  (((((h.setCell hg _).setCell hg _).setCell hg _).setCell hg _).setCell hg _).setCell hg _
theorem Box.sets {w : World} {g : Nat} {o : Op6} (h : Box w g o) (p : Op6) : Box ((((((w.setCell ⟨g, 0, none⟩ (.int .i64 p.1)).setCell ⟨g, 1, none⟩ (.int .i64 p.2.1)).setCell ⟨g, 2, none⟩ (.bool p.2.2.1)).setCell ⟨g, 3, none⟩ (.int .i64 p.2.2.2.1)).setCell ⟨g, 4, none⟩ (.int .i64 p.2.2.2.2.1)).setCell ⟨g, 5, none⟩ (.bool p.2.2.2.2.2)) g p :=
  heap_setCell_same _ _ 5 _ _ _ (heap_setCell_same _ _ 4 _ _ _ (heap_setCell_same _ _ 3 _ _ _ (heap_setCell_same _ _ 2 _ _ _ (heap_setCell_same _ _ 1 _ _ _ (heap_setCell_same w g 0 _ _ _ h)))))

set_option maxRecDepth 100000 in
set_option maxHeartbeats 1000000 in
theorem find_any (b : Int) (w : World) : Calls Tryz.prog 116 #[.int .i64 b] w (Finds b w) := by
  have hZ := Box.new w (0, 0, false, 0, 0, false)
  dsimp only at hZ
  have HZ : Hid (Box (w.alloc (.cells #[.int .i64 0, .int .i64 0, .bool false, .int .i64 0, .int .i64 0, .bool false] 54)) w.heap.size (0, 0, false, 0, 0, false)) := hZ
  clear hZ
  cases hop : isOp b
  · obtain ⟨e0, e1, e2, e3, e4, e5⟩ := none_parts hop
    unfold Finds
    rw [e0, e1, e2, e3, e4, e5, hop]
    clear e0 e1 e2 e3 e4 e5
    have HO : Hid (isOp b = false) := hop
    clear hop
    go_enter Tryz.func116, Tryz.ntmps116
    go_wp2_with fail
    refine (of_no b _ HO.out).mono ?_
    rintro e w1 ⟨rfl, b1⟩
    have hX : Box (w1.alloc (.cells #[.int .i64 0, .int .i64 0, .bool false, .int .i64 0, .int .i64 0, .bool false] 54)) w.heap.size (0, 0, false, 0, 0, false) := (HZ.out.below b1).below (below_new _ _)
    have hB : Below w.heap.size w (w1.alloc (.cells #[.int .i64 0, .int .i64 0, .bool false, .int .i64 0, .int .i64 0, .bool false] 54)) := below_then (below_then (below_new _ _) b1) (below_new _ _)
    obtain ⟨c0, c1, c2, c3, c4, c5⟩ := hX.six
    have f0 := hX.frozen 0
    have f1 := hX.frozen 1
    have f2 := hX.frozen 2
    have f3 := hX.frozen 3
    have f4 := hX.frozen 4
    have f5 := hX.frozen 5
    dsimp only at c0 c1 c2 c3 c4 c5
    have hS := hX.sets (0, 0, false, 0, 0, false)
    have hBS := below_six hB (Nat.le_refl _) (0, 0, false, 0, 0, false)
    obtain ⟨z0, z1, z2, z3, z4, z5⟩ := hS.six
    dsimp only at z0 z1 z2 z3 z4 z5
    have Z : Hid (_ ∧ _ ∧ _ ∧ _ ∧ _ ∧ _) := ⟨z0, z1, z2, z3, z4, z5⟩
    have HB : Hid (Below _ _ _) := hBS
    clear b1 HZ hX hB hS hBS z0 z1 z2 z3 z4 z5
    go_wp2
    obtain ⟨z0, z1, z2, z3, z4, z5⟩ := Z.out
    refine bodyPost_ret (v := .tuple #[.agg #[.int .i64 0, .int .i64 0, .bool false, .int .i64 0, .int .i64 0, .bool false], .int .i64 900]) (by simp [results, Tryz.results116, go_sem, z0, z1, z2, z3, z4, z5]) rfl ⟨rfl, HB.out⟩
  · unfold Finds
    rw [show opB b = b by rw [opB, if_pos hop], hop]
    have hO := of_yes b (w.alloc (.cells #[.int .i64 0, .int .i64 0, .bool false, .int .i64 0, .int .i64 0, .bool false] 54)) hop
    generalize opA b = xA at hO ⊢
    generalize opM b = xM at hO ⊢
    generalize opD b = xD at hO ⊢
    generalize opN b = xN at hO ⊢
    generalize opI b = xI at hO ⊢
    have HO : Hid (Calls _ _ _ _ _) := hO
    clear hO hop
    go_enter Tryz.func116, Tryz.ntmps116
    go_wp2_with fail
    refine HO.out.mono ?_
    rintro e w1 ⟨rfl, b1⟩
    have hX : Box (w1.alloc (.cells #[.int .i64 b, .int .i64 xA, .bool xM, .int .i64 xD, .int .i64 xN, .bool xI] 54)) w.heap.size (0, 0, false, 0, 0, false) := (HZ.out.below b1).below (below_new _ _)
    have hB : Below w.heap.size w (w1.alloc (.cells #[.int .i64 b, .int .i64 xA, .bool xM, .int .i64 xD, .int .i64 xN, .bool xI] 54)) := below_then (below_then (below_new _ _) b1) (below_new _ _)
    obtain ⟨c0, c1, c2, c3, c4, c5⟩ := hX.six
    have f0 := hX.frozen 0
    have f1 := hX.frozen 1
    have f2 := hX.frozen 2
    have f3 := hX.frozen 3
    have f4 := hX.frozen 4
    have f5 := hX.frozen 5
    dsimp only at c0 c1 c2 c3 c4 c5
    clear HO
    have hS := hX.sets (b, xA, xM, xD, xN, xI)
    have hBS := below_six hB (Nat.le_refl _) (b, xA, xM, xD, xN, xI)
    obtain ⟨z0, z1, z2, z3, z4, z5⟩ := hS.six
    dsimp only at z0 z1 z2 z3 z4 z5
    have Z : Hid (_ ∧ _ ∧ _ ∧ _ ∧ _ ∧ _) := ⟨z0, z1, z2, z3, z4, z5⟩
    have HB : Hid (Below _ _ _) := hBS
    clear b1 HZ hX hB hS hBS z0 z1 z2 z3 z4 z5
    go_wp2
    obtain ⟨z0, z1, z2, z3, z4, z5⟩ := Z.out
    refine bodyPost_ret (v := .tuple #[.agg #[.int .i64 b, .int .i64 xA, .bool xM, .int .i64 xD, .int .i64 xN, .bool xI], .int .i64 0]) (by simp [results, Tryz.results116, go_sem, z0, z1, z2, z3, z4, z5]) rfl ⟨rfl, HB.out⟩

end Go.Proofs.YtjhjghakfedeeaaGreat
