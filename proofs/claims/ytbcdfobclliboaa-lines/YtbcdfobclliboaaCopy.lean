/-
  The laws' CopyCache, by a contract for every cache that came in. Condition: its lists are no longer than a list that is read may be.
-/
import Derived.Test.YtbcdfobclliboaaRef
namespace Go.Proofs.Ytbcdfobclliboaa
open Go.RowKit Plain
set_option linter.unusedVariables false

theorem CV.of_own {B e : Nat} {w : World} {a : Option Addr} {n cap : Nat} {X : List Value} (h : OV B e w (.slice a n cap) X) (hn : X.length = n) : CV w a n cap X := by
  subst hn
  rcases h.2 with ⟨e1, hn⟩ | ⟨g, cap', cur, e1, hb, hg, hnc, hcm, hcs, ht⟩
  · simp at e1
    exact ⟨rfl, .inl ⟨e1.1, hn, e1.2.2⟩⟩
  · simp at e1
    obtain ⟨rfl, rfl⟩ := e1
    refine ⟨rfl, .inr ⟨⟨g, 0, none⟩, rfl, hnc, fun j u hu => ?_⟩⟩
    have := World.ownsRow.cells h rfl j u hu
    exact this

/-- A cache that came in: two slices and a number. -/
def CC (w : World) (q1 : Option Addr) (n1 p1 : Nat) (q2 : Option Addr) (n2 p2 : Nat) (A : List Int) (T : List ByteArray) : Prop := CV w q1 n1 p1 (ints A) ∧ CV w q2 n2 p2 (txts T)
theorem CC.reads {w : World} {q1 : Option Addr} {n1 p1 : Nat} {q2 : Option Addr} {n2 p2 : Nat} {A : List Int} {T : List ByteArray} (h : CC w q1 n1 p1 q2 n2 p2 A T) (x : Int) : CR w (.agg #[.slice q1 n1 p1, .slice q2 n2 p2, .int .i64 x]) A T x :=
  ⟨_, _, rfl, h.1.reads, h.2.reads⟩
theorem CC.of_own {B : Nat} {w : World} {q1 : Option Addr} {n1 p1 : Nat} {q2 : Option Addr} {n2 p2 : Nat} {A : List Int} {T : List ByteArray} {x y : Int} (h : CO B w (.agg #[.slice q1 n1 p1, .slice q2 n2 p2, .int .i64 y]) A T x) : CC w q1 n1 p1 q2 n2 p2 A T := by
  obtain ⟨h1, h2, -⟩ := h.told
  obtain ⟨a, c, e1⟩ := h1.form
  obtain ⟨b, d, e2⟩ := h2.form
  simp at e1 e2
  exact ⟨.of_own h1 (by rw [List.length_map]; exact e1.2.1.symm), .of_own h2 (by rw [List.length_map]; exact e2.2.1.symm)⟩

theorem ints_one (L : List Int) : ∀ u ∈ ints L, u.oneCell' = true := fun u hu => by
  obtain ⟨x, -, rfl⟩ := List.mem_map.1 hu
  rfl
theorem txts_one (T : List ByteArray) : ∀ u ∈ txts T, u.oneCell' = true := fun u hu => by
  obtain ⟨x, -, rfl⟩ := List.mem_map.1 hu
  rfl

set_option maxRecDepth 100000 in
set_option maxHeartbeats 4000000 in
theorem copy_any (q1 : Option Addr) (n1 p1 : Nat) (q2 : Option Addr) (n2 p2 : Nat) (A : List Int) (T : List ByteArray) (x : Int) (w : World) (h : CC w q1 n1 p1 q2 n2 p2 A T) (hf : Fit A T) :
    Calls Try.prog 8 #[.agg #[.slice q1 n1 p1, .slice q2 n2 p2, .int .i64 x]] w fun e w' => ∃ r1 m1 s1 r2 m2 s2, e = .returned (.agg #[.slice r1 m1 s1, .slice r2 m2 s2, .int .i64 x]) ∧ CO w.heap.size w' (.agg #[.slice r1 m1 s1, .slice r2 m2 s2, .int .i64 x]) A T x ∧ Below w.heap.size w w' := by
  have HC : Hid (CC w q1 n1 p1 q2 n2 p2 A T) := h
  have hb0 := below_then (below_new w (.cells #[.slice q1 n1 p1, .slice q2 n2 p2, .int .i64 x] 25)) (below_new (w.alloc (.cells #[.slice q1 n1 p1, .slice q2 n2 p2, .int .i64 x] 25)) (.cells #[.slice none 0 0, .slice none 0 0, .int .i64 0] 25))
  have HX : Hid (Blk ((w.alloc (.cells #[.slice q1 n1 p1, .slice q2 n2 p2, .int .i64 x] 25)).alloc (.cells #[.slice none 0 0, .slice none 0 0, .int .i64 0] 25)) w.heap.size 25 [.slice q1 n1 p1, .slice q2 n2 p2, .int .i64 x]) := (Blk.new w 25 _ _ rfl).alloc _
  have HR : Hid (Blk ((w.alloc (.cells #[.slice q1 n1 p1, .slice q2 n2 p2, .int .i64 x] 25)).alloc (.cells #[.slice none 0 0, .slice none 0 0, .int .i64 0] 25)) (w.heap.size + 1) 25 [.slice none 0 0, .slice none 0 0, .int .i64 0]) := Blk.at_ rfl (by simp)
  have HB : Hid (Below w.heap.size w ((w.alloc (.cells #[.slice q1 n1 p1, .slice q2 n2 p2, .int .i64 x] 25)).alloc (.cells #[.slice none 0 0, .slice none 0 0, .int .i64 0] 25))) := hb0
  have hl1 : Hid (n1 = A.length) := by rw [Hid, ← h.1.1, List.length_map]
  have hl2 : Hid (n2 = T.length) := by rw [Hid, ← h.2.1, List.length_map]
  have hf1 : n1 * 8 ≤ 140737488351232 := by rw [hl1.out]; exact hf.at'
  have hf2 : n2 * 16 ≤ 140737488351232 := by rw [hl2.out]; exact hf.text
  clear h hf hb0
  obtain ⟨i3, hi3, h30, h31, h32⟩ := info_parts info3
  obtain ⟨i9, hi9, h90, h91, h92⟩ := info_parts info9
  go_enter Try.func8, Try.ntmps8
  go_upto_region 1 with fail
  generalize (w.alloc (.cells #[.slice q1 n1 p1, .slice q2 n2 p2, .int .i64 x] 25)).alloc (.cells #[.slice none 0 0, .slice none 0 0, .int .i64 0] 25) = W at HX HR HB ⊢
  go_cut [3] from 4 (fun _ z => Hid (∃ r1 s1, Blk z w.heap.size 25 [.slice r1 n1 s1, .slice q2 n2 p2, .int .i64 x] ∧ Blk z (w.heap.size + 1) 25 [.slice none 0 0, .slice none 0 0, .int .i64 0] ∧ OV w.heap.size 3 z (.slice r1 n1 s1) (ints A) ∧ Below w.heap.size w z))
  case first => as_aux_lemma =>
    have hown : (W.alloc (.cells #[] 3)).ownsRow w.heap.size 3 1 (.slice (some ⟨W.heap.size, 0, none⟩) 0 0) 0 [] := World.ownsRow_lit (base := w.heap.size) (e := 3) (size := 1) W #[] 0 HB.out.size (by unfold maxLen; omega) rfl
    have hsz := HB.out.size
    have x0 := HX.out.cell 0 rfl
    have xf0 := HX.out.frozen 0
    have ne1 : Hid (∀ b T' L, Blk W b T' L → some b ≠ (Value.slice (some ⟨W.heap.size, 0, none⟩) 0 0).ownBlock) := fun b T' L hb e => by
      simp [Value.ownBlock] at e
      have := hb.lt
      omega
    have X1 := HX.out.below (below_new W (.cells #[] 3))
    have R1 := HR.out.below (below_new W (.cells #[] 3))
    have B1 := below_then HB.out (below_new W (.cells #[] 3))
    obtain ⟨C1, C2⟩ := HC.out
    obtain ⟨c1, ⟨rfl, rfl, rfl⟩ | ⟨y, rfl, hnc, hc⟩⟩ := C1
    · have e0 : A = [] := List.length_eq_zero_iff.1 (by rw [← hl1.out])
      subst e0
      have HY : Hid (Blk ((W.alloc (.cells #[] 3)).setCell ⟨w.heap.size, 0, none⟩ (.slice (some ⟨W.heap.size, 0, none⟩) 0 0)) w.heap.size 25 [.slice (some ⟨W.heap.size, 0, none⟩) 0 0, .slice q2 n2 p2, .int .i64 x]) := X1.set 0 _
      have HZ : Hid (Blk ((W.alloc (.cells #[] 3)).setCell ⟨w.heap.size, 0, none⟩ (.slice (some ⟨W.heap.size, 0, none⟩) 0 0)) (w.heap.size + 1) 25 [.slice none 0 0, .slice none 0 0, .int .i64 0]) := R1.other _ _ _ (by omega)
      have hown' : OV w.heap.size 3 (W.alloc (.cells #[] 3)) (.slice (some ⟨W.heap.size, 0, none⟩) 0 0) (ints []) := hown
      have HO : Hid (OV w.heap.size 3 ((W.alloc (.cells #[] 3)).setCell ⟨w.heap.size, 0, none⟩ (.slice (some ⟨W.heap.size, 0, none⟩) 0 0)) (.slice (some ⟨W.heap.size, 0, none⟩) 0 0) (ints [])) := hown'.set_other _ _ (hown'.apart X1 (by decide))
      have HW : Hid (Below w.heap.size w ((W.alloc (.cells #[] 3)).setCell ⟨w.heap.size, 0, none⟩ (.slice (some ⟨W.heap.size, 0, none⟩) 0 0))) := B1.setCell (Nat.le_refl _) _
      have xx0 := X1.cell 0 rfl
      have xxf := X1.frozen 0
      clear X1 R1 B1 hown hown' c1 C2
      go_wp2_with fail
      all_goals go_meet
      case rel => exact ⟨_, _, HY.out, HZ.out, HO.out, HW.out⟩
    · have hnews : ∀ j u, (ints A)[j]? = some u → (W.alloc (.cells #[] 3)).cell? (y.add j) = some u := fun j u hu => by
        have h1 := hc j u hu
        have h2 := HB.out.cell (p := y.add j) (by exact cell_lt h1)
        have h3 : W.cell? (y.add j) = some u := h2.trans h1
        exact ((below_new W _).cell (by exact cell_lt h3)).trans h3
      obtain ⟨I, HI⟩ : ∃ I, Hid (ints A = I) := ⟨_, rfl⟩
      have hil : Hid (I.length = n1 * 1) := by rw [Hid, ← HI.out, c1]; omega
      rw [HI.out] at hnews
      have hone : ∀ u ∈ I, u.oneCell' = true := by rw [← HI.out]; exact ints_one A
      have x0a := X1.cell 0 rfl
      clear hc c1
      go_wp2_with (at_builtin; refine wpList_append_own _ rfl _ _ 22 rfl w.heap.size 3 i3 (.int .i64 0) 1 8 Try.underlying22 hi3 h30 h31 h32 rfl (by decide) _ _ _ rfl hown y n1 p1 I rfl hil.out hnews hone (by unfold maxLen; omega) (by omega) (by simp; omega) ?_)
      intro v' w' h1 h2 h3
      have h1' : w'.ownsRow w.heap.size 3 1 v' n1 I := by simpa using h1
      obtain ⟨r1, s1, rfl⟩ : ∃ r1 s1, v' = .slice r1 n1 s1 := by
        rcases h1'.2 with ⟨rfl, h0⟩ | ⟨g, cap, cur, rfl, _⟩
        · exact ⟨none, 0, by rw [h0]⟩
        · exact ⟨_, _, rfl⟩
      have X2 := X1.grown h2 (ne1.out _ _ _ HX.out)
      have R2 := R1.grown h2 (ne1.out _ _ _ HR.out)
      have hO : OV w.heap.size 3 w' (.slice r1 n1 s1) (ints A) := by
        unfold OV
        rw [HI.out, show I.length = n1 by rw [hil.out]; omega]
        exact h1'
      have HY : Hid (Blk (w'.setCell ⟨w.heap.size, 0, none⟩ (.slice r1 n1 s1)) w.heap.size 25 [.slice r1 n1 s1, .slice q2 n2 p2, .int .i64 x]) := X2.set 0 _
      have HZ : Hid (Blk (w'.setCell ⟨w.heap.size, 0, none⟩ (.slice r1 n1 s1)) (w.heap.size + 1) 25 [.slice none 0 0, .slice none 0 0, .int .i64 0]) := R2.other _ _ _ (by omega)
      have HO : Hid (OV w.heap.size 3 (w'.setCell ⟨w.heap.size, 0, none⟩ (.slice r1 n1 s1)) (.slice r1 n1 s1) (ints A)) := hO.set_other _ _ (hO.apart X2 (by decide))
      have HW : Hid (Below w.heap.size w (w'.setCell ⟨w.heap.size, 0, none⟩ (.slice r1 n1 s1))) := (B1.grown h2 (by simp; omega) fun k hk => by simp [Value.ownBlock] at hk; omega).setCell (Nat.le_refl _) _
      have xx0 := X2.cell 0 rfl
      have xxf := X2.frozen 0
      clear X1 R1 B1 hown h1 h2 h3 h1' X2 R2 hO hnews hone x0 xf0
      go_wp2_with fail
      all_goals go_meet
      case rel => exact ⟨_, _, HY.out, HZ.out, HO.out, HW.out⟩
  case rest =>
    obtain ⟨r1, s1, hx, hr, ha, hw⟩ := hcut.out
    obtain ⟨W1, hW1⟩ : ∃ y, y = wc := ⟨_, rfl⟩
    subst hW1
    have HX1 : Hid (Blk W1 w.heap.size 25 [.slice r1 n1 s1, .slice q2 n2 p2, .int .i64 x]) := hx
    have HR1 : Hid (Blk W1 (w.heap.size + 1) 25 [.slice none 0 0, .slice none 0 0, .int .i64 0]) := hr
    have HA : Hid (OV w.heap.size 3 W1 (.slice r1 n1 s1) (ints A)) := ha
    have HB1 : Hid (Below w.heap.size w W1) := hw
    clear hcut hx hr ha hw HX HR HB
    obtain ⟨W, hW⟩ : ∃ W, W = W1 := ⟨_, rfl⟩
    subst hW
    have HX := HX1
    have HR := HR1
    have HB := HB1
    clear HX1 HR1 HB1
    go_upto_region 2 with fail
    go_cut [8] from 9 (fun _ z => Hid (∃ r2 s2, Blk z w.heap.size 25 [.slice r1 n1 s1, .slice r2 n2 s2, .int .i64 x] ∧ Blk z (w.heap.size + 1) 25 [.slice none 0 0, .slice none 0 0, .int .i64 0] ∧ OV w.heap.size 3 z (.slice r1 n1 s1) (ints A) ∧ OV w.heap.size 9 z (.slice r2 n2 s2) (txts T) ∧ Below w.heap.size w z))
    case first => as_aux_lemma =>
      have hown : (W.alloc (.cells #[] 9)).ownsRow w.heap.size 9 1 (.slice (some ⟨W.heap.size, 0, none⟩) 0 0) 0 [] := World.ownsRow_lit (base := w.heap.size) (e := 9) (size := 1) W #[] 0 HB.out.size (by unfold maxLen; omega) rfl
      have hsz := HB.out.size
      have x0 := HX.out.cell 1 rfl
      have xf0 := HX.out.frozen 1
      have ne1 : Hid (∀ b T' L, Blk W b T' L → some b ≠ (Value.slice (some ⟨W.heap.size, 0, none⟩) 0 0).ownBlock) := fun b T' L hb e => by
        simp [Value.ownBlock] at e
        have := hb.lt
        omega
      have X1 := HX.out.below (below_new W (.cells #[] 9))
      have R1 := HR.out.below (below_new W (.cells #[] 9))
      have B1 := below_then HB.out (below_new W (.cells #[] 9))
      have A1 := HA.out.below (below_new W (.cells #[] 9)) (Nat.le_refl _)
      obtain ⟨C1, C2⟩ := HC.out
      obtain ⟨c1, ⟨rfl, rfl, rfl⟩ | ⟨y, rfl, hnc, hc⟩⟩ := C2
      · have e0 : T = [] := List.length_eq_zero_iff.1 (by rw [← hl2.out])
        subst e0
        have HY : Hid (Blk ((W.alloc (.cells #[] 9)).setCell ⟨w.heap.size, 1, none⟩ (.slice (some ⟨W.heap.size, 0, none⟩) 0 0)) w.heap.size 25 [.slice r1 n1 s1, .slice (some ⟨W.heap.size, 0, none⟩) 0 0, .int .i64 x]) := X1.set 1 _
        have HZ : Hid (Blk ((W.alloc (.cells #[] 9)).setCell ⟨w.heap.size, 1, none⟩ (.slice (some ⟨W.heap.size, 0, none⟩) 0 0)) (w.heap.size + 1) 25 [.slice none 0 0, .slice none 0 0, .int .i64 0]) := R1.other _ _ _ (by omega)
        have hown' : OV w.heap.size 9 (W.alloc (.cells #[] 9)) (.slice (some ⟨W.heap.size, 0, none⟩) 0 0) (txts []) := hown
        have HO : Hid (OV w.heap.size 9 ((W.alloc (.cells #[] 9)).setCell ⟨w.heap.size, 1, none⟩ (.slice (some ⟨W.heap.size, 0, none⟩) 0 0)) (.slice (some ⟨W.heap.size, 0, none⟩) 0 0) (txts [])) := hown'.set_other _ _ (hown'.apart X1 (by decide))
        have HW : Hid (Below w.heap.size w ((W.alloc (.cells #[] 9)).setCell ⟨w.heap.size, 1, none⟩ (.slice (some ⟨W.heap.size, 0, none⟩) 0 0))) := B1.setCell (Nat.le_refl _) _
        have HA2 : Hid (OV w.heap.size 3 ((W.alloc (.cells #[] 9)).setCell ⟨w.heap.size, 1, none⟩ (.slice (some ⟨W.heap.size, 0, none⟩) 0 0)) (.slice r1 n1 s1) (ints A)) := A1.set_other _ _ (A1.apart X1 (by decide))
        have xx0 := X1.cell 1 rfl
        have xxf := X1.frozen 1
        clear X1 R1 B1 hown hown' c1 C1 A1
        go_wp2_with fail
        all_goals go_meet
        case rel => exact ⟨_, _, HY.out, HZ.out, HA2.out, HO.out, HW.out⟩
      · have hnews : ∀ j u, (txts T)[j]? = some u → (W.alloc (.cells #[] 9)).cell? (y.add j) = some u := fun j u hu => by
          have h1 := hc j u hu
          have h2 := HB.out.cell (p := y.add j) (by exact cell_lt h1)
          have h3 : W.cell? (y.add j) = some u := h2.trans h1
          exact ((below_new W _).cell (by exact cell_lt h3)).trans h3
        obtain ⟨I, HI⟩ : ∃ I, Hid (txts T = I) := ⟨_, rfl⟩
        have hil : Hid (I.length = n2 * 1) := by rw [Hid, ← HI.out, c1]; omega
        rw [HI.out] at hnews
        have hone : ∀ u ∈ I, u.oneCell' = true := by rw [← HI.out]; exact txts_one T
        have x0a := X1.cell 1 rfl
        clear hc c1
        go_wp2_with (at_builtin; refine wpList_append_own _ rfl _ _ 23 rfl w.heap.size 9 i9 (.string ByteArray.empty) 1 16 Try.underlying23 hi9 h90 h91 h92 rfl (by decide) _ _ _ rfl hown y n2 p2 I rfl hil.out hnews hone (by unfold maxLen; omega) (by omega) (by simp; omega) ?_)
        intro v' w' h1 h2 h3
        have h1' : w'.ownsRow w.heap.size 9 1 v' n2 I := by simpa using h1
        obtain ⟨r2, s2, rfl⟩ : ∃ r2 s2, v' = .slice r2 n2 s2 := by
          rcases h1'.2 with ⟨rfl, h0⟩ | ⟨g, cap, cur, rfl, _⟩
          · exact ⟨none, 0, by rw [h0]⟩
          · exact ⟨_, _, rfl⟩
        have X2 := X1.grown h2 (ne1.out _ _ _ HX.out)
        have R2 := R1.grown h2 (ne1.out _ _ _ HR.out)
        have hO : OV w.heap.size 9 w' (.slice r2 n2 s2) (txts T) := by
          unfold OV
          rw [HI.out, show I.length = n2 by rw [hil.out]; omega]
          exact h1'
        have HY : Hid (Blk (w'.setCell ⟨w.heap.size, 1, none⟩ (.slice r2 n2 s2)) w.heap.size 25 [.slice r1 n1 s1, .slice r2 n2 s2, .int .i64 x]) := X2.set 1 _
        have HZ : Hid (Blk (w'.setCell ⟨w.heap.size, 1, none⟩ (.slice r2 n2 s2)) (w.heap.size + 1) 25 [.slice none 0 0, .slice none 0 0, .int .i64 0]) := R2.other _ _ _ (by omega)
        have HO : Hid (OV w.heap.size 9 (w'.setCell ⟨w.heap.size, 1, none⟩ (.slice r2 n2 s2)) (.slice r2 n2 s2) (txts T)) := hO.set_other _ _ (hO.apart X2 (by decide))
        have HW : Hid (Below w.heap.size w (w'.setCell ⟨w.heap.size, 1, none⟩ (.slice r2 n2 s2))) := (B1.grown h2 (by simp; omega) fun k hk => by simp [Value.ownBlock] at hk; omega).setCell (Nat.le_refl _) _
        have ne2 : (Value.slice r1 n1 s1).ownBlock = none ∨ (Value.slice r1 n1 s1).ownBlock ≠ (Value.slice (some ⟨W.heap.size, 0, none⟩) 0 0).ownBlock := by
          rcases hob : (Value.slice r1 n1 s1).ownBlock with _ | b
          · exact .inl rfl
          · refine .inr fun e => ?_
            simp [Value.ownBlock] at e
            have := (HA.out.lt b hob).2
            omega
        have A2 : OV w.heap.size 3 w' (.slice r1 n1 s1) (ints A) := World.ownsRow.kept A1 h2 ne2
        have HA2 : Hid (OV w.heap.size 3 (w'.setCell ⟨w.heap.size, 1, none⟩ (.slice r2 n2 s2)) (.slice r1 n1 s1) (ints A)) := A2.set_other _ _ (A2.apart X2 (by decide))
        have xx0 := X2.cell 1 rfl
        have xxf := X2.frozen 1
        clear X1 R1 B1 hown h1 h2 h3 h1' X2 R2 hO hnews hone x0 xf0 A1 A2 ne2
        go_wp2_with fail
        all_goals go_meet
        case rel => exact ⟨_, _, HY.out, HZ.out, HA2.out, HO.out, HW.out⟩
    case rest =>
      obtain ⟨r2, s2, hx, hr, ha, ht, hw⟩ := hcut.out
      have K8 : Kp w (w.heap.size + 1) w.heap.size (.slice r1 n1 s1) (.slice r2 n2 s2) x A T wc := ⟨hr, hx, ha, ht, by omega, Nat.le_refl _, by omega, hw⟩
      have ck0 := hx.cell 0 rfl
      have ck1 := hx.cell 1 rfl
      have ck2 := hx.cell 2 rfl
      have cr0 := hr.cell 0 rfl
      have cr1 := hr.cell 1 rfl
      have cr2 := hr.cell 2 rfl
      have fr0 := hr.frozen 0
      have fr1 := hr.frozen 1
      have fr2 := hr.frozen 2
      obtain ⟨R1, C1, B1⟩ := K8.fill
      clear K8 hcut hx hr ha ht hw HX HR HB HA
      go_wp2_with fail
      generalize (((wc.setCell ⟨w.heap.size + 1, 0, none⟩ (.slice r1 n1 s1)).setCell ⟨w.heap.size + 1, 1, none⟩ (.slice r2 n2 s2)).setCell ⟨w.heap.size + 1, 2, none⟩ (.int .i64 x)) = W4 at R1 C1 B1 ⊢
      have d0 := R1.cell 0 rfl
      have d1 := R1.cell 1 rfl
      have d2 := R1.cell 2 rfl
      refine bodyPost_ret (v := .agg #[.slice r1 n1 s1, .slice r2 n2 s2, .int .i64 x]) (by simp [results, Try.results8, go_sem, d0, d1, d2]) rfl ⟨r1, n1, s1, r2, n2, s2, rfl, C1, B1⟩
end Go.Proofs.Ytbcdfobclliboaa
