/-
  The law's fifteen phases in memory, and its row of two.
-/
import Derived.Test.YtjhjghakfedeeaaGreatWireFormsF
import Derived.Test.YtjhjghakfedeeaaGreatAwake10
import Derived.Test.YtjhjghakfedeeaaGreatCtlGo
namespace Go.Proofs.YtjhjghakfedeeaaGreat
open Go.RowKit Plain
set_option linter.unusedVariables false
theorem lmake_big (w : World) (n : Nat) (hn : n ≤ 2000) : ∃ W1, (Instr.makeSlice 23 (.int .i64 (n : Int)) (.int .i64 (n : Int))).run Tryz.prog w = .ok (.slice (some ⟨w.heap.size, 0, none⟩) n n) W1 ∧
    W1.ownsRow w.heap.size 3 1 (.slice (some ⟨w.heap.size, 0, none⟩) n n) n ((List.replicate n 0).map (Value.int .i64)) ∧ Below w.heap.size w W1 := by
  refine ⟨_, run_make_row' (P := Tryz.prog) 23 3 (.int .i64 0) 8 Tryz.underlying23 info3 rfl .i64 .i64 n (by omega) (by omega) w, ?_, (Below.refl _ _).alloc (Nat.le_refl _) _⟩
  have h := World.ownsRow_lit (base := w.heap.size) (e := 3) (size := 1) w (madeCells #[Value.int .i64 0] n) n (Nat.le_refl _) (by unfold maxLen; omega) (by rw [← Array.length_toList, toList_madeCells_one]; simp)
  rw [toList_madeCells_one] at h
  simpa using h
theorem rin_below {Q : Nat → Prop} {w w' : World} {v : Value} {L : List Int} (h : RIn Q w v L) (b : Below w.heap.size w w') : RIn Q w' v L := h.stays (.below b)
/-- One number in a block of its own. -/
theorem rin_new (w : World) (x : Int) : RIn (fun _ => True) (w.alloc (.cells #[.int .i64 x] 3)) (.slice (some ⟨w.heap.size, 0, none⟩) 1 1) [x] :=
  rin_lit (heap_alloc_new _ _) rfl rfl trivial
def badV (a b c m e f : Value) (D : Nat) : List (Value × Ph) :=
  [(.slice none 0 0, (0, [], 0, 0)), (.slice none 0 0, (1, [], 0, 0)), (a, (2, [1], 0, 0)), (b, (1, [256], 0, 0)), (c, (1, [-(D : Int)], 0, 0)), (m, (4, List.replicate (512 + D) 0, 0, 0)), (.slice none 0 0, (1, [], 4, 0)), (.slice none 0 0, (0, [], -(D : Int), 0)), (.slice none 0 0, (0, [], 400 + (D : Int), 0)), (.slice none 0 0, (1, [], 0, -(D : Int))), (.slice none 0 0, (4, [], 0, 512 + (D : Int))), (.slice none 0 0, (0, [], 0, 1)), (e, (1, [1], 0, 1)), (f, (1, [1], 1, 0)), (.slice none 0 0, (0, [], 1, 1))]
theorem bads_made (u : World) (D N : Nat) (hN : N = 512 + D) (hD : D ≤ 1024) : ∃ W4, (Instr.makeSlice 23 (.int .i64 (N : Int)) (.int .i64 (N : Int))).run Tryz.prog (((u.alloc (.cells #[.int .i64 1] 3)).alloc (.cells #[.int .i64 256] 3)).alloc (.cells #[.int .i64 (-(D : Int))] 3)) = .ok (.slice (some ⟨u.heap.size + 1 + 1 + 1, 0, none⟩) N N) W4 ∧
    ∀ cs : Array Value, cs.toList = rowC (badV (.slice (some ⟨u.heap.size, 0, none⟩) 1 1) (.slice (some ⟨u.heap.size + 1, 0, none⟩) 1 1) (.slice (some ⟨u.heap.size + 1 + 1, 0, none⟩) 1 1) (.slice (some ⟨u.heap.size + 1 + 1 + 1, 0, none⟩) N N) (.slice (some ⟨W4.heap.size, 0, none⟩) 1 1) (.slice (some ⟨W4.heap.size + 1, 0, none⟩) 1 1) D) →
      Hid (Below u.heap.size u (((W4.alloc (.cells #[.int .i64 1] 3)).alloc (.cells #[.int .i64 1] 3)).alloc (.cells cs 49))) ∧
      Hid (PIn (fun _ => True) (((W4.alloc (.cells #[.int .i64 1] 3)).alloc (.cells #[.int .i64 1] 3)).alloc (.cells cs 49)) (.slice (some ⟨W4.heap.size + 1 + 1, 0, none⟩) 15 15) (badsL D)) := by
  subst hN
  obtain ⟨W4, hmk, hown, hbel⟩ := lmake_big (((u.alloc (.cells #[.int .i64 1] 3)).alloc (.cells #[.int .i64 256] 3)).alloc (.cells #[.int .i64 (-(D : Int))] 3)) (512 + D) (by omega)
  refine ⟨W4, ?_, fun cs hcs => ?_⟩
  · rw [hmk]; simp
  have b3 : Below u.heap.size u (((u.alloc (.cells #[.int .i64 1] 3)).alloc (.cells #[.int .i64 256] 3)).alloc (.cells #[.int .i64 (-(D : Int))] 3)) := below_then (below_then (below_new _ _) (below_new _ _)) (below_new _ _)
  have b7 : Below W4.heap.size W4 (((W4.alloc (.cells #[.int .i64 1] 3)).alloc (.cells #[.int .i64 1] 3)).alloc (.cells cs 49)) := below_then (below_then (below_new _ _) (below_new _ _)) (below_new _ _)
  have b47 := below_then hbel b7
  have hw : ∀ g (L : List Int) n, L.length = n → RIn (fun _ => True) (((u.alloc (.cells #[.int .i64 1] 3)).alloc (.cells #[.int .i64 256] 3)).alloc (.cells #[.int .i64 (-(D : Int))] 3)) (.slice (some ⟨g, 0, none⟩) n n) L → RIn (fun _ => True) (((W4.alloc (.cells #[.int .i64 1] 3)).alloc (.cells #[.int .i64 1] 3)).alloc (.cells cs 49)) (.slice (some ⟨g, 0, none⟩) n n) L := fun g L n _ h => rin_below h b47
  have ra : RIn (fun _ => True) _ (.slice (some ⟨u.heap.size, 0, none⟩) 1 1) [1] := hw _ _ _ rfl (rin_below (rin_below (rin_new u 1) (below_new _ (.cells #[.int .i64 256] 3))) (below_new _ (.cells #[.int .i64 (-(D : Int))] 3)))
  have rb : RIn (fun _ => True) _ (.slice (some ⟨u.heap.size + 1, 0, none⟩) 1 1) [256] := hw _ _ _ rfl (rin_below (by have := rin_new (u.alloc (.cells #[.int .i64 1] 3)) 256; simpa using this) (below_new _ (.cells #[.int .i64 (-(D : Int))] 3)))
  have rc : RIn (fun _ => True) _ (.slice (some ⟨u.heap.size + 1 + 1, 0, none⟩) 1 1) [-(D : Int)] := hw _ _ _ rfl (by have := rin_new ((u.alloc (.cells #[.int .i64 1] 3)).alloc (.cells #[.int .i64 256] 3)) (-(D : Int)); simpa using this)
  have rm : RIn (fun _ => True) (((W4.alloc (.cells #[.int .i64 1] 3)).alloc (.cells #[.int .i64 1] 3)).alloc (.cells cs 49)) (.slice (some ⟨u.heap.size + 1 + 1 + 1, 0, none⟩) (512 + D) (512 + D)) (List.replicate (512 + D) 0) := by
    have ho : Owns 0 W4 (.slice (some ⟨u.heap.size + 1 + 1 + 1, 0, none⟩) (512 + D) (512 + D)) (List.replicate (512 + D) 0) := by
      have h := own_mono hown (Nat.zero_le _)
      unfold Owns
      simpa using h
    exact rin_below ((rin_own ho).mono fun _ _ _ => trivial) b7
  have re : RIn (fun _ => True) (((W4.alloc (.cells #[.int .i64 1] 3)).alloc (.cells #[.int .i64 1] 3)).alloc (.cells cs 49)) (.slice (some ⟨W4.heap.size, 0, none⟩) 1 1) [1] := rin_below (rin_below (rin_new W4 1) (below_new _ (.cells #[.int .i64 1] 3))) (below_new _ (.cells cs 49))
  have rf : RIn (fun _ => True) (((W4.alloc (.cells #[.int .i64 1] 3)).alloc (.cells #[.int .i64 1] 3)).alloc (.cells cs 49)) (.slice (some ⟨W4.heap.size + 1, 0, none⟩) 1 1) [1] := rin_below (by have := rin_new (W4.alloc (.cells #[.int .i64 1] 3)) 1; simpa using this) (below_new _ (.cells cs 49))
  refine ⟨below_then (below_then b3 hbel) b7, ?_⟩
  have hg : (((W4.alloc (.cells #[.int .i64 1] 3)).alloc (.cells #[.int .i64 1] 3)).alloc (.cells cs 49)).heap[W4.heap.size + 1 + 1]? = some (.cells cs 49 (0, 0)) := by
    have := heap_alloc_new ((W4.alloc (.cells #[.int .i64 1] 3)).alloc (.cells #[.int .i64 1] 3)) (.cells cs 49)
    simpa using this
  refine pin_lit _ hg hcs rfl (Nat.le_refl _) trivial ?_
  intro q hq
  unfold badV at hq
  simp only [List.mem_cons, List.not_mem_nil, or_false] at hq
  rcases hq with rfl | rfl | rfl | rfl | rfl | rfl | rfl | rfl | rfl | rfl | rfl | rfl | rfl | rfl | rfl
  · exact rin_nil _ _
  · exact rin_nil _ _
  · exact ra
  · exact rb
  · exact rc
  · exact rm
  · exact rin_nil _ _
  · exact rin_nil _ _
  · exact rin_nil _ _
  · exact rin_nil _ _
  · exact rin_nil _ _
  · exact rin_nil _ _
  · exact re
  · exact rf
  · exact rin_nil _ _
/-- One of the fifteen, as the walk reads it. -/
theorem bad_at {w : World} {g D I : Nat} (h : PIn (fun _ => True) w (.slice (some ⟨g, 0, none⟩) 15 15) (badsL D)) (h1 : 1 ≤ D) (h2 : D ≤ 1024) (hI : I < 15) :
    ∃ ba bm bc l L c r, RIn (fun _ => True) w (.slice ba bm bc) L ∧ w.cell? ⟨g, I * 4, none⟩ = some (.int .i64 l) ∧ w.cell? ⟨g, I * 4 + 1, none⟩ = some (.slice ba bm bc) ∧ w.cell? ⟨g, I * 4 + 2, none⟩ = some (.int .i64 c) ∧ w.cell? ⟨g, I * 4 + 3, none⟩ = some (.int .i64 r) ∧ Hid (okR [(0, [], 3, 0), (l, L, c, r)] = false ∧ PFit [(0, [], 3, 0), (l, L, c, r)]) := by
  obtain ⟨⟨l, L, c, r⟩, hp, hno, hl⟩ := bads_no D h1 h2 I hI
  obtain ⟨a, cap, e, -, hc⟩ := h
  injection e with e1 e2 e3
  obtain ⟨g', o, e, -, hat⟩ := hc (by show 0 < 15; omega)
  rw [← e1] at e
  injection e with e
  injection e with eg eo en
  subst eg; subst eo
  obtain ⟨bv, hr, c0, c1, c2, c3⟩ := hat I _ hp
  simp only [Nat.zero_add] at c0 c1 c2 c3
  have hr' := hr
  obtain ⟨ba, bc, rfl, -⟩ := hr'
  exact ⟨ba, _, bc, l, L, c, r, hr, c0, c1, c2, c3, bad_row _ hno hl⟩
/-- The row of two that the law makes. -/
theorem two_made (w : World) (bv : Value) (l c r : Int) (L : List Int) (h : RIn (fun _ => True) w bv L) :
    PReads (w.alloc (.cells #[.int .i64 0, .slice none 0 0, .int .i64 3, .int .i64 0, .int .i64 l, bv, .int .i64 c, .int .i64 r] 49)) (.slice (some ⟨w.heap.size, 0, none⟩) 2 2) [(0, [], 3, 0), (l, L, c, r)] := by
  refine (pin_lit (Q := fun _ => True) [(.slice none 0 0, (0, [], 3, 0)), (bv, (l, L, c, r))] (heap_alloc_new _ _) rfl rfl (Nat.le_refl _) trivial ?_).reads
  intro q hq
  simp at hq
  rcases hq with rfl | rfl
  · exact rin_nil _ _
  · exact rin_below h (below_new _ _)
/-- No phases driven. -/
theorem nil_drive (A : ByteArray) : Hid ((drvS (newSt A) [] (-1)).A = A) ∧ Hid (drvL (newSt A) [] (-1) = []) ∧ Hid (endN [] (-1) = 0) ∧ Hid (whB [] (-1) = true) ∧ Hid (okR [] = true) ∧ Hid (PFit []) := by
  refine ⟨?_, rfl, rfl, rfl, rfl, ⟨by decide, fun q hq => by cases hq⟩⟩
  have h := (drv_whole (newSt A) [] (-1) rfl).1
  rw [Hid, h]
  rfl
theorem pin_nil (Q : Nat → Prop) (w : World) : PIn Q w (.slice none 0 0) [] := ⟨none, 0, rfl, Nat.le_refl _, fun h => absurd h (by simp)⟩
end Go.Proofs.YtjhjghakfedeeaaGreat
