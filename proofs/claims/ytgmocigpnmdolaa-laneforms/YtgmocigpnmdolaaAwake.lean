/-
  The seat's first check (awake) answers true, in every world. No conditions.
-/
import Derived.Test.YtgmocigpnmdolaaRef
import Derived.Test.YtgmocigpnmdolaaSame
import Derived.Test.YtgmocigpnmdolaaIn
namespace Go.Proofs.Ytgmocigpnmdolaa
open Go.RowKit
set_option linter.unusedVariables false

theorem reads_lit {w : World} {g n : Nat} {cs : Array Value} (L : List Int) (hg : w.heap[g]? = some (.cells cs 3 (0, 0))) (hc : cs.toList = L.map (Value.int .i64)) (hn : L.length = n) (c : Nat) : Reads w (.slice (some ⟨g, 0, none⟩) n c) L := by
  subst hn
  refine ⟨_, c, rfl, fun hp => ⟨g, 0, rfl, fun j hj => ?_⟩⟩
  rw [Nat.zero_add, cell_of_row w g j cs 3 (0, 0) hg, ← Array.getElem?_toList, hc, List.getElem?_map, List.getD_eq_getElem?_getD, List.getElem?_eq_getElem hj]
  rfl
theorem in_good : inV [10, 5] 4 = 165 ∧ inE [10, 5] 4 = 0 := by
  have hok : inOk [10, 5] 4 := .inr ⟨rfl, rfl, fun j hj => by rcases (show j = 0 ∨ j = 1 by omega) with rfl | rfl <;> decide⟩
  exact ⟨by rw [inV, if_pos hok, if_neg (by omega)]; rfl, if_pos hok⟩
theorem in_bad : inE [16, 5] 4 = 300 := inE_no (no_four (.inr ⟨0, by omega, .inr (by decide)⟩))

theorem ones_short (x : Int) : (ones x).length * 8 ≤ 140737488351232 := by simp [ones]
theorem fours_short (x : Int) : (fours x).length * 8 ≤ 140737488351232 := by simp [fours]
theorem ones_at (x : Int) (j : Nat) (hj : j < 8) : 0 ≤ (ones x).getD j 0 ∧ (ones x).getD j 0 < 2 := by
  rcases (show j = 0 ∨ j = 1 ∨ j = 2 ∨ j = 3 ∨ j = 4 ∨ j = 5 ∨ j = 6 ∨ j = 7 by omega) with rfl | rfl | rfl | rfl | rfl | rfl | rfl | rfl <;> simp [ones] <;> omega
theorem fours_at (x : Int) (j : Nat) (hj : j < 2) : 0 ≤ (fours x).getD j 0 ∧ (fours x).getD j 0 < 16 := by
  rcases (show j = 0 ∨ j = 1 by omega) with rfl | rfl <;> simp [fours] <;> omega
theorem in_ones (x : Int) (h : 0 ≤ x ∧ x ≤ 255) : inV (ones x) 1 = x ∧ inE (ones x) 1 = 0 := by
  have hok : inOk (ones x) 1 := .inl ⟨rfl, rfl, ones_at x⟩
  exact ⟨by rw [inV, if_pos hok, if_pos rfl, acc_ones x h], if_pos hok⟩
theorem in_fours (x : Int) (h : 0 ≤ x ∧ x ≤ 255) : inV (fours x) 4 = x ∧ inE (fours x) 4 = 0 := by
  have hok : inOk (fours x) 4 := .inr ⟨rfl, rfl, fours_at x⟩
  exact ⟨by rw [inV, if_pos hok, if_neg (by omega), acc_fours x h], if_pos hok⟩
theorem in_ones_four (x : Int) : inE (ones x) 4 = 300 := inE_no (no_four (.inl (by simp [ones])))
theorem in_fours_one (x : Int) : inE (fours x) 1 = 300 := inE_no (no_one (.inl (by simp [fours])))
/-- A byte comes in that is none: whatever stands beside the error. -/
theorem in_bad_any (v : Value) (L : List Int) (k : Int) (w : World) (hv : Reads w v L) (hb : L.length * 8 ≤ 140737488351232) (h : inE L k = 300) :
    Calls Try.prog 11 #[v, .int .i64 k] w fun e w' => ∃ x : Int, e = .returned (.tuple #[.int .i64 x, .int .i64 300]) ∧ Below w.heap.size w w' :=
  (in_any v L k w hv hb).mono fun e w' ⟨he, hb⟩ => ⟨inV L k, by rw [he, h], hb⟩
theorem below_lit {a b : World} {o : Obj} (h : Below (a.alloc o).heap.size (a.alloc o) b) : Below a.heap.size a b := below_then ((Below.refl _ _).alloc (Nat.le_refl _) _) h
theorem below_new (a : World) (o : Obj) : Below a.heap.size a (a.alloc o) := (Below.refl _ _).alloc (Nat.le_refl _) _
theorem out_bad (b k : Int) (w : World) (h : ¬ ((k = 1 ∨ k = 4) ∧ 0 ≤ b ∧ b ≤ 255)) :
    Calls Try.prog 9 #[.int .i64 b, .int .i64 k] w fun e w' => ∃ v, e = .returned (.tuple #[v, .int .i64 300]) ∧ Below w.heap.size w w' :=
  (out_none b k w h).mono fun e w' ⟨v, he, _, hb⟩ => ⟨v, by rw [he, outE, if_neg h], hb⟩

set_option maxRecDepth 100000 in
set_option maxHeartbeats 2000000 in
theorem awake_any (w : World) :
    Calls Try.prog 17 #[] w fun e w' => e = .returned (.bool true) ∧ Below w.heap.size w w' := by
  go_enter Try.func17, Try.ntmps17
  go_wp2_with fail
  refine (out_one 165 _ (by omega)).mono ?_
  rintro e w1 ⟨g1, c1, rfl, o1, b1⟩
  go_wp2_with fail
  refine (out_four 165 _ (by omega)).mono ?_
  rintro e w2 ⟨g2, c2, rfl, o2, b2⟩
  have r1 : Hid (Reads w2 _ _) := o1.reads.below b2
  have r2 : Hid (Reads w2 _ _) := o2.reads
  have bel : Hid (Below w.heap.size w w2) := below_then b1 b2
  clear o1 o2 b1 b2
  go_wp2_with fail
  refine (in_any _ [10, 5] 4 _ (reads_lit (cs := #[.int .i64 10, .int .i64 5]) [10, 5] (heap_alloc_new _ _) rfl rfl 2) (by decide)).mono ?_
  rintro e w3 ⟨rfl, b3⟩
  rw [in_good.1, in_good.2]
  replace b3 := below_lit b3
  have r1 : Hid (Reads w3 _ _) := r1.out.below b3
  have r2 : Hid (Reads w3 _ _) := r2.out.below b3
  have bel : Hid (Below w.heap.size w w3) := below_then bel.out b3
  clear b3
  go_wp2_with fail
  refine (in_any _ [16, 5] 4 _ (reads_lit (cs := #[.int .i64 16, .int .i64 5]) [16, 5] (heap_alloc_new _ _) rfl rfl 2) (by decide)).mono ?_
  rintro e w4 ⟨rfl, b4⟩
  rw [in_bad]
  obtain ⟨x, hx⟩ : ∃ x, x = inV [16, 5] 4 := ⟨_, rfl⟩
  rw [← hx]
  clear hx
  replace b4 := below_lit b4
  go_wp2_with fail
  refine (out_bad 256 1 _ (by omega)).mono ?_
  rintro e w5 ⟨v5, rfl, b5⟩
  go_wp2_with fail
  refine (out_bad 1 2 _ (by omega)).mono ?_
  rintro e w6 ⟨v6, rfl, b6⟩
  have r1 : Hid (Reads w6 _ _) := ((r1.out.below b4).below b5).below b6
  have r2 : Hid (Reads w6 _ _) := ((r2.out.below b4).below b5).below b6
  have bel : Hid (Below w.heap.size w w6) := below_then (below_then (below_then bel.out b4) b5) b6
  clear b4 b5 b6
  go_wp2_with fail
  refine (same_any _ _ (ones 165) [1, 0, 1, 0, 0, 1, 0, 1] _ (r1.out.below (below_new _ _)) (reads_lit (cs := #[.int .i64 1, .int .i64 0, .int .i64 1, .int .i64 0, .int .i64 0, .int .i64 1, .int .i64 0, .int .i64 1]) [1, 0, 1, 0, 0, 1, 0, 1] (heap_alloc_new _ _) rfl rfl 8) (by decide) (by decide)).mono ?_
  rintro e w7 ⟨rfl, b7⟩
  rw [show decide (ones 165 = [1, 0, 1, 0, 0, 1, 0, 1]) = true from by decide]
  replace b7 := below_lit b7
  have r2 : Hid (Reads w7 _ _) := r2.out.below b7
  have bel : Hid (Below w.heap.size w w7) := below_then bel.out b7
  clear b7 r1
  go_wp2_with (go_at_call 14; refine (num_any _ _).mono ?_; rintro e w' ⟨rfl, rfl⟩)
  refine (same_any _ _ (fours 165) [10, 5] _ (r2.out.below (below_new _ _)) (reads_lit (cs := #[.int .i64 10, .int .i64 5]) [10, 5] (heap_alloc_new _ _) rfl rfl 2) (by decide) (by decide)).mono ?_
  rintro e w8 ⟨rfl, b8⟩
  rw [show decide (fours 165 = [10, 5]) = true from by decide]
  replace b8 := below_lit b8
  have bel : Hid (Below w.heap.size w w8) := below_then bel.out b8
  clear b8 r2
  go_wp2_with (go_at_call 14; refine (num_any _ _).mono ?_; rintro e w' ⟨rfl, rfl⟩)
  go_ret
  exact ⟨rfl, bel.out⟩
end Go.Proofs.Ytgmocigpnmdolaa
