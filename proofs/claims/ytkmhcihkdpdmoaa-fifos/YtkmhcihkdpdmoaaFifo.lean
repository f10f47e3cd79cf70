/-
  The queue of package fifo as it lies in memory, and each of its calls by a contract. Conditions: the queue lies in memory as told.
-/
import Derived.Test.YtkmhcihkdpdmoaaBlocks
import Derived.BigQuiet
import Derived.BigRegion
import Derived.Deep.QuietTactic
import Derived.Deep.CutRange
import Derived.Deep.RegionHeld3
namespace Go.Proofs.Ytkmhcihkdpdmoaa
open Go.RowKit
set_option linter.unusedVariables false

/-- The cells of a queue: the ring, where it begins, how many are in. -/
def ringCells (R : List Int) (f c : Nat) : List Value := R.map (Value.int .i64) ++ [.int .i64 (f : Int), .int .i64 (c : Int)]
/-- The queue in block b: ring R, first f, count c. -/
def RingAt (w : World) (b : Nat) (R : List Int) (f c : Nat) : Prop := R.length = 16 ∧ Blk w b 42 (ringCells R f c)
/-- The queue in block b holds the row L. -/
def Fif (w : World) (b : Nat) (L : List Int) : Prop :=
  ∃ R f, f < 16 ∧ L.length ≤ 16 ∧ RingAt w b R f L.length ∧ ∀ j, j < L.length → R.getD ((f + j) % 16) 0 = L.getD j 0

theorem ringCells_ring (R : List Int) (f c i : Nat) (h : i < R.length) : (ringCells R f c)[i]? = some (.int .i64 (R.getD i 0)) := by
  unfold ringCells
  rw [List.getElem?_append_left (by simpa using h), List.getElem?_map, List.getD_eq_getElem?_getD, List.getElem?_eq_getElem h]; rfl
theorem ringCells_first (R : List Int) (f c : Nat) (h : R.length = 16) : (ringCells R f c)[16]? = some (.int .i64 (f : Int)) := by
  unfold ringCells
  rw [List.getElem?_append_right (by simp [h]), List.length_map, h]; rfl
theorem ringCells_count (R : List Int) (f c : Nat) (h : R.length = 16) : (ringCells R f c)[17]? = some (.int .i64 (c : Int)) := by
  unfold ringCells
  rw [List.getElem?_append_right (by simp [h]), List.length_map, h]; rfl
theorem ringCells_setRing (R : List Int) (f c i : Nat) (x : Int) (h : i < R.length) : (ringCells R f c).set i (.int .i64 x) = ringCells (R.set i x) f c := by
  unfold ringCells
  rw [List.set_append_left _ _ (by simpa using h), List.map_set]
theorem ringCells_setFirst (R : List Int) (f c f' : Nat) (h : R.length = 16) : (ringCells R f c).set 16 (.int .i64 (f' : Int)) = ringCells R f' c := by
  unfold ringCells
  rw [List.set_append_right _ _ (by simp [h]), List.length_map, h]; rfl
theorem ringCells_setCount (R : List Int) (f c c' : Nat) (h : R.length = 16) : (ringCells R f c).set 17 (.int .i64 (c' : Int)) = ringCells R f c' := by
  unfold ringCells
  rw [List.set_append_right _ _ (by simp [h]), List.length_map, h]; rfl

theorem RingAt.ring {w : World} {b : Nat} {R : List Int} {f c : Nat} (h : RingAt w b R f c) (i : Nat) (hi : i < 16) : w.cell? ⟨b, i, none⟩ = some (.int .i64 (R.getD i 0)) := h.2.cell i (ringCells_ring R f c i (by rw [h.1]; exact hi))
theorem RingAt.first {w : World} {b : Nat} {R : List Int} {f c : Nat} (h : RingAt w b R f c) : w.cell? ⟨b, 16, none⟩ = some (.int .i64 (f : Int)) := h.2.cell 16 (ringCells_first R f c h.1)
theorem RingAt.count {w : World} {b : Nat} {R : List Int} {f c : Nat} (h : RingAt w b R f c) : w.cell? ⟨b, 17, none⟩ = some (.int .i64 (c : Int)) := h.2.cell 17 (ringCells_count R f c h.1)
theorem RingAt.setRing {w : World} {b : Nat} {R : List Int} {f c : Nat} (h : RingAt w b R f c) (i : Nat) (hi : i < 16) (x : Int) : RingAt (w.setCell ⟨b, i, none⟩ (.int .i64 x)) b (R.set i x) f c := by
  refine ⟨by rw [List.length_set]; exact h.1, ?_⟩
  rw [← ringCells_setRing R f c i x (by rw [h.1]; exact hi)]
  exact h.2.set i _
theorem RingAt.setFirst {w : World} {b : Nat} {R : List Int} {f c : Nat} (h : RingAt w b R f c) (f' : Nat) : RingAt (w.setCell ⟨b, 16, none⟩ (.int .i64 (f' : Int))) b R f' c := by
  refine ⟨h.1, ?_⟩
  rw [← ringCells_setFirst R f c f' h.1]
  exact h.2.set 16 _
theorem RingAt.setCount {w : World} {b : Nat} {R : List Int} {f c : Nat} (h : RingAt w b R f c) (c' : Nat) : RingAt (w.setCell ⟨b, 17, none⟩ (.int .i64 (c' : Int))) b R f c' := by
  refine ⟨h.1, ?_⟩
  rw [← ringCells_setCount R f c c' h.1]
  exact h.2.set 17 _
theorem Fif.lt {w : World} {b : Nat} {L : List Int} (h : Fif w b L) : b < w.heap.size := by
  obtain ⟨R, f, _, _, h1, _⟩ := h; exact h1.2.lt
theorem Fif.le {w : World} {b : Nat} {L : List Int} (h : Fif w b L) : L.length ≤ 16 := by
  obtain ⟨R, f, _, h1, _⟩ := h; exact h1
theorem Fif.same {w w' : World} {b : Nat} {L : List Int} (h : Fif w b L) (e : w'.heap[b]? = w.heap[b]?) : Fif w' b L := by
  obtain ⟨R, f, h1, h2, h3, h4⟩ := h
  refine ⟨R, f, h1, h2, ⟨h3.1, ?_⟩, h4⟩
  have := h3.2
  unfold Blk at this ⊢
  rw [e]; exact this
theorem Fif.below {w w' : World} {b B : Nat} {L : List Int} (h : Fif w b L) (k : Below B w w') (hb : b < B) : Fif w' b L := h.same (k.block b hb)

theorem new_any (w : World) : Calls Try.prog 6 #[] w fun e w' => e = .returned (.pointer (some ⟨w.heap.size, 0, none⟩)) ∧ Fif w' w.heap.size [] ∧ Below w.heap.size w w' := by
  go_enter Try.func6, Try.ntmps6
  go_wp2
  go_ret
  refine ⟨rfl, ⟨List.replicate 16 0, 0, by decide, by decide, ⟨rfl, ?_⟩, fun j hj => absurd hj (by simp)⟩, below_new _ _⟩
  exact Blk.new _ 42 _ _ rfl

theorem place_any (b : Nat) (R : List Int) (f c k : Nat) (w : World) (h : RingAt w b R f c) (hf : f < 16) (hk : k ≤ 16) :
    Calls Try.prog 14 #[.pointer (some ⟨b, 0, none⟩), .int .i64 (k : Int)] w fun e w' => e = .returned (.int .i64 (((f + k) % 16 : Nat) : Int)) ∧ w = w' := by
  have c16 := h.first
  go_enter Try.func14, Try.ntmps14
  go_wp2
  go_ret
  exact ⟨rfl, rfl⟩

theorem len_any (b : Nat) (L : List Int) (w : World) (h : Fif w b L) :
    Calls Try.prog 12 #[.pointer (some ⟨b, 0, none⟩)] w fun e w' => e = .returned (.int .i64 (L.length : Int)) ∧ w = w' := by
  obtain ⟨R, f, h1, h2, h3, h4⟩ := h
  have c17 := h3.count
  clear h4
  go_enter Try.func12, Try.ntmps12
  go_wp2
  go_ret
  exact ⟨rfl, rfl⟩
theorem len_nil (w : World) : Calls Try.prog 12 #[.pointer none] w fun e w' => e = .returned (.int .i64 0) ∧ w = w' := by
  go_enter Try.func12, Try.ntmps12
  go_wp2
  go_ret
  exact ⟨rfl, rfl⟩
theorem push_nil (x : Int) (w : World) : Calls Try.prog 10 #[.pointer none, .int .i64 x] w fun e w' => e = .returned (.int .i64 1) ∧ w = w' := by
  go_enter Try.func10, Try.ntmps10
  go_wp2
  go_ret
  exact ⟨rfl, rfl⟩
theorem pop_nil (w : World) : Calls Try.prog 7 #[.pointer none] w fun e w' => e = .returned (.tuple #[.int .i64 0, .int .i64 1]) ∧ w = w' := by
  go_enter Try.func7, Try.ntmps7
  go_wp2
  go_ret2
  exact ⟨rfl, rfl⟩
theorem push_full (b : Nat) (L : List Int) (x : Int) (w : World) (h : Fif w b L) (hl : L.length = 16) :
    Calls Try.prog 10 #[.pointer (some ⟨b, 0, none⟩), .int .i64 x] w fun e w' => e = .returned (.int .i64 801) ∧ w = w' := by
  obtain ⟨R, f, h1, h2, h3, h4⟩ := h
  rw [hl] at h3
  have c17 : w.cell? ⟨b, 17, none⟩ = some (.int .i64 16) := h3.count
  clear h4 h2
  go_enter Try.func10, Try.ntmps10
  go_wp2
  go_ret
  exact ⟨rfl, rfl⟩
theorem pop_none (b : Nat) (w : World) (h : Fif w b []) :
    Calls Try.prog 7 #[.pointer (some ⟨b, 0, none⟩)] w fun e w' => e = .returned (.tuple #[.int .i64 0, .int .i64 800]) ∧ w = w' := by
  obtain ⟨R, f, h1, h2, h3, h4⟩ := h
  have c17 : w.cell? ⟨b, 17, none⟩ = some (.int .i64 0) := h3.count
  clear h4 h2
  go_enter Try.func7, Try.ntmps7
  go_wp2
  go_ret2
  exact ⟨rfl, rfl⟩
end Go.Proofs.Ytkmhcihkdpdmoaa
