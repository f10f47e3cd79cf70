/-
  Blocks of memory: a block holds these cells; what a store, a new block and a call elsewhere leave of it. No conditions but those of each statement.
-/
import Derived.Test.YtbcdfobclliboaaInts
import Derived.Deep.MidRow
import Derived.Deep.WholeRow
namespace Go.Proofs.Ytbcdfobclliboaa
open Go.RowKit
set_option linter.unusedVariables false

/-- Block b holds the cells L, of an object of type T. -/
def Blk (w : World) (b : Nat) (T : TypeId) (L : List Value) : Prop := w.heap[b]? = some (.cells L.toArray T (0, 0))
theorem Blk.lt {w : World} {b : Nat} {T : TypeId} {L : List Value} (h : Blk w b T L) : b < w.heap.size := by
  rcases Nat.lt_or_ge b w.heap.size with hlt | hge
  · exact hlt
  · unfold Blk at h; rw [Array.getElem?_eq_none hge] at h; cases h
theorem Blk.cell {w : World} {b : Nat} {T : TypeId} {L : List Value} (h : Blk w b T L) (i : Nat) {v : Value} (e : L[i]? = some v) : w.cell? ⟨b, i, none⟩ = some v := by
  unfold Blk at h
  unfold World.cell?
  simp [h, e]
theorem Blk.frozen {w : World} {b : Nat} {T : TypeId} {L : List Value} (h : Blk w b T L) (i : Nat) : w.frozen? ⟨b, i, none⟩ = false := by
  unfold Blk at h
  unfold World.frozen?
  simp [h]
theorem Blk.range {w : World} {b : Nat} {T : TypeId} {L : List Value} (h : Blk w b T L) (o : Nat) (cs : List Value) (e : (L.drop o).take cs.length = cs) : w.rangeAt b o cs := fun j v hv => by
  refine h.cell (o + j) ?_
  rw [← e, List.getElem?_take] at hv
  split at hv
  · rw [List.getElem?_drop] at hv; exact hv
  · cases hv
theorem Blk.there {w : World} {b : Nat} {T : TypeId} {L : List Value} (h : Blk w b T L) (o n : Nat) (hn : o + n ≤ L.length) : w.there b o n := fun j hj =>
  ⟨by rw [h.cell (o + j) (List.getElem?_eq_getElem (by omega))]; rfl, h.frozen _⟩
theorem Blk.set {w : World} {b : Nat} {T : TypeId} {L : List Value} (h : Blk w b T L) (i : Nat) (v : Value) : Blk (w.setCell ⟨b, i, none⟩ v) b T (L.set i v) := by
  have hl := h.lt
  unfold Blk at h ⊢
  unfold World.setCell
  simp [Array.getElem?_modify, h]
theorem Blk.sets {w : World} {b : Nat} {T : TypeId} {L : List Value} (h : Blk w b T L) (o : Nat) (vs : List Value) (hn : o + vs.length ≤ L.length) : Blk (w.setCells b o vs) b T (L.take o ++ vs ++ L.drop (o + vs.length)) := by
  induction vs generalizing w L o with
  | nil => simpa [World.setCells] using h
  | cons v r ih =>
    have h1 := ih (h.set o v) (o + 1) (by simp at hn ⊢; omega)
    have e : (L.set o v).take (o + 1) ++ r ++ (L.set o v).drop (o + 1 + r.length) = L.take o ++ v :: r ++ L.drop (o + (v :: r).length) := by
      have ho : o < L.length := by simp at hn; omega
      rw [List.take_set, List.drop_set_of_lt (by omega), show (L.take (o + 1)).set o v = L.take o ++ [v] from ?_]
      · simp [Nat.add_assoc, Nat.add_comm 1]
      · rw [← List.take_append_getElem ho, List.set_append_right _ _ (by simp; omega), List.length_take, Nat.min_eq_left (Nat.le_of_lt ho), Nat.sub_self]
        rfl
    rw [e] at h1
    exact h1
theorem Blk.other {w : World} {b : Nat} {T : TypeId} {L : List Value} (h : Blk w b T L) (c i : Nat) (v : Value) (hc : c ≠ b) : Blk (w.setCell ⟨c, i, none⟩ v) b T L := by
  unfold Blk at h ⊢
  rw [Below.heap_setCell _ _ _ _ (by exact Ne.symm hc)]
  exact h
theorem Blk.below {w w' : World} {b : Nat} {T : TypeId} {L : List Value} (h : Blk w b T L) (hb : Below w.heap.size w w') : Blk w' b T L := by
  have hl := h.lt
  unfold Blk at h ⊢
  rw [hb.block b hl]
  exact h
theorem Blk.alloc {w : World} {b : Nat} {T : TypeId} {L : List Value} (h : Blk w b T L) (o : Obj) : Blk (w.alloc o) b T L := h.below ((Below.refl _ _).alloc (Nat.le_refl _) _)
theorem Blk.drew {w : World} {b : Nat} {T : TypeId} {L : List Value} (h : Blk w b T L) : Blk w.drew b T L := h
theorem Blk.new (w : World) (T : TypeId) (L : List Value) (cs : Array Value) (e : cs = L.toArray) : Blk (w.alloc (.cells cs T)) w.heap.size T L := by
  subst e
  unfold Blk
  exact heap_alloc_new _ _

/-- Nothing of the blocks that were there turned, but block b. -/
structure Only (b : Nat) (w w' : World) : Prop where
  os : w'.os = w.os
  tape : w'.tape = w.tape
  output : w'.output = w.output
  size : w.heap.size ≤ w'.heap.size
  block : ∀ k, k < w.heap.size → k ≠ b → w'.heap[k]? = w.heap[k]?
theorem Only.refl (b : Nat) (w : World) : Only b w w := ⟨rfl, rfl, rfl, Nat.le_refl _, fun _ _ _ => rfl⟩
theorem Only.trans {b : Nat} {u v w : World} (h : Only b u v) (k : Only b v w) : Only b u w :=
  ⟨k.os.trans h.os, k.tape.trans h.tape, k.output.trans h.output, Nat.le_trans h.size k.size, fun i hi hb => (k.block i (Nat.lt_of_lt_of_le hi h.size) hb).trans (h.block i hi hb)⟩
theorem Only.of_below {b : Nat} {v w : World} (h : Below v.heap.size v w) : Only b v w := ⟨h.os, h.tape, h.output, h.size, fun i hi _ => h.block i hi⟩
theorem Only.below {b : Nat} {u v w : World} (h : Only b u v) (k : Below v.heap.size v w) : Only b u w := h.trans (Only.of_below k)
theorem Only.set {b : Nat} {u v : World} (h : Only b u v) (i : Nat) (x : Value) : Only b u (v.setCell ⟨b, i, none⟩ x) :=
  ⟨h.os, h.tape, h.output, by simpa using h.size, fun j hj hb => by rw [Below.heap_setCell _ _ _ _ (by exact hb)]; exact h.block j hj hb⟩
theorem Only.sets {b : Nat} {u v : World} (h : Only b u v) (o : Nat) (vs : List Value) : Only b u (v.setCells b o vs) := by
  induction vs generalizing v o with
  | nil => exact h
  | cons x r ih => exact ih (h.set o x) (o + 1)
theorem Only.alloc {b : Nat} {u v : World} (h : Only b u v) (o : Obj) : Only b u (v.alloc o) := h.below ((Below.refl _ _).alloc (Nat.le_refl _) _)
theorem Only.drew {b : Nat} {u v : World} (h : Only b u v) : Only b u v.drew := ⟨h.os, h.tape, h.output, h.size, h.block⟩
theorem Only.drewN {b : Nat} {u v : World} (h : Only b u v) (n : Nat) : Only b u (v.drewN n) := h.below (below_drewN (Below.refl _ _) n)
/-- Where block b is one of the call's own, nothing that was there turned. -/
theorem Only.old {b B : Nat} {u v : World} (h : Only b u v) (hb : B ≤ b) (hB : B ≤ u.heap.size) : Below B u v := ⟨h.os, h.tape, h.output, h.size, fun i hi => h.block i (by omega) (by omega)⟩
theorem Only.blk {b c : Nat} {u v : World} {T : TypeId} {L : List Value} (h : Only b u v) (k : Blk u c T L) (hc : c ≠ b) : Blk v c T L := by
  have hl := k.lt
  unfold Blk at k ⊢
  rw [h.block c hl hc]
  exact k
theorem Only.cell {b : Nat} {u v : World} (h : Only b u v) {p : Addr} (hp : p.block < u.heap.size) (hb : p.block ≠ b) : v.cell? p = u.cell? p := World.cell?_of_block (w := u) (h.block p.block hp hb)

end Go.Proofs.Ytbcdfobclliboaa
