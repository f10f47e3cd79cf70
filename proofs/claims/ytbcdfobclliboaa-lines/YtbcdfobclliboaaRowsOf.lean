/-
  A row of bytes in a block of the call's own: what a store, a draw and the two conversions between texts and bytes do to it. No conditions but those of each statement.
-/
import Derived.Test.YtbcdfobclliboaaProg
import Derived.Test.YtbcdfobclliboaaPlain
import Derived.WalkKit
import Derived.KernelRfl
import Derived.Deep.Draws
import Derived.Deep.OwnRows
namespace Go.Proofs.Ytbcdfobclliboaa
open Go.RowKit Plain

/-- Block g holds n bytes, the j-th is f j, and they may be written. -/
def Bytes (w : World) (g n : Nat) (f : Nat → UInt8) : Prop :=
  ∀ j, j < n → w.cell? ⟨g, j, none⟩ = some (.int .u8 ((f j).toNat : Int)) ∧ w.frozen? ⟨g, j, none⟩ = false

theorem Bytes.congr {w : World} {g n : Nat} {f f' : Nat → UInt8} (h : Bytes w g n f) (e : ∀ j, j < n → f j = f' j) : Bytes w g n f' :=
  fun j hj => by rw [← e j hj]; exact h j hj
theorem Bytes.cell_is {w : World} {g n : Nat} {f : Nat → UInt8} (h : Bytes w g n f) (j : Nat) (hj : j < n) {x : UInt8} (e : f j = x) : w.cell? ⟨g, j, none⟩ = some (.int .u8 (x.toNat : Int)) := by
  rw [← e]; exact (h j hj).1
theorem Bytes.drewN {w : World} {g n : Nat} {f : Nat → UInt8} (h : Bytes w g n f) (k : Nat) : Bytes (w.drewN k) g n f :=
  fun j hj => by rw [World.cell?_drewN, World.frozen?_drewN]; exact h j hj
theorem Bytes.drew {w : World} {g n : Nat} {f : Nat → UInt8} (h : Bytes w g n f) : Bytes w.drew g n f := h
theorem Bytes.set {w : World} {g n : Nat} {f : Nat → UInt8} (h : Bytes w g n f) (k : Nat) (hk : k < n) (x : UInt8) :
    Bytes (w.setCell ⟨g, k, none⟩ (.int .u8 (x.toNat : Int))) g n (fun j => if j = k then x else f j) := fun j hj => by
  rw [World.frozen?_setCell]
  refine ⟨?_, (h j hj).2⟩
  by_cases e : j = k
  · subst e
    rw [World.cell?_setCell_same w _ _ (h j hj).1]; simp
  · rw [World.cell?_setCell_other w _ _ _ (by intro e'; injection e' with _ e2 _; exact e e2.symm)]
    simpa [e] using (h j hj).1
theorem Bytes.set_is {w : World} {g n : Nat} {f : Nat → UInt8} (h : Bytes w g n f) (k : Nat) (hk : k < n) {x : UInt8} {v : Int} (e : v = (x.toNat : Int)) :
    Bytes (w.setCell ⟨g, k, none⟩ (.int .u8 v)) g n (fun j => if j = k then x else f j) := by
  rw [e]; exact h.set k hk x
theorem Bytes.back {w : World} {g n : Nat} {f : Nat → UInt8} (h : Bytes w g n f) (cap : Nat) :
    (convert 59 9 (.slice (some ⟨g, 0, none⟩) n cap)).run Try.prog w = .ok (.string (tab n f)) w := by
  have e := run_convert_bytes_arg (P := Try.prog) w 59 5 Try.underlying59 Try.underlying5 g 0 n cap ((List.range n).map fun j => ((f j).toNat : Int)) (by simp) (fun i hi => by
    rw [Nat.zero_add, (h i hi).1]
    simp [hi]) 9 Try.underlying9
  rw [e, strOfNums_tab n f _ (by simp) (fun i hi => by simp [hi])]

/-- .. under a name, so that no step looks into the text. -/
theorem Bytes.back_is {w : World} {g n : Nat} {f f' : Nat → UInt8} (h : Bytes w g n f) (e : ∀ j, j < n → f j = f' j) (cap : Nat) :
    ∃ R : ByteArray, (convert 59 9 (.slice (some ⟨g, 0, none⟩) n cap)).run Try.prog w = .ok (.string R) w ∧ Hid (R = tab n f') :=
  ⟨_, h.back cap, tab_congr e⟩

theorem below_drewN {B : Nat} {a w : World} (h : Below B a w) (k : Nat) : Below B a (w.drewN k) :=
  ⟨h.os, by rw [World.tape_drewN]; exact h.tape, h.output, by rw [World.heap_drewN]; exact h.size, fun i hi => by rw [World.heap_drewN]; exact h.block i hi⟩

/-- '[]byte(s)': a row of the call's own, the text's bytes in it. -/
theorem to_bytes (w : World) (s : ByteArray) : ∃ W1 cap, (convert 9 59 (.string s)).run Try.prog w = .ok (.slice (some ⟨w.heap.size, 0, none⟩) s.size cap) W1 ∧ s.size ≤ cap ∧
    Bytes W1 w.heap.size s.size (ub s) ∧ Below w.heap.size w W1 ∧ w.heap.size < W1.heap.size := by
  refine ⟨_, _, run_bytes_of_string w 9 59 5 s Try.underlying9 Try.underlying59 Try.underlying5, grownCap_ge w s.size 0 5, fun j hj => ?_, ((Below.refl _ _).drew).alloc (Nat.le_refl _) _, ?_⟩
  · have hs : w.heap.size = w.drew.heap.size := rfl
    refine ⟨?_, ?_⟩
    · rw [hs, World.cell?_alloc_mark, bytesRow_at s _ j hj, ub_of s j hj]; rfl
    · rw [hs, World.frozen?_alloc_mark]
      have : (bytesRow s (grownCap w s.size 0 5)).size ≥ s.size := by
        unfold bytesRow
        rw [Array.size_append, Array.size_map]
        exact Nat.le_add_right _ _
      have h2 : ¬ (bytesRow s (grownCap w s.size 0 5)).size ≤ j := by omega
      simp [h2]
  · simp

theorem to_bytes_of (w : World) (s : ByteArray) (n : Nat) (hn : s.size = n) : ∃ W1 cap, (convert 9 59 (.string s)).run Try.prog w = .ok (.slice (some ⟨w.heap.size, 0, none⟩) n cap) W1 ∧ n ≤ cap ∧
    Bytes W1 w.heap.size n (ub s) ∧ Below w.heap.size w W1 ∧ w.heap.size < W1.heap.size := by
  subst hn
  exact to_bytes w s

/-- 'make([]byte, n)': a row of the call's own, zeros in it. -/
theorem make_bytes (w : World) (n : Nat) (hn : n ≤ 281474976710656) : ∃ W1, (Instr.makeSlice 59 (.int .i64 (n : Int)) (.int .i64 (n : Int))).run Try.prog w = .ok (.slice (some ⟨w.heap.size, 0, none⟩) n n) W1 ∧
    Bytes W1 w.heap.size n (fun _ => 0) ∧ Below w.heap.size w W1 ∧ w.heap.size < W1.heap.size := by
  have hinfo : (Try.prog.info? 5).map (fun i => (i.zero, i.size, i.bytes)) = some (some (.int .u8 0), 1, 1) := by kernel_rfl
  refine ⟨_, run_make_row' (P := Try.prog) 59 5 (.int .u8 0) 1 Try.underlying59 hinfo rfl .i64 .i64 n (by omega) (by omega) w, fun j hj => ⟨?_, ?_⟩, (Below.refl _ _).alloc (Nat.le_refl _) _, by simp⟩
  · rw [World.cell?_alloc_mark, ← Array.getElem?_toList, toList_madeCells_one]
    simp [hj]
  · rw [World.frozen?_alloc_mark]; simp
end Go.Proofs.Ytbcdfobclliboaa
