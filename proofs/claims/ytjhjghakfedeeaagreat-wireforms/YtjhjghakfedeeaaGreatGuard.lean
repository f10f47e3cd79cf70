/-
  Rows of a walk that are cut, copied or made, and clocks said from a part of a row. Conditions: those of each statement.
-/
import Derived.Test.YtjhjghakfedeeaaGreatTold2
import Derived.Test.YtjhjghakfedeeaaGreatCalls
namespace Go.Proofs.YtjhjghakfedeeaaGreat
open Go.RowKit Plain
set_option linter.unusedVariables false

theorem reads_take {w : World} {g n c : Nat} {L : List Int} (h : Reads w (.slice (some ⟨g, 0, none⟩) n c) L) (k c' : Nat) (hk : k ≤ L.length) : Reads w (.slice (some ⟨g, 0, none⟩) k c') (L.take k) := by
  obtain ⟨a, cap, e, hr⟩ := h
  have hl : (L.take k).length = k := by rw [List.length_take]; omega
  refine ⟨some ⟨g, 0, none⟩, c', by rw [hl], fun h0 => ⟨g, 0, rfl, fun j hj => ?_⟩⟩
  rw [hl] at h0 hj
  obtain ⟨g', o', e2, hc⟩ := hr (by omega)
  simp only [Value.slice.injEq] at e
  rw [← e.1] at e2
  simp only [Option.some.injEq, Addr.mk.injEq] at e2
  obtain ⟨rfl, rfl, _⟩ := e2
  rw [hc j (by omega), List.getD_eq_getElem?_getD, List.getD_eq_getElem?_getD, List.getElem?_take, if_pos hj]
theorem part_reads {B : Nat} {w : World} {g n c : Nat} {L : List Nat} (h : Hid (Owns B w (.slice (some ⟨g, 0, none⟩) n c) (nums L))) (k c' : Nat) (hk : k ≤ L.length) : Reads w (.slice (some ⟨g, 0, none⟩) k c') (nums (L.take k)) := by
  have h1 := reads_take h.out.reads k c' (by rw [nums_length]; exact hk)
  unfold nums at h1 ⊢
  rw [← List.map_take] at h1
  exact h1
theorem make_ints (w : World) (n : Nat) (hn : n ≤ 1000) : ∃ W1, (Instr.makeSlice 23 (.int .i64 (n : Int)) (.int .i64 (n : Int))).run Tryz.prog w = .ok (.slice (some ⟨w.heap.size, 0, none⟩) n n) W1 ∧
    Owns w.heap.size W1 (.slice (some ⟨w.heap.size, 0, none⟩) n n) (List.replicate n 0) ∧ Below w.heap.size w W1 := by
  refine ⟨_, run_make_row' (P := Tryz.prog) 23 3 (.int .i64 0) 8 Tryz.underlying23 info3 rfl .i64 .i64 n (by omega) (by omega) w, ?_, (Below.refl _ _).alloc (Nat.le_refl _) _⟩
  have h := World.ownsRow_lit (base := w.heap.size) (e := 3) (size := 1) w (madeCells #[Value.int .i64 0] n) n (Nat.le_refl _) (by unfold maxLen; omega) (by rw [← Array.length_toList, toList_madeCells_one]; simp)
  rw [toList_madeCells_one] at h
  unfold Owns
  simpa using h
theorem make8 : ∃ cs : Array Value, (∀ v : World, (Instr.makeSlice 23 (.int .i64 8) (.int .i64 8)).run Tryz.prog v = .ok (.slice (some ⟨v.heap.size, 0, none⟩) 8 8) (v.alloc (.cells cs 3))) ∧ Hid (cs.toList = (List.replicate 8 0).map (Value.int .i64)) :=
  ⟨madeCells #[Value.int .i64 0] 8, fun v => run_make_row' (P := Tryz.prog) 23 3 (.int .i64 0) 8 Tryz.underlying23 info3 rfl .i64 .i64 8 (by omega) (by omega) v, by rw [Hid, toList_madeCells_one]; rfl⟩
theorem wipes_at (b : Nat) (s : St) (u w : World) (h : Hid (Run 0 b u w s)) :
    Calls Tryz.prog 67 #[.pointer (some ⟨b, 0, none⟩)] w fun e w' => ∃ a c, e = .returned (.slice a 8 c) ∧ Hid (Reads w' (.slice a 8 c) (wipeL s)) ∧ Below w.heap.size w w' :=
  (wipes_lies 0 b s w h.out.lies).mono fun e w' ⟨a, c, h1, h2, h3⟩ => ⟨a, c, h1, h2.reads, h3⟩
theorem same8 (u v : Value) (s : St) (A : ByteArray) (w : World) (hc : Hid (s.Calm A)) (hu : Reads w u (wipeL s)) (hv : Reads w v (List.replicate 8 0)) :
    Calls Tryz.prog 20 #[u, v] w fun e w' => e = .returned (.bool true) ∧ Below w.heap.size w w' := by
  have h := same_any u v (wipeL s) (List.replicate 8 0) w hu hv (by show 8 * 8 ≤ 140737488351232; omega) (by decide)
  rw [show decide (wipeL s = List.replicate 8 0) = true from decide_eq_true (by
    unfold wipeL
    rw [hc.out.wipes, hc.out.wipes, hc.out.wipes, hc.out.wipes, hc.out.wipes, hc.out.wipes, hc.out.wipes, hc.out.wipes]
    rfl)] at h
  exact h
theorem src_cells {B : Nat} {w : World} {g n c : Nat} {L : List Nat} (h : Hid (Owns B w (.slice (some ⟨g, 0, none⟩) n c) (nums L))) (o : Obj) : Hid (∀ j u, ((nums L).map (Value.int .i64))[j]? = some u → (w.alloc o).cell? ((⟨g, 0, none⟩ : Addr).add j) = some u) := fun j u hj => by
  have hjl : j < L.length := by
    have := (List.getElem?_eq_some_iff.1 hj).1
    simpa [nums_length] using this
  have h1 := owns_cell h j hjl
  rw [add_zero, World.cell?_alloc_past _ _ _ (cell_lt h1), h1]
  rw [List.getElem?_map] at hj
  unfold nums at hj
  rw [List.getElem?_map] at hj
  rw [List.getD_eq_getElem?_getD]
  cases e : L[j]? with
  | none => rw [e] at hj; cases hj
  | some y => rw [e] at hj; exact hj
theorem owns_owned {B : Nat} {w : World} {g n c : Nat} {L : List Int} (h : Hid (Owns B w (.slice (some ⟨g, 0, none⟩) n c) L)) (hn : L.length = n) (h0 : 0 < n) : B ≤ g := owns_block h.out g rfl (by omega)
theorem wipeL_calm {s : St} {A : ByteArray} (h : s.Calm A) : wipeL s = List.replicate 8 0 := by
  unfold wipeL
  rw [h.wipes, h.wipes, h.wipes, h.wipes, h.wipes, h.wipes, h.wipes, h.wipes]
  rfl
end Go.Proofs.YtjhjghakfedeeaaGreat
