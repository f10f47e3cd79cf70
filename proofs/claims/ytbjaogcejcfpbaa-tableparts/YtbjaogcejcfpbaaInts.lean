/-
  Rows of numbers as the calls of this seat hand them on: what a slice reads as, and that it reads so behind a call that wrote nothing old. No conditions but those of each statement.
-/
import Derived.Test.YtbjaogcejcfpbaaProg
import Derived.WalkKit
import Derived.WalkSpells
import Derived.WalkLawsBesides
import Derived.KernelRfl
import Derived.OwnWalk
import Derived.Below
import Derived.Deep.Draws
namespace Go.Proofs.Ytbjaogcejcfpbaa
open Go.RowKit
set_option linter.unusedVariables false

theorem ret_int {k : IntKind} {a b : Int} (h : a = b) : Ending.returned (.int k a) = .returned (.int k b) := by rw [h]
theorem ret_bool {a b : Bool} (h : a = b) : Ending.returned (.bool a) = .returned (.bool b) := by rw [h]

theorem info3 : (Try.prog.info? 3).map (fun i => (i.zero, i.size, i.bytes)) = some (some (.int .i64 0), 1, 8) := by kernel_rfl

/-- The slice v reads as the numbers L. -/
def Reads (w : World) (v : Value) (L : List Int) : Prop :=
  ∃ a cap, v = .slice a L.length cap ∧ (0 < L.length → ∃ g o, a = some ⟨g, o, none⟩ ∧ ∀ j, j < L.length → w.cell? ⟨g, o + j, none⟩ = some (.int .i64 (L.getD j 0)))
/-- The slice v, in memory laid since block B, reads as the numbers L and may be written. -/
def Owns (B : Nat) (w : World) (v : Value) (L : List Int) : Prop := w.ownsRow B 3 1 v L.length (L.map (Value.int .i64))

theorem cell_lt {w : World} {a : Addr} {x : Value} (h : w.cell? a = some x) : a.block < w.heap.size := by
  rcases Nat.lt_or_ge a.block w.heap.size with hlt | hge
  · exact hlt
  · rw [World.cell?, Array.getElem?_eq_none hge] at h; cases h
theorem Reads.below {w w' : World} {v : Value} {L : List Int} (h : Reads w v L) (b : Below w.heap.size w w') : Reads w' v L := by
  obtain ⟨a, cap, rfl, h2⟩ := h
  refine ⟨a, cap, rfl, fun hp => ?_⟩
  obtain ⟨g, o, rfl, hc⟩ := h2 hp
  exact ⟨g, o, rfl, fun j hj => (b.cell (by exact cell_lt (hc j hj))).trans (hc j hj)⟩
theorem Reads.below' {w w' : World} {v : Value} {L : List Int} {B : Nat} (h : Reads w v L) (b : Below B w w') (hB : ∀ g o n c, v = .slice (some ⟨g, o, none⟩) n c → g < B) : Reads w' v L := by
  obtain ⟨a, cap, rfl, h2⟩ := h
  refine ⟨a, cap, rfl, fun hp => ?_⟩
  obtain ⟨g, o, rfl, hc⟩ := h2 hp
  exact ⟨g, o, rfl, fun j hj => (b.cell (by exact hB _ _ _ _ rfl)).trans (hc j hj)⟩
theorem Owns.reads {B : Nat} {w : World} {v : Value} {L : List Int} (h : Owns B w v L) : Reads w v L := by
  have h0 : w.ownsRow B 3 1 v L.length (L.map (Value.int .i64)) := h
  rcases h.2 with ⟨rfl, hn⟩ | ⟨g, cap, cur, rfl, hb, hg, hnc, hcm, hcs, ht⟩
  · exact ⟨none, 0, by rw [hn], fun hp => by omega⟩
  · refine ⟨some ⟨g, 0, none⟩, cap, rfl, fun hp => ⟨g, 0, rfl, fun j hj => ?_⟩⟩
    rw [Nat.zero_add, h0.cellAt j (by omega), List.getElem?_map, List.getD_eq_getElem?_getD, List.getElem?_eq_getElem hj]
    rfl
theorem Owns.below {B B' : Nat} {w w' : World} {v : Value} {L : List Int} (h : Owns B w v L) (b : Below w.heap.size w w') (hB : B' ≤ B) : Owns B' w' v L := by
  refine ⟨h.1, ?_⟩
  rcases h.2 with h2 | ⟨g, cap, cur, hv, hb, hg, hr⟩
  · exact .inl h2
  · have hlt : g < w.heap.size := by
      rcases Nat.lt_or_ge g w.heap.size with hlt | hge
      · exact hlt
      · rw [Array.getElem?_eq_none hge] at hg; cases hg
    exact .inr ⟨g, cap, cur, hv, by omega, (b.block g hlt).trans hg, hr⟩
theorem Owns.lit {w : World} (L : List Int) (n : Nat) (cs : Array Value) (hc : cs.toList = L.map (Value.int .i64)) (hn : L.length = n) (hm : n ≤ maxLen) : Owns w.heap.size (w.alloc (.cells cs 3)) (.slice (some ⟨w.heap.size, 0, none⟩) n n) L := by
  subst hn
  have h := World.ownsRow_lit (base := w.heap.size) (e := 3) (size := 1) w cs L.length (Nat.le_refl _) hm (by rw [← Array.length_toList, hc, List.length_map, Nat.mul_one])
  rw [hc] at h
  exact h
theorem below_then {a b c : World} (h : Below a.heap.size a b) (k : Below b.heap.size b c) : Below a.heap.size a c := h.trans (k.mono h.size)
theorem below_drewN {B : Nat} {a w : World} (h : Below B a w) (k : Nat) : Below B a (w.drewN k) :=
  ⟨h.os, by rw [World.tape_drewN]; exact h.tape, h.output, by rw [World.heap_drewN]; exact h.size, fun i hi => by rw [World.heap_drewN]; exact h.block i hi⟩
theorem list_same {L M : List Int} (hl : L.length = M.length) (h : ∀ j, j < L.length → L.getD j 0 = M.getD j 0) : L = M := by
  refine List.ext_getElem hl fun j h1 h2 => ?_
  have := h j h1
  rwa [List.getD_eq_getElem?_getD, List.getD_eq_getElem?_getD, List.getElem?_eq_getElem h1, List.getElem?_eq_getElem h2] at this

theorem reads_lit {w : World} {g n : Nat} {cs : Array Value} (L : List Int) (hg : w.heap[g]? = some (.cells cs 3 (0, 0))) (hc : cs.toList = L.map (Value.int .i64)) (hn : L.length = n) (c : Nat) : Reads w (.slice (some ⟨g, 0, none⟩) n c) L := by
  subst hn
  refine ⟨_, c, rfl, fun hp => ⟨g, 0, rfl, fun j hj => ?_⟩⟩
  rw [Nat.zero_add, cell_of_row w g j cs 3 (0, 0) hg, ← Array.getElem?_toList, hc, List.getElem?_map, List.getD_eq_getElem?_getD, List.getElem?_eq_getElem hj]
  rfl
theorem below_lit {a b : World} {o : Obj} (h : Below (a.alloc o).heap.size (a.alloc o) b) : Below a.heap.size a b := below_then ((Below.refl _ _).alloc (Nat.le_refl _) _) h
theorem below_new (a : World) (o : Obj) : Below a.heap.size a (a.alloc o) := (Below.refl _ _).alloc (Nat.le_refl _) _
theorem umod (x : Int) (n : Nat) (hn : 0 < n) (hb : n ≤ 9223372036854775807) : ∃ K : Nat, K < n ∧ wrap64 ((IntKind.u64.wrap x).tmod (n : Int)) = (K : Int) := by
  have h0 : 0 ≤ IntKind.u64.wrap x := by rw [IntKind.wrap_u64]; omega
  obtain ⟨u, hu⟩ := Int.eq_ofNat_of_zero_le h0
  refine ⟨u % n, Nat.mod_lt _ hn, ?_⟩
  rw [hu, show ((u : Int).tmod (n : Int)) = ((u % n : Nat) : Int) from rfl]
  have := Nat.mod_lt u hn
  exact IntWalk.wrap64_in _ (by omega)

theorem num_any (n : Int) (w : World) :
    Calls Try.prog 12 #[.int .i64 n] w fun e w' => e = .returned (.int .i64 n) ∧ w = w' := by
  go_enter Try.func12, Try.ntmps12
  go_wp2
  go_ret
  exact ⟨rfl, rfl⟩
end Go.Proofs.Ytbjaogcejcfpbaa
