/-
  Steps of a walk: a row just laid, clocks of a word, clocks of nothing, a row said. Conditions: those of each statement.
-/
import Derived.Test.YtjhjghakfedeeaaGreatWaits
namespace Go.Proofs.YtjhjghakfedeeaaGreat
open Go.RowKit Plain
set_option linter.unusedVariables false

theorem owns_down {B B' : Nat} {w : World} {v : Value} {L : List Int} (h : Owns B w v L) (hB : B' ≤ B) : Owns B' w v L := by
  refine ⟨h.1, ?_⟩
  rcases h.2 with h2 | ⟨g, cap, cur, hv, hb, hr⟩
  · exact .inl h2
  · exact .inr ⟨g, cap, cur, hv, by omega, hr⟩
theorem owns_block {B : Nat} {w : World} {v : Value} {L : List Int} (h : Owns B w v L) : ∀ g, v.ownBlock = some g → 0 < L.length → B ≤ g := by
  intro g hg h0
  rcases h.2 with ⟨rfl, h2⟩ | ⟨g', cap, cur, rfl, hb, _⟩
  · omega
  · simp [Value.ownBlock] at hg; omega
theorem owns_below {B : Nat} {w w' : World} {v : Value} {L : List Int} (h : Hid (Owns B w v L)) (b : Below w.heap.size w w') : Hid (Owns B w' v L) := Owns.below h.out b (Nat.le_refl _)
theorem owns_only {B b : Nat} {w w' : World} {v : Value} {L : List Int} (h : Hid (Owns B w v L)) (k : Only b w w') (hb : b < B) : Hid (Owns B w' v L) := row_only h.out k hb
theorem lit_reads (w : World) (cs : Array Value) (L : List Int) (n : Nat) (hc : cs.toList = L.map (Value.int .i64)) (hn : L.length = n) : Reads (w.alloc (.cells cs 3)) (.slice (some ⟨w.heap.size, 0, none⟩) n n) L :=
  reads_lit L (heap_alloc_new _ _) hc hn n
/-- The chip s lies in block b; nothing else that was there since u turned. -/
structure Run (n b : Nat) (u w : World) (s : St) : Prop where
  lies : Lies n b w s
  only : Only b u w
theorem rn_lt {n b : Nat} {u w : World} {s : St} (h : Hid (Run n b u w s)) : b < w.heap.size := h.out.lies.lt
theorem rn_below {n b : Nat} {u w w' : World} {s : St} (h : Hid (Run n b u w s)) (k : Below w.heap.size w w') : Hid (Run n b u w' s) := ⟨h.out.lies.below k, h.out.only.below k⟩
theorem rn_old {n b B : Nat} {u w : World} {s : St} (h : Hid (Run n b u w s)) (hb : B ≤ b) (hu : B ≤ u.heap.size) : Below B u w := h.out.only.old hb hu
theorem rn_start {n b : Nat} {w : World} {s : St} (h : Lies n b w s) : Hid (Run n b w w s) := ⟨h, Only.refl b w⟩
theorem owns_some {B : Nat} {w : World} {a : Option Addr} {n c : Nat} {L : List Int} (h : Hid (Owns B w (.slice a n c) L)) (hn : L.length = n) (h0 : 0 < n) : ∃ g, a = some ⟨g, 0, none⟩ ∧ n ≤ c := by
  rcases h.out.2 with ⟨_, h2⟩ | ⟨g, cap, cur, e, _, _, hc, _⟩
  · omega
  · simp only [Value.slice.injEq] at e
    obtain ⟨rfl, _, rfl⟩ := e
    exact ⟨g, rfl, by omega⟩
theorem reads_drop {w : World} {g n c : Nat} {L : List Int} (h : Reads w (.slice (some ⟨g, 0, none⟩) n c) L) (k m c' : Nat) (hm : L.length = k + m) : Reads w (.slice (some ⟨g, k, none⟩) m c') (L.drop k) := by
  obtain ⟨a, cap, e, hr⟩ := h
  refine ⟨some ⟨g, k, none⟩, c', by rw [List.length_drop, hm]; congr 1; omega, fun h0 => ⟨g, k, rfl, fun j hj => ?_⟩⟩
  rw [List.length_drop] at h0 hj
  obtain ⟨g', o', e2, hc⟩ := hr (by omega)
  simp only [Value.slice.injEq] at e
  rw [← e.1] at e2
  simp only [Option.some.injEq, Addr.mk.injEq] at e2
  obtain ⟨rfl, rfl, _⟩ := e2
  have := hc (k + j) (by omega)
  rw [Nat.zero_add] at this
  rw [this, List.getD_eq_getElem?_getD, List.getD_eq_getElem?_getD, List.getElem?_drop]
theorem rn_again {n b : Nat} {u w : World} {s : St} (h : Hid (Run n b u w s)) : Hid (Run n b w w s) := rn_start h.out.lies
theorem app_lt {L M : List Nat} {n : Nat} (hL : ∀ x ∈ L, x < n) (hM : ∀ x ∈ M, x < n) : ∀ x ∈ L ++ M, x < n := fun x hx => by
  rcases List.mem_append.1 hx with h | h
  · exact hL x h
  · exact hM x h
theorem rep_lt {k a n : Nat} (h : a < n) : ∀ x ∈ List.replicate k a, x < n := fun x hx => by rw [(List.mem_replicate.1 hx).2]; exact h
end Go.Proofs.YtjhjghakfedeeaaGreat
