/-
  What stands between two appends of a command's phases: the phases laid so far, the command in its block, nothing older changed. No conditions but those of each statement.
-/
import Derived.Test.YtbjaogcejcfpbaaFew
import Derived.Test.YtbjaogcejcfpbaaTurns
namespace Go.Proofs.Ytbjaogcejcfpbaa
open Go.RowKit
set_option linter.unusedVariables false

/-- A command's six parts. -/
abbrev Op6 := Int × Int × Bool × Int × Int × Bool
def op6C (o : Op6) : Array Value := #[.int .i64 o.1, .int .i64 o.2.1, .bool o.2.2.1, .int .i64 o.2.2.2.1, .int .i64 o.2.2.2.2.1, .bool o.2.2.2.2.2]
/-- In block g lies the command o. -/
def Box (w : World) (g : Nat) (o : Op6) : Prop := w.heap[g]? = some (.cells (op6C o) 23 (0, 0))
theorem Box.lt {w : World} {g : Nat} {o : Op6} (h : Box w g o) : g < w.heap.size := by
  rcases Nat.lt_or_ge g w.heap.size with hlt | hge
  · exact hlt
  · rw [Box, Array.getElem?_eq_none hge] at h; cases h
theorem Box.six {w : World} {g : Nat} {o : Op6} (h : Box w g o) : Six w g (.int .i64 o.1) (.int .i64 o.2.1) (.bool o.2.2.1) (.int .i64 o.2.2.2.1) (.int .i64 o.2.2.2.2.1) (.bool o.2.2.2.2.2) := by
  have h := fun j => cell_of_row w g j (op6C o) 23 (0, 0) h
  exact ⟨h 0, h 1, h 2, h 3, h 4, h 5⟩
theorem Box.below {w w' : World} {g : Nat} {o : Op6} (h : Box w g o) (b : Below w.heap.size w w') : Box w' g o := (b.block g h.lt).trans h
theorem Box.grown {w w' : World} {g B n : Nat} {v : Value} {xs : List Value} {o : Op6} (h : Box w g o) (k : w.ownsRow B 45 4 v n xs) (hg : w.grownBy w' v.ownBlock) : Box w' g o := by
  refine (hg.block g h.lt fun e => ?_).trans h
  rcases k.2 with ⟨rfl, -⟩ | ⟨g', cap, cur, rfl, -, hc, -⟩
  · simp [Value.ownBlock] at e
  · have : g = g' := by simpa [Value.ownBlock] using e
    subst this
    rw [Box, hc] at h
    simp at h
theorem Box.new (w : World) (o : Op6) : Box (w.alloc (.cells #[.int .i64 o.1, .int .i64 o.2.1, .bool o.2.2.1, .int .i64 o.2.2.2.1, .int .i64 o.2.2.2.2.1, .bool o.2.2.2.2.2] 23)) w.heap.size o := heap_alloc_new _ _

/-- Since w0: the phases X (at most j of them) stand in v, the command o in its block. -/
def Mid (w0 : World) (o : Op6) (j : Nat) (X : List Ph) (v : Value) (w : World) : Prop :=
  ∃ qs, POwns w0.heap.size w v qs ∧ qs.map Prod.snd = X ∧ qs.length ≤ j ∧ Box w w0.heap.size o ∧ Below w0.heap.size w0 w

theorem Mid.first (w : World) (o : Op6) : Mid w o 1 [(1, [o.1], 0, 0)] (.slice (some ⟨w.heap.size + 1 + 1, 0, none⟩) 1 1) (((w.alloc (.cells #[.int .i64 o.1, .int .i64 o.2.1, .bool o.2.2.1, .int .i64 o.2.2.2.1, .int .i64 o.2.2.2.2.1, .bool o.2.2.2.2.2] 23)).alloc (.cells #[.int .i64 o.1] 3)).alloc (.cells #[.int .i64 1, .slice (some ⟨w.heap.size + 1, 0, none⟩) 1 1, .int .i64 0, .int .i64 0] 45)) := by
  have hx := Box.new w o
  generalize hw1 : w.alloc (.cells #[.int .i64 o.1, .int .i64 o.2.1, .bool o.2.2.1, .int .i64 o.2.2.2.1, .int .i64 o.2.2.2.2.1, .bool o.2.2.2.2.2] 23) = w1 at hx ⊢
  have hs : w1.heap.size = w.heap.size + 1 := by rw [← hw1]; simp
  have b1 : Below w.heap.size w w1 := by rw [← hw1]; exact below_new _ _
  have ho : Owns w.heap.size (w1.alloc (.cells #[.int .i64 o.1] 3)) (.slice (some ⟨w.heap.size + 1, 0, none⟩) 1 1) [o.1] := by
    have := Owns.lit (w := w1) [o.1] 1 #[.int .i64 o.1] rfl rfl (by unfold maxLen; omega)
    rw [hs] at this
    rcases this with ⟨t1, t2 | ⟨g, cap, cur, hv, hb, hr⟩⟩
    · exact ⟨t1, .inl t2⟩
    · exact ⟨t1, .inr ⟨g, cap, cur, hv, by omega, hr⟩⟩
  have hB : w.heap.size ≤ (w1.alloc (.cells #[.int .i64 o.1] 3)).heap.size := by simp [hs]; omega
  have hp := POwns.lit (p := (1, [o.1], 0, 0)) ho hB
  have hsz : (w1.alloc (.cells #[.int .i64 o.1] 3)).heap.size = w.heap.size + 1 + 1 := by simp [hs]
  rw [hsz] at hp
  exact ⟨_, hp, rfl, Nat.le_refl 1, (hx.below (below_new _ _)).below (below_new _ _), below_then (below_then b1 (below_new _ _)) (below_new _ _)⟩

/-- One phase more: what the append asks for, and what it leaves. -/
theorem Mid.laid {w0 w w' : World} {o : Op6} {j : Nat} {X : List Ph} {v bv : Value} {p : Ph} (h : Mid w0 o j X v w) (b : Below w.heap.size w w') (hb : Owns w0.heap.size w' bv p.2.1) :
    ∃ qs : List (Value × Ph), qs.length ≤ j ∧ (w'.alloc (.cells #[.int .i64 p.1, bv, .int .i64 p.2.2.1, .int .i64 p.2.2.2] 45)).ownsRow w0.heap.size 45 4 v qs.length (rowC qs) ∧
      (∀ i u, (phC bv p)[i]? = some u → (w'.alloc (.cells #[.int .i64 p.1, bv, .int .i64 p.2.2.1, .int .i64 p.2.2.2] 45)).cell? ((⟨w'.heap.size, 0, none⟩ : Addr).add i) = some u) ∧ (∀ u ∈ phC bv p, u.oneCell' = true) ∧ w0.heap.size ≤ w'.heap.size ∧ (Box w' w0.heap.size o ∧ Box (w'.alloc (.cells #[.int .i64 p.1, bv, .int .i64 p.2.2.1, .int .i64 p.2.2.2] 45)) w0.heap.size o) ∧
      ∀ g cap w2, w2.ownsRow w0.heap.size 45 4 (.slice (some ⟨g, 0, none⟩) (qs.length + 1) cap) (qs.length + 1) (rowC qs ++ phC bv p) → (w'.alloc (.cells #[.int .i64 p.1, bv, .int .i64 p.2.2.1, .int .i64 p.2.2.2] 45)).grownBy w2 v.ownBlock → Mid w0 o (j + 1) (X ++ [p]) (.slice (some ⟨g, 0, none⟩) (qs.length + 1) cap) w2 := by
  obtain ⟨qs, hp, hX, hl, hx, hB⟩ := h
  have b2 := below_then b (below_new w' (.cells #[.int .i64 p.1, bv, .int .i64 p.2.2.1, .int .i64 p.2.2.2] 45))
  have hp2 := hp.below b2 (Nat.le_refl _)
  have hx2 := hx.below b2
  have hB2 := below_then hB b2
  have hb2 : Owns w0.heap.size (w'.alloc (.cells #[.int .i64 p.1, bv, .int .i64 p.2.2.1, .int .i64 p.2.2.2] 45)) bv p.2.1 := hb.below (below_new _ _) (Nat.le_refl _)
  obtain ⟨a, c, hbv⟩ := own_slice hb
  refine ⟨qs, hl, hp2.1, ?_, phC_one hbv, (below_then hB b).size, ⟨hx.below b, hx2⟩, fun g cap w2 ho hg => ?_⟩
  · exact World.news_of_block (heap_alloc_new _ _)
  · refine ⟨_, hp2.more hb2 ho hg, by rw [List.map_append, hX]; rfl, by rw [List.length_append]; simp; omega, hx2.grown hp2.1 hg, ?_⟩
    exact hB2.grown hg hB2.size fun k hk => (hp2.1.lt k hk).1
theorem Mid.drew {w0 w : World} {o : Op6} {j : Nat} {X : List Ph} {v : Value} (h : Mid w0 o j X v w) : Mid w0 o j X v w.drew := by
  obtain ⟨qs, hp, hX, hl, hx, hB⟩ := h
  exact ⟨qs, ⟨hp.1, hp.2⟩, hX, hl, hx, hB.drew⟩
theorem Mid.box {w0 w : World} {o : Op6} {j : Nat} {X : List Ph} {v : Value} (h : Mid w0 o j X v w) : Box w w0.heap.size o := h.choose_spec.2.2.2.1
theorem Mid.old {w0 w : World} {o : Op6} {j : Nat} {X : List Ph} {v : Value} (h : Mid w0 o j X v w) : Below w0.heap.size w0 w := h.choose_spec.2.2.2.2
theorem Mid.more {w0 w : World} {o : Op6} {j k : Nat} {X : List Ph} {v : Value} (h : Mid w0 o j X v w) (hk : j ≤ k) : Mid w0 o k X v w := by
  obtain ⟨qs, hp, hX, hl, hr⟩ := h
  exact ⟨qs, hp, hX, by omega, hr⟩
/-- The phases of a command. -/
def phL (o : Op6) (k : Nat) (L : List Int) (r : Int) : List Ph :=
  [(1, [o.1], 0, 0)] ++ (if 0 < o.2.1 then [(o.2.1, addrL k, 0, 0)] else []) ++ (if o.2.2.1 = true then [(o.2.1, L, 0, 0)] else []) ++ (if 0 < o.2.2.2.1 then [(0, [], o.2.2.2.1, 0)] else []) ++ (if o.2.2.2.2.2 = true ∧ 0 < L.length then [(o.2.2.2.2.1, L, 0, 0)] else []) ++ (if 0 < r then [(o.2.2.2.2.1, [], 0, r)] else [])
end Go.Proofs.Ytbjaogcejcfpbaa
