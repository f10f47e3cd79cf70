/-
  What stands between two appends of a command's phases, for the document's row of them. No conditions but those of each statement.
-/
import Derived.Test.YtbjaogcejcfpbaaMid
import Derived.Deep.AppendLies
namespace Go.Proofs.Ytbjaogcejcfpbaa
open Go.RowKit
set_option linter.unusedVariables false

/-- The first phase, laid behind calls that wrote nothing old. -/
theorem Mid.start {w w1 : World} {o : Op6} (hx : Box w1 w.heap.size o) (b1 : Below w.heap.size w w1) : Mid w o 1 [(1, [o.1], 0, 0)] (.slice (some ⟨w1.heap.size + 1, 0, none⟩) 1 1) ((w1.alloc (.cells #[.int .i64 o.1] 3)).alloc (.cells #[.int .i64 1, .slice (some ⟨w1.heap.size, 0, none⟩) 1 1, .int .i64 0, .int .i64 0] 45)) := by
  have hs := b1.size
  have ho : Owns w.heap.size (w1.alloc (.cells #[.int .i64 o.1] 3)) (.slice (some ⟨w1.heap.size, 0, none⟩) 1 1) [o.1] := by
    have := Owns.lit (w := w1) [o.1] 1 #[.int .i64 o.1] rfl rfl (by unfold maxLen; omega)
    exact this.below (Below.refl _ _) hs
  have hB : w.heap.size ≤ (w1.alloc (.cells #[.int .i64 o.1] 3)).heap.size := by simp; omega
  have hp := POwns.lit (p := (1, [o.1], 0, 0)) ho hB
  have hsz : (w1.alloc (.cells #[.int .i64 o.1] 3)).heap.size = w1.heap.size + 1 := by simp
  rw [hsz] at hp
  exact ⟨_, hp, rfl, Nat.le_refl 1, (hx.below (below_new _ _)).below (below_new _ _), below_then (below_then b1 (below_new _ _)) (below_new _ _)⟩


/-- 'append([]int{}, data...)' at a step of a region that draws its order. -/
theorem step_copy {ops : Array Oper} {o : Oper} {a : Act} {K : Act → World → Prop} {Q : Exit → Act → World → Prop} {E : Prop} (hgd : o.guard = none) (s x : Operand)
    (ho : o.op = .call { callee := .builtin .append, args := #[s, x], argTypes := #[24, 24] }) (w0 W : World) (y : Addr) (n c : Nat) (L : List Int) (hs : a.eval s = .slice (some ⟨W.heap.size, 0, none⟩) 0 0) (hx : a.eval x = .slice (some y) n c)
    (hC : Came w0 (some y) n c L) (hB : Below w0.heap.size w0 W) (hn : n * 8 ≤ 140737488351232) (hp : 0 < n)
    (h : ∀ g cap w', Owns W.heap.size w' (.slice (some ⟨g, 0, none⟩) L.length cap) L → Below W.heap.size W w' → K (a.put o.dst (.slice (some ⟨g, 0, none⟩) L.length cap)) w') :
    if Region.wanted o (yielded ops a.tmps) = true then Oper.wp Try.prog o a (W.alloc (.cells #[] 3)) K Q else E := by
  obtain ⟨i3, ti, tz0, tz1, tz2⟩ := info_parts info3
  have hown : (W.alloc (.cells #[] 3)).ownsRow W.heap.size 3 1 (.slice (some ⟨W.heap.size, 0, none⟩) 0 0) 0 [] := World.ownsRow_lit (base := W.heap.size) (e := 3) (size := 1) W #[] 0 (Nat.le_refl _) (by unfold maxLen; omega) rfl
  have hC2 : Came (W.alloc (.cells #[] 3)) (some y) n c L := hC.below (below_then hB (below_new _ _))
  obtain ⟨hl, ⟨h0, -, -⟩ | ⟨x', hx', hnc, hc⟩⟩ := hC2
  · cases h0
  · injection hx' with hx'
    subst hx'
    have hnews : ∀ j u, (L.map (Value.int .i64))[j]? = some u → (W.alloc (.cells #[] 3)).cell? (y.add j) = some u := fun j u hu => by
      have hj : j < n := by
        rcases Nat.lt_or_ge j n with h | h
        · exact h
        · rw [List.getElem?_eq_none (by rw [List.length_map]; omega)] at hu; cases hu
      rw [hc j hj, ← hu, List.getElem?_map, List.getD_eq_getElem?_getD, List.getElem?_eq_getElem (by omega)]
      rfl
    refine step_append_lies _ hgd s x 24 ho W.heap.size 3 i3 (.int .i64 0) 1 8 Try.underlying24 ti tz0 tz1 tz2 rfl (by decide) _ 0 [] hs hown y n c (L.map (Value.int .i64)) hx (by rw [List.length_map, hl]; omega) hnews (ints_oneCell _ _) hp (by unfold maxLen; omega) (by omega) (by simp) _ rfl ?_
    intro g cap w1 hown1 hgrow hat hlt
    have e : 0 + n = L.length := by omega
    rw [e] at hown1 ⊢
    refine h g cap w1 ?_ ?_
    · exact hown1
    · exact ((Below.refl _ _).alloc (Nat.le_refl _) _).grown hgrow (by simp) fun k hk => by
        have : W.heap.size = k := by simpa [Value.ownBlock] using hk
        omega
end Go.Proofs.Ytbjaogcejcfpbaa
