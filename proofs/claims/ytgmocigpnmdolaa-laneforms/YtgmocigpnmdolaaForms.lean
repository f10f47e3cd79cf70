/-
  Plain facts for rows and lanes that are none. No conditions but those of each statement.
-/
import Derived.Test.YtgmocigpnmdolaaAwake
namespace Go.Proofs.Ytgmocigpnmdolaa
open Go.RowKit

theorem umod (x : Int) (n : Nat) (hn : 0 < n) (hb : n ≤ 9223372036854775807) : ∃ K : Nat, K < n ∧ wrap64 ((IntKind.u64.wrap x).tmod (n : Int)) = (K : Int) := by
  have h0 : 0 ≤ IntKind.u64.wrap x := by rw [IntKind.wrap_u64]; omega
  obtain ⟨u, hu⟩ := Int.eq_ofNat_of_zero_le h0
  refine ⟨u % n, Nat.mod_lt _ hn, ?_⟩
  rw [hu, show ((u : Int).tmod (n : Int)) = ((u % n : Nat) : Int) from rfl]
  have := Nat.mod_lt u hn
  exact IntWalk.wrap64_in _ (by omega)
theorem at_new {w : World} {o : Obj} {k : Nat} (h : k = w.heap.size) : (w.alloc o).heap[k]? = some o := by subst h; exact heap_alloc_new w o
theorem at_old {w : World} {o o' : Obj} {k : Nat} (h : w.heap[k]? = some o') : (w.alloc o).heap[k]? = some o' := by
  have hlt : k < w.heap.size := by
    rcases Nat.lt_or_ge k w.heap.size with hlt | hge
    · exact hlt
    · rw [Array.getElem?_eq_none hge] at h; cases h
  rw [Below.heap_alloc w o k hlt]; exact h
theorem reads_nil (w : World) : Reads w (.slice none 0 0) [] := ⟨none, 0, rfl, fun h => by simp at h⟩
theorem below_five {w : World} {a b c d e : Obj} : Below w.heap.size w (((((w.alloc a).alloc b).alloc c).alloc d).alloc e) :=
  below_then (below_then (below_then (below_then (below_new _ _) (below_new _ _)) (below_new _ _)) (below_new _ _)) (below_new _ _)
theorem four_count {L : List Int} (h : L.length ≠ 2) : inE L 4 = 300 := inE_no (no_four (.inl h))
theorem one_count {L : List Int} (h : L.length ≠ 8) : inE L 1 = 300 := inE_no (no_one (.inl h))
end Go.Proofs.Ytgmocigpnmdolaa
