/-
  A slice of numbers that came in, and what it reads as. No conditions.
-/
import Derived.Test.YtkmhcihkdpdmoaaInts
namespace Go.Proofs.Ytkmhcihkdpdmoaa
open Go.RowKit
set_option linter.unusedVariables false

/-- A slice that came in reads as the numbers L. -/
def Came (w : World) (a : Option Addr) (n cap : Nat) (L : List Int) : Prop :=
  L.length = n ∧ ((a = none ∧ n = 0 ∧ cap = 0) ∨ ∃ x, a = some x ∧ n ≤ cap ∧ ∀ j, j < n → w.cell? (x.add j) = some (.int .i64 (L.getD j 0)))

theorem Came.reads {w : World} {a : Option Addr} {n cap : Nat} {L : List Int} (h : Came w a n cap L) : Reads w (.slice a n cap) L := by
  obtain ⟨rfl, ⟨rfl, h0, rfl⟩ | ⟨x, rfl, hnc, hc⟩⟩ := h
  · exact ⟨none, 0, rfl, fun h => by omega⟩
  · refine ⟨some x, cap, rfl, fun h => ?_⟩
    obtain ⟨b, off, spot⟩ := x
    have hspot : spot = none := by simpa [Addr.add] using World.cell?_spot (hc 0 h)
    subst hspot
    refine ⟨b, off, rfl, fun j hj => ?_⟩
    have h1 := hc j hj
    rcases Nat.eq_zero_or_pos j with rfl | hp
    · simpa [Addr.add] using h1
    · rw [Addr.add, if_neg (by omega)] at h1
      exact h1

theorem came_of {w : World} {x : Addr} {n cap : Nat} {zs : List Int} (hl : n ≤ cap) (hz : zs.length = cap) (hc : ∀ i, i < zs.length → w.cell? (x.add i) = some (.int .i64 (zs.getD i 0))) : Came w (some x) n cap (zs.take n) := by
  refine ⟨by rw [List.length_take]; omega, .inr ⟨x, rfl, hl, fun j hj => ?_⟩⟩
  rw [hc j (by omega), List.getD_eq_getElem?_getD, List.getD_eq_getElem?_getD, List.getElem?_take, if_pos hj]
end Go.Proofs.Ytkmhcihkdpdmoaa
