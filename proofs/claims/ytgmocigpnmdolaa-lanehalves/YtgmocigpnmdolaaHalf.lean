/-
  The two halves of a byte against its eight bits, cell by cell. No conditions but those of each statement.
-/
import Derived.Test.YtgmocigpnmdolaaAwake
namespace Go.Proofs.Ytgmocigpnmdolaa
open Go.RowKit
set_option linter.unusedSimpArgs false
set_option linter.unusedVariables false

theorem reads_cell {w : World} {g n c : Nat} {L : List Int} (h : Reads w (.slice (some ⟨g, 0, none⟩) n c) L) (j : Nat) (hj : j < L.length) : w.cell? ⟨g, j, none⟩ = some (.int .i64 (L.getD j 0)) := by
  obtain ⟨a, cap, he, hc⟩ := h
  obtain ⟨g', o, ha, hc'⟩ := hc (by omega)
  rw [ha] at he
  injection he with h1 h2 h3
  injection h1 with h1
  injection h1 with h4 h5 h6
  subst h4 h5
  have := hc' j hj
  rwa [Nat.zero_add] at this
theorem half_0 {w : World} {g1 c1 g2 c2 : Nat} {x : Int} (r1 : Reads w (.slice (some ⟨g1, 0, none⟩) 8 c1) (ones x)) (r2 : Reads w (.slice (some ⟨g2, 0, none⟩) 2 c2) (fours x)) (h : 0 ≤ x ∧ x ≤ 255) :
    ∃ y z0 z1 z2 z3 : Int, w.cell? ⟨g2, 0, none⟩ = some (.int .i64 y) ∧ w.cell? ⟨g1, 0, none⟩ = some (.int .i64 z0) ∧ w.cell? ⟨g1, 1, none⟩ = some (.int .i64 z1) ∧ w.cell? ⟨g1, 2, none⟩ = some (.int .i64 z2) ∧ w.cell? ⟨g1, 3, none⟩ = some (.int .i64 z3) ∧
      (0 ≤ z0 ∧ z0 < 2) ∧ (0 ≤ z1 ∧ z1 < 2) ∧ (0 ≤ z2 ∧ z2 < 2) ∧ (0 ≤ z3 ∧ z3 < 2) ∧ (y != 8 * z0 + 4 * z1 + 2 * z2 + z3) = false := by
  refine ⟨_, _, _, _, _, reads_cell r2 0 (by simp [ones, fours]), reads_cell r1 0 (by simp [ones, fours]), reads_cell r1 1 (by simp [ones, fours]), reads_cell r1 2 (by simp [ones, fours]), reads_cell r1 3 (by simp [ones, fours]), ones_at x 0 (by omega), ones_at x 1 (by omega), ones_at x 2 (by omega), ones_at x 3 (by omega), ?_⟩
  simp [ones, fours]
  omega
theorem half_1 {w : World} {g1 c1 g2 c2 : Nat} {x : Int} (r1 : Reads w (.slice (some ⟨g1, 0, none⟩) 8 c1) (ones x)) (r2 : Reads w (.slice (some ⟨g2, 0, none⟩) 2 c2) (fours x)) (h : 0 ≤ x ∧ x ≤ 255) :
    ∃ y z0 z1 z2 z3 : Int, w.cell? ⟨g2, 1, none⟩ = some (.int .i64 y) ∧ w.cell? ⟨g1, 4, none⟩ = some (.int .i64 z0) ∧ w.cell? ⟨g1, 5, none⟩ = some (.int .i64 z1) ∧ w.cell? ⟨g1, 6, none⟩ = some (.int .i64 z2) ∧ w.cell? ⟨g1, 7, none⟩ = some (.int .i64 z3) ∧
      (0 ≤ z0 ∧ z0 < 2) ∧ (0 ≤ z1 ∧ z1 < 2) ∧ (0 ≤ z2 ∧ z2 < 2) ∧ (0 ≤ z3 ∧ z3 < 2) ∧ (y != 8 * z0 + 4 * z1 + 2 * z2 + z3) = false := by
  refine ⟨_, _, _, _, _, reads_cell r2 1 (by simp [ones, fours]), reads_cell r1 4 (by simp [ones, fours]), reads_cell r1 5 (by simp [ones, fours]), reads_cell r1 6 (by simp [ones, fours]), reads_cell r1 7 (by simp [ones, fours]), ones_at x 4 (by omega), ones_at x 5 (by omega), ones_at x 6 (by omega), ones_at x 7 (by omega), ?_⟩
  simp [ones, fours]
  omega
end Go.Proofs.Ytgmocigpnmdolaa
