/-
  Plain facts on rows that are pushed and popped. No conditions but those of each statement.
-/
import Derived.Test.YtkmhcihkdpdmoaaBlocks
namespace Go.Proofs.Ytkmhcihkdpdmoaa
open Go.RowKit
set_option linter.unusedVariables false

theorem take_push {L : List Int} {j : Nat} {x : Int} (h : j < L.length) (h16 : j < 16) (hx : L.getD j 0 = x) : pushE (L.take j) = 0 ∧ pushL (L.take j) x = L.take (j + 1) := by
  have hl : (L.take j).length < 16 := by rw [List.length_take]; omega
  refine ⟨if_pos hl, ?_⟩
  unfold pushL
  rw [if_pos hl, ← hx, List.getD_eq_getElem?_getD, List.getElem?_eq_getElem h]
  exact List.take_append_getElem h
theorem take_full {L : List Int} (h : 16 ≤ L.length) (x : Int) : pushE ((L.take 16).drop 0) = 801 ∧ pushL ((L.take 16).drop 0) x = (L.take 16).drop 0 := by
  have hl : ¬ ((L.take 16).drop 0).length < 16 := by rw [List.length_drop, List.length_take]; omega
  exact ⟨if_neg hl, if_neg hl⟩
theorem drop_pop {L : List Int} {m k : Nat} {x : Int} (h : m < L.length) (hk : m < k) (hx : L.getD m 0 = x) : popE ((L.take k).drop m) = 0 ∧ popV ((L.take k).drop m) = x ∧ popL ((L.take k).drop m) = (L.take k).drop (m + 1) := by
  have hl : m < (L.take k).length := by rw [List.length_take]; omega
  rw [List.drop_eq_getElem_cons hl]
  refine ⟨rfl, ?_, rfl⟩
  show (L.take k)[m] = x
  rw [List.getElem_take, ← hx, List.getD_eq_getElem?_getD, List.getElem?_eq_getElem h]; rfl
theorem drop_take_all (L : List Int) (k : Nat) : (L.take k).drop k = [] := List.drop_eq_nil_of_le (by rw [List.length_take]; omega)
/-- The numbers from q on, up to p. -/
def upto (q p : Nat) : List Int := (List.range (p - q)).map fun k => ((q + k : Nat) : Int)
theorem upto_length (q p : Nat) : (upto q p).length = p - q := by simp [upto]
theorem upto_none (q : Nat) : upto q q = [] := by simp [upto]
theorem upto_push {q p : Nat} (h : q ≤ p) (h16 : p - q < 16) : pushE (upto q p) = 0 ∧ pushL (upto q p) (p : Int) = upto q (p + 1) := by
  have hl : (upto q p).length < 16 := by rw [upto_length]; exact h16
  refine ⟨if_pos hl, ?_⟩
  unfold pushL
  rw [if_pos hl]
  unfold upto
  rw [show p + 1 - q = (p - q) + 1 by omega, List.range_succ, List.map_append]
  simp; omega
theorem upto_full {q p : Nat} (h16 : ¬ p - q < 16) : pushE (upto q p) = 801 ∧ pushL (upto q p) (p : Int) = upto q p := by
  have hl : ¬ (upto q p).length < 16 := by rw [upto_length]; exact h16
  exact ⟨if_neg hl, if_neg hl⟩
theorem upto_pop {q p : Nat} (h : q < p) : popE (upto q p) = 0 ∧ popV (upto q p) = (q : Int) ∧ popL (upto q p) = upto (q + 1) p := by
  have e : upto q p = (q : Int) :: upto (q + 1) p := by
    unfold upto
    rw [show p - q = (p - (q + 1)) + 1 by omega, List.range_succ_eq_map]
    simp
    intro a _
    omega
  rw [e]
  exact ⟨rfl, rfl, rfl⟩
end Go.Proofs.Ytkmhcihkdpdmoaa
