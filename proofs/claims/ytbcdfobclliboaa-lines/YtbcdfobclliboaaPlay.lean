/-
  Caches of lines of one byte, as plain data: what a Keep of one more makes of them, what a Find tells. Nothing of the program is named.
-/
import Derived.Test.YtbcdfobclliboaaTurns
namespace Go.Proofs.Ytbcdfobclliboaa
open Go.RowKit Plain
set_option linter.unusedVariables false

/-- Two lines, each nowhere or a number and a byte, and which goes first. -/
structure S2 where
  l0 : Option (Nat × UInt8)
  l1 : Option (Nat × UInt8)
  b : Bool
def atO : Option (Nat × UInt8) → Int
  | none => -1
  | some p => 16 * (p.1 : Int)
def txO : Option (Nat × UInt8) → ByteArray
  | none => ByteArray.empty
  | some p => lineT p.2
def S2.A (s : S2) : List Int := [atO s.l0, atO s.l1]
def S2.T (s : S2) : List ByteArray := [txO s.l0, txO s.l1]
def S2.x (s : S2) : Int := if s.b then 1 else 0
def S2.ok (s : S2) : Prop := (∀ p, s.l0 = some p → p.1 < 256) ∧ (∀ p, s.l1 = some p → p.1 < 256) ∧ (∀ p q, s.l0 = some p → s.l1 = some q → p.1 ≠ q.1)
def isK (o : Option (Nat × UInt8)) (k : Nat) : Bool := match o with
  | none => false
  | some p => decide (p.1 = k)
def S2.keep (s : S2) (k : Nat) (c : UInt8) : S2 :=
  if isK s.l0 k then { s with l0 := some (k, c) } else if isK s.l1 k then { s with l1 := some (k, c) } else if s.b then { s with l1 := some (k, c), b := false } else { s with l0 := some (k, c), b := true }
def S2.none : S2 := ⟨Option.none, Option.none, false⟩

theorem isK_at {o : Option (Nat × UInt8)} {k : Nat} : isK o k = true ↔ atO o = 16 * (k : Int) := by
  cases o with
  | none => simp [isK, atO]; omega
  | some p => simp [isK, atO]; omega
theorem isK_no {o : Option (Nat × UInt8)} {k : Nat} : isK o k = false ↔ atO o ≠ 16 * (k : Int) := by
  rw [← Bool.not_eq_true, isK_at]
theorem S2.none_ok : S2.none.ok := ⟨fun p h => (by cases h), fun p h => (by cases h), fun p q h => (by cases h)⟩
theorem txO_size (o : Option (Nat × UInt8)) : (txO o).size ≤ 16 := by
  cases o with
  | none => exact Nat.zero_le _
  | some p => exact Nat.le_of_eq (lineT_size _)
theorem S2.fit (s : S2) : Fit s.A s.T := fit_two (txO_size _) (txO_size _)
theorem S2.may {s : S2} (h : s.ok) : mayB s.A s.T s.x = true := by
  obtain ⟨h0, h1, h2⟩ := h
  refine may_two ?_ ?_ ?_
  · unfold S2.x; split <;> omega
  · cases e : s.l0 with
    | none => exact .inl ⟨rfl, rfl⟩
    | some p => exact .inr ⟨at_16 _ (h0 p e), lineT_size _⟩
  · cases e : s.l1 with
    | none => exact .inl ⟨rfl, rfl⟩
    | some p =>
      refine .inr ⟨at_16 _ (h1 p e), lineT_size _, ?_⟩
      cases e0 : s.l0 with
      | none => simp [atO]; omega
      | some q =>
        have := h2 q p e0 e
        simp [atO]; omega
theorem S2.keep_ok {s : S2} (h : s.ok) (k : Nat) (hk : k < 256) (c : UInt8) : (s.keep k c).ok := by
  obtain ⟨h0, h1, h2⟩ := h
  unfold S2.keep
  split
  · rename_i e
    refine ⟨fun p hp => (by cases hp; exact hk), h1, fun p q hp hq => ?_⟩
    cases hp
    obtain ⟨p0, e0⟩ : ∃ p0, s.l0 = some p0 := by
      cases e0 : s.l0 with
      | none => rw [e0] at e; cases e
      | some p0 => exact ⟨p0, rfl⟩
    rw [e0] at e
    have e1 : p0.1 = k := by simpa [isK] using e
    have := h2 p0 q e0 hq
    show k ≠ q.1
    omega
  · rename_i e
    split
    · rename_i e1
      refine ⟨h0, fun p hp => (by cases hp; exact hk), fun p q hp hq => ?_⟩
      cases hq
      intro h
      apply e
      rw [show s.l0 = some p from hp]
      simpa [isK] using h
    · rename_i e1
      split
      · refine ⟨h0, fun p hp => (by cases hp; exact hk), fun p q hp hq => ?_⟩
        cases hq
        intro h
        apply e
        rw [show s.l0 = some p from hp]
        simpa [isK] using h
      · refine ⟨fun p hp => (by cases hp; exact hk), h1, fun p q hp hq => ?_⟩
        cases hp
        intro h
        apply e1
        rw [show s.l1 = some q from hq]
        simpa [isK] using h.symm
theorem S2.kept (s : S2) (k : Nat) (c : UInt8) : kA s.A s.x (16 * (k : Int)) = (s.keep k c).A ∧ kT s.A s.T s.x (16 * (k : Int)) (lineT c) = (s.keep k c).T ∧ kX s.A s.x (16 * (k : Int)) = (s.keep k c).x := by
  obtain ⟨l0, l1, b⟩ := s
  unfold S2.keep
  dsimp only
  cases e0 : isK l0 k with
  | true =>
    have h0 := isK_at.1 e0
    rw [if_pos rfl]
    have h := k_hit0 (atO l0) (atO l1) (txO l0) (txO l1) (lineT c) (S2.x ⟨l0, l1, b⟩)
    rw [h0] at h
    unfold S2.A S2.T
    dsimp only
    rw [h0]
    exact h
  | false =>
    have h0 := isK_no.1 e0
    rw [if_neg (by simp)]
    cases e1 : isK l1 k with
    | true =>
      have h1 := isK_at.1 e1
      rw [if_pos rfl]
      have h := k_hit1 (atO l0) (16 * (k : Int)) (txO l0) (txO l1) (lineT c) (S2.x ⟨l0, l1, b⟩) h0
      unfold S2.A S2.T
      dsimp only
      rw [h1]
      exact h
    | false =>
      have h1 := isK_no.1 e1
      rw [if_neg (by simp)]
      cases b with
      | true =>
        rw [if_pos rfl]
        exact k_new1 _ _ _ _ _ _ h0 h1
      | false =>
        rw [if_neg (by simp)]
        exact k_new0 _ _ _ _ _ _ h0 h1
theorem S2.again (s : S2) (k : Nat) (c : UInt8) : (s.keep k c).keep k c = s.keep k c := by
  obtain ⟨l0, l1, b⟩ := s
  unfold S2.keep
  dsimp only
  have e2 : isK (some (k, c)) k = true := by simp [isK]
  cases e0 : isK l0 k with
  | true => simp [e2]
  | false =>
    cases e1 : isK l1 k with
    | true => simp [e0, e2]
    | false =>
      cases b with
      | true => simp [e0, e2]
      | false => simp [isK]
/-- What a Find tells of a place. -/
theorem S2.found {s : S2} (h : s.ok) (k i : Nat) (hi : i < 16) :
    (fB s.A s.T s.x (16 * (k : Int) + (i : Int)) = false ∧ fV s.A s.T s.x (16 * (k : Int) + (i : Int)) = 0 ∧ isK s.l0 k = false ∧ isK s.l1 k = false) ∨
    ∃ c : UInt8, (s.l0 = some (k, c) ∨ s.l1 = some (k, c)) ∧ fB s.A s.T s.x (16 * (k : Int) + (i : Int)) = true ∧ fV s.A s.T s.x (16 * (k : Int) + (i : Int)) = ((c + UInt8.ofNat i).toNat : Int) := by
  have hm := S2.may h
  obtain ⟨l0, l1, b⟩ := s
  unfold S2.A S2.T at hm ⊢
  dsimp only at hm ⊢
  cases e0 : isK l0 k with
  | true =>
    have h0 := isK_at.1 e0
    right
    cases l0 with
    | none => cases e0
    | some p =>
      obtain ⟨k', c⟩ := p
      have hk : k' = k := by simpa [isK] using e0
      subst hk
      refine ⟨c, .inl rfl, ?_⟩
      have hf := f_hit0 hm i hi (by show 0 ≤ 16 * (k' : Int); omega) (by show 16 * (k' : Int) % 16 = 0; omega)
      refine ⟨hf.1, hf.2.trans ?_⟩
      show ((ub (lineT c) i).toNat : Int) = _
      rw [lineT_at _ _ hi]
  | false =>
    have h0 := isK_no.1 e0
    cases e1 : isK l1 k with
    | true =>
      have h1 := isK_at.1 e1
      right
      cases l1 with
      | none => cases e1
      | some p =>
        obtain ⟨k', c⟩ := p
        have hk : k' = k := by simpa [isK] using e1
        subst hk
        refine ⟨c, .inr rfl, ?_⟩
        have hf := f_hit1 hm i hi (by show 0 ≤ 16 * (k' : Int); omega) (by show 16 * (k' : Int) % 16 = 0; omega) h0
        refine ⟨hf.1, hf.2.trans ?_⟩
        show ((ub (lineT c) i).toNat : Int) = _
        rw [lineT_at _ _ hi]
    | false =>
      have h1 := isK_no.1 e1
      left
      have hf := f_miss (a0 := atO l0) (a1 := atO l1) (t0 := txO l0) (t1 := txO l1) (x := S2.x ⟨l0, l1, b⟩) (a := 16 * (k : Int) + (i : Int)) (by
        rw [show 16 * (k : Int) + (i : Int) - (16 * (k : Int) + (i : Int)) % 16 = 16 * (k : Int) by omega]; exact h0) (by
        rw [show 16 * (k : Int) + (i : Int) - (16 * (k : Int) + (i : Int)) % 16 = 16 * (k : Int) by omega]; exact h1)
      exact ⟨hf.1, hf.2, rfl, rfl⟩
end Go.Proofs.Ytbcdfobclliboaa
