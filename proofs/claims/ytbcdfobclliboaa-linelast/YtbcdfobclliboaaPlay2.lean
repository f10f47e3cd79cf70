/-
  What was kept last of each line, as a row of 256 numbers beside the cache: plain facts. Nothing of the program is named.
-/
import Derived.Test.YtbcdfobclliboaaLend
namespace Go.Proofs.Ytbcdfobclliboaa
open Go.RowKit Plain
set_option linter.unusedVariables false

def S2.has (s : S2) (k : Nat) (c : UInt8) : Prop := s.l0 = some (k, c) ∨ s.l1 = some (k, c)
/-- The row tells what was kept last of each line, and just numbers below 40. -/
def Wok (s : S2) (W : List Int) : Prop := W.length = 256 ∧ (∀ j, j < 256 → ∃ m : Nat, m < 40 ∧ W.getD j 0 = (m : Int)) ∧ ∀ k c, s.has k c → ∃ m : Nat, m < 40 ∧ W.getD k 0 = (m : Int) ∧ c = UInt8.ofNat m
theorem isK_some {o : Option (Nat × UInt8)} {k : Nat} {c : UInt8} (h : o = some (k, c)) : isK o k = true := by rw [h]; simp [isK]
theorem isK_has {o : Option (Nat × UInt8)} {k k' : Nat} {c : UInt8} (h : isK o k = true) (h' : o = some (k', c)) : k' = k := by rw [h'] at h; simpa [isK] using h
theorem S2.keep_has {s : S2} (h : s.ok) (k : Nat) (c : UInt8) (k' : Nat) (c' : UInt8) (hh : (s.keep k c).has k' c') : (k' = k ∧ c' = c) ∨ (k' ≠ k ∧ s.has k' c') := by
  obtain ⟨l0, l1, b⟩ := s
  obtain ⟨-, -, h2⟩ := h
  unfold S2.has S2.keep at hh
  unfold S2.has
  dsimp only at hh h2 ⊢
  cases e0 : isK l0 k with
  | true =>
    rw [e0, if_pos rfl] at hh
    dsimp only at hh
    rcases hh with hh | hh
    · simp at hh; exact .inl ⟨hh.1.symm, hh.2.symm⟩
    · refine .inr ⟨fun e => ?_, .inr hh⟩
      cases l0 with
      | none => cases e0
      | some p =>
        have := h2 p (k', c') rfl hh
        have hp : p.1 = k := by simpa [isK] using e0
        exact this (by rw [hp, ← e])
  | false =>
    rw [e0, if_neg (by simp)] at hh
    have hn0 : ∀ c'', l0 ≠ some (k, c'') := fun c'' e => by rw [isK_some e] at e0; cases e0
    cases e1 : isK l1 k with
    | true =>
      rw [e1, if_pos rfl] at hh
      dsimp only at hh
      rcases hh with hh | hh
      · exact .inr ⟨fun e => hn0 c' (by rw [hh, e]), .inl hh⟩
      · simp at hh; exact .inl ⟨hh.1.symm, hh.2.symm⟩
    | false =>
      rw [e1, if_neg (by simp)] at hh
      have hn1 : ∀ c'', l1 ≠ some (k, c'') := fun c'' e => by rw [isK_some e] at e1; cases e1
      cases b with
      | true =>
        rw [if_pos rfl] at hh
        dsimp only at hh
        rcases hh with hh | hh
        · exact .inr ⟨fun e => hn0 c' (by rw [hh, e]), .inl hh⟩
        · simp at hh; exact .inl ⟨hh.1.symm, hh.2.symm⟩
      | false =>
        rw [if_neg (by simp)] at hh
        dsimp only at hh
        rcases hh with hh | hh
        · simp at hh; exact .inl ⟨hh.1.symm, hh.2.symm⟩
        · exact .inr ⟨fun e => hn1 c' (by rw [hh, e]), .inr hh⟩
theorem S2.keep_is (s : S2) (k : Nat) (c : UInt8) : isK (s.keep k c).l0 k = true ∨ isK (s.keep k c).l1 k = true := by
  have e2 : isK (some (k, c)) k = true := by simp [isK]
  obtain ⟨l0, l1, b⟩ := s
  unfold S2.keep
  dsimp only
  split
  · exact .inl e2
  · split
    · exact .inr e2
    · split
      · exact .inr e2
      · exact .inl e2
theorem Wok.none : Wok S2.none (List.replicate 256 0) := by
  refine ⟨List.length_replicate, fun j hj => ⟨0, by omega, ?_⟩, fun k c h => ?_⟩
  · rw [List.getD_eq_getElem?_getD, List.getElem?_replicate, if_pos hj]; rfl
  · rcases h with h | h <;> cases h
theorem Wok.keep {s : S2} {W : List Int} (h : Wok s W) (hs : s.ok) (k : Nat) (hk : k < 256) (n : Nat) (hn : n < 40) : Wok (s.keep k (UInt8.ofNat n)) (W.set k (n : Int)) := by
  obtain ⟨hl, h1, h2⟩ := h
  have hset : ∀ j, (W.set k (n : Int)).getD j 0 = if j = k then (n : Int) else W.getD j 0 := fun j => by
    rw [List.getD_eq_getElem?_getD, List.getElem?_set]
    by_cases e : j = k
    · subst e; rw [if_pos rfl, if_pos (by omega), if_pos rfl]; rfl
    · rw [if_neg (by omega), if_neg e, ← List.getD_eq_getElem?_getD]
  refine ⟨by rw [List.length_set]; exact hl, fun j hj => ?_, fun k' c' hh => ?_⟩
  · rw [hset]
    split
    · exact ⟨n, hn, rfl⟩
    · exact h1 j hj
  · rw [hset]
    rcases S2.keep_has hs k _ k' c' hh with ⟨rfl, rfl⟩ | ⟨hne, hh⟩
    · rw [if_pos rfl]; exact ⟨n, hn, rfl, rfl⟩
    · rw [if_neg hne]; exact h2 k' c' hh
theorem u8_sum (m i : Nat) (hm : m < 40) (hi : i < 16) : (((UInt8.ofNat m + UInt8.ofNat i).toNat : Nat) : Int) = (m : Int) + (i : Int) := by
  rw [UInt8.toNat_add]
  have h1 : (UInt8.ofNat m).toNat = m := by simp; omega
  have h2 : (UInt8.ofNat i).toNat = i := by simp; omega
  rw [h1, h2]
  omega
/-- What the law's comparison reckons of one place, where the place is kept. -/
theorem last_nums (m i : Nat) (hm : m < 40) (hi : i < 16) (v : Int) (hv : v = (m : Int) + (i : Int)) : IntKind.u8.wrap v = v ∧ IntKind.u8.wrap (m : Int) = (m : Int) ∧ IntKind.u8.wrap (i : Int) = (i : Int) ∧ IntKind.u8.wrap ((m : Int) + (i : Int)) = v := by
  subst hv
  refine ⟨?_, ?_, ?_, ?_⟩ <;> rw [IntKind.wrap_u8] <;> omega
theorem place_nums (j i : Nat) (hj : j < 256) (hi : i < 16) (P : Int) (hP : P = 16 * (j : Int) + (i : Int)) : wrap64 ((j : Int) * 16) = (j : Int) * 16 ∧ wrap64 ((j : Int) * 16 + (i : Int)) = P ∧ Hid (-9223372036854775808 ≤ P ∧ P < 9223372036854775808) := by
  subst hP
  refine ⟨IntWalk.wrap64_in _ (by omega), ?_, by rw [Hid]; omega⟩
  rw [IntWalk.wrap64_in _ (by omega)]; omega
end Go.Proofs.Ytbcdfobclliboaa
