/-
  Calls of a chip for the laws on losses, on pages and on reads that go on; the numbers of their tables. Conditions: those of each statement.
-/
import Derived.Test.YthhchfldgkgfpaaGreatBusy
namespace Go.Proofs.YthhchfldgkgfpaaGreat
open Go.RowKit Plain
set_option linter.unusedVariables false

def tableB : List Nat := [6, 4, 5, 159, 117, 122, 3, 0]
theorem tableB_is (r : Nat) (hr : r < 8) : tableB.getD r 0 = 6 ∨ tableB.getD r 0 = 4 ∨ tableB.getD r 0 = 5 ∨ tableB.getD r 0 = 159 ∨ tableB.getD r 0 = 117 ∨ tableB.getD r 0 = 122 ∨ tableB.getD r 0 = 3 ∨ tableB.getD r 0 = 0 := by
  rcases (by omega : r = 0 ∨ r = 1 ∨ r = 2 ∨ r = 3 ∨ r = 4 ∨ r = 5 ∨ r = 6 ∨ r = 7) with rfl | rfl | rfl | rfl | rfl | rfl | rfl | rfl <;> decide
theorem select_run (n b : Nat) (u w : World) (s : St) (h : Hid (Run n b u w s)) (hl : s.sel = false) :
    Calls Tryz.prog 10 #[.pointer (some ⟨b, 0, none⟩)] w fun e w' => e = .returned (.int .i64 0) ∧ Hid (Run n b u w' s.select) ∧ Only b w w' :=
  (select_lies n b s w h.out.lies hl).mono fun e w' ⟨h1, h2, h3⟩ => ⟨h1, ⟨h2, h.out.only.trans h3⟩, h3⟩
theorem deselect_run (n m b : Nat) (u w : World) (s : St) (h : Hid (Run n b u w s)) (hl : s.sel = true) (hn : n < 1000000) :
    Calls Tryz.prog 12 #[.pointer (some ⟨b, 0, none⟩)] w fun e w' => e = .returned (.int .i64 0) ∧ Hid (Run m b u w' s.deselect) ∧ Only b w w' :=
  (deselect_lies n m b s w h.out.lies (by omega) hl).mono fun e w' ⟨h1, h2, h3⟩ => ⟨h1, ⟨h2, h.out.only.trans h3⟩, h3⟩
theorem clock_at (n b : Nat) (u w : World) (s : St) (x y : Nat) (h : Hid (Run n b u w s)) (hn : n < 1000000) (hx : x < 16) (hy : (s.clock x).2 = y) :
    Calls Tryz.prog 14 #[.pointer (some ⟨b, 0, none⟩), .int .i64 (x : Int)] w fun e w' => e = .returned (.tuple #[.int .i64 (y : Int), .int .i64 0]) ∧ Hid (Run (n + 1) b u w' (s.clock x).1) ∧ Only b w w' := by
  subst hy
  exact (clock_lies n b s x w h.out.lies (by omega) hx).mono fun e w' ⟨h1, h2, h3⟩ => ⟨h1, ⟨h2, h.out.only.trans h3⟩, h3⟩
theorem loss_run (n m b : Nat) (u w : World) (s : St) (t : ByteArray) (h : Hid (Run n b u w s)) (ht : t.size ≤ maxLen) :
    Calls Tryz.prog 21 #[.pointer (some ⟨b, 0, none⟩), .string t] w fun e w' => e = .returned (.int .i64 0) ∧ Hid (Run m b u w' (s.loss t)) ∧ Only b w w' :=
  (loss_lies n m b s t w h.out.lies ht).mono fun e w' ⟨h1, h2, h3⟩ => ⟨h1, ⟨h2, h.out.only.trans h3⟩, h3⟩
/-- What the chip is behind the clocks of the law, just ahead of the loss. -/
structure St.Off (s : St) (A : ByteArray) : Prop where
  A : s.A = A
  left : s.left = 0
  prot : s.prot = false
  quad : s.quad = false
theorem off_still {s : St} {A : ByteArray} (h : s.Still A) (L : List Int) : (s.next L).Off A := ⟨h.A, h.rest.left, h.prot, h.quad⟩
theorem still_next {s : St} {A : ByteArray} (h : s.Still A) (L : List Int) : (s.next L).Still A := ⟨⟨⟨h.rest.idle.sel, h.rest.idle.goes, h.rest.idle.k⟩, h.rest.left, h.rest.sus⟩, h.A, h.prot, h.quad⟩
theorem off_clock {s : St} {A : ByteArray} (h : s.Still A) : (s.select.clock 14).1.Off A := by
  obtain ⟨h1, h2, h3, h4, _⟩ := clock_picked h
  exact ⟨h1, h2, h3, h4⟩
/-- Sectors ahead of the one that is erased. -/
theorem erase_low (A : ByteArray) (hA : A.size = 4096) (k : Nat) (hk : k ≤ 2048) : ∀ j, j < k → ub (erase A 4 ⟨#[255]⟩) j = ub A j := fun j hj => by
  rw [erase_ub (by omega), if_neg (by omega)]
theorem only_grown {g : Nat} {w w' : World} (h : w.grownBy w' (some g)) : Only g w w' := ⟨h.os, h.tape, h.output, h.size, fun k hk hb => h.block k hk (fun e => hb (by cases e; rfl))⟩
theorem owns_nil {B : Nat} {w : World} : Owns B w (.slice none 0 0) [] := World.ownsRow_nil _ _ _ _
theorem src_here {B : Nat} {w : World} {g n c : Nat} {L : List Nat} (h : Hid (Owns B w (.slice (some ⟨g, 0, none⟩) n c) (nums L))) : Hid (∀ j u, ((nums L).map (Value.int .i64))[j]? = some u → w.cell? ((⟨g, 0, none⟩ : Addr).add j) = some u) := fun j u hj => by
  have hjl : j < L.length := by
    have := (List.getElem?_eq_some_iff.1 hj).1
    simpa [nums_length] using this
  have h1 := owns_cell h j hjl
  have e0 : (⟨g, 0, none⟩ : Addr).add j = ⟨g, j, none⟩ := by unfold Addr.add; split <;> simp_all
  rw [e0, h1]
  rw [List.getElem?_map] at hj
  unfold nums at hj
  rw [List.getElem?_map] at hj
  rw [List.getD_eq_getElem?_getD]
  cases e : L[j]? with
  | none => rw [e] at hj; cases hj
  | some y => rw [e] at hj; exact hj
/-- A chip that no duration waits in, behind something that grew elsewhere. -/
theorem rn_past {n b B : Nat} {u w w' : World} {s : St} (h : Hid (Run n b u w s)) (hd : s.durs = []) (hb : b < B) (k : Below B w w') : Hid (Run n b w' w' s) := by
  refine rn_start ?_
  obtain ⟨⟨ds, h1, h2⟩, h3⟩ := h.out.lies
  have hB : LiesB B n b w s := ⟨ds, h1, h2, fun g _ h0 => by rw [hd] at h0; exact absurd h0 (by decide), h3, hb⟩
  exact (hB.below k).lies
theorem ub_cut (s : ByteArray) (lo hi i : Nat) (h : lo + i < hi) (hs : hi ≤ s.size) : ub (s.extract lo hi) i = ub s (lo + i) := by
  rw [ub_of _ _ (by rw [ByteArray.size_extract]; omega), ub_of _ _ (by omega)]
  exact ByteArray.getElem_extract ..
theorem cut_same (E A : ByteArray) (k : Nat) (hE : k ≤ E.size) (hA : k ≤ A.size) (h : ∀ j, j < k → ub E j = ub A j) : ((E.extract 0 k).toList == (A.extract 0 k).toList) = true := by
  have e : E.extract 0 k = A.extract 0 k := by
    apply ext_ub (by rw [ByteArray.size_extract, ByteArray.size_extract]; omega)
    intro j hj
    rw [ByteArray.size_extract] at hj
    rw [ub_cut _ _ _ _ (by omega) hE, ub_cut _ _ _ _ (by omega) hA, h _ (by omega)]
  rw [e]; simp
end Go.Proofs.YthhchfldgkgfpaaGreat
