/-
  Keep, the program's and the document's, each told for every cache in the same words; New and NewCache so. Condition: the cache's lists are no longer than a list that is read may be.
-/
import Derived.Test.YtbcdfobclliboaaRefKeep
import Derived.Test.YtbcdfobclliboaaOpen
namespace Go.Proofs.Ytbcdfobclliboaa
open Go.RowKit Plain
set_option linter.unusedVariables false

def gA (A : List Int) (T : List ByteArray) (x a : Int) (s : ByteArray) : List Int := if kB A T x a s = true then kA A x a else []
def gT (A : List Int) (T : List ByteArray) (x a : Int) (s : ByteArray) : List ByteArray := if kB A T x a s = true then kT A T x a s else []
def gX (A : List Int) (T : List ByteArray) (x a : Int) (s : ByteArray) : Int := if kB A T x a s = true then kX A x a else 0
def gE (A : List Int) (T : List ByteArray) (x a : Int) (s : ByteArray) : Int := if kB A T x a s = true then 0 else 1200
/-- A Keep's answer, whether it is done or not. -/
def Gives (w : World) (A : List Int) (T : List ByteArray) (x a : Int) (s : ByteArray) (e : Ending) (w' : World) : Prop :=
  ∃ q1 n1 p1 q2 n2 p2 y, e = .returned (.tuple #[.agg #[.slice q1 n1 p1, .slice q2 n2 p2, .int .i64 y], .int .i64 (gE A T x a s)]) ∧
    CO w.heap.size w' (.agg #[.slice q1 n1 p1, .slice q2 n2 p2, .int .i64 y]) (gA A T x a s) (gT A T x a s) (gX A T x a s) ∧ Below w.heap.size w w'
theorem gives_of {w w' : World} {A : List Int} {T : List ByteArray} {x a : Int} {s : ByteArray} {e : Ending} (h : KeptE w A T x a s e w') : Gives w A T x a s e w' := by
  obtain ⟨hb, ⟨hk, q1, n1, p1, q2, n2, p2, y, he, hC⟩ | ⟨hk, he⟩⟩ := h
  · refine ⟨q1, n1, p1, q2, n2, p2, y, ?_, ?_, hb⟩
    · unfold gE; rw [if_pos hk]; exact he
    · unfold gA gT gX
      rw [if_pos hk, if_pos hk, if_pos hk]
      exact hC
  · refine ⟨none, 0, 0, none, 0, 0, 0, ?_, ?_, hb⟩
    · unfold gE; rw [if_neg (by rw [hk]; simp)]; exact he
    · unfold gA gT gX
      rw [if_neg (by rw [hk]; simp), if_neg (by rw [hk]; simp), if_neg (by rw [hk]; simp)]
      exact ⟨_, _, rfl, World.ownsRow_nil _ _ _ _, World.ownsRow_nil _ _ _ _⟩
theorem keep_told (c : Value) (A : List Int) (T : List ByteArray) (x a : Int) (s : ByteArray) (w : World) (h : CR w c A T x) (hf : Fit A T) (hs : s.size ≤ maxLen) :
    Calls Try.prog 9 #[c, .int .i64 a, .string s] w (Gives w A T x a s) := (keep_any c A T x a s w h hf hs).mono fun _ _ h => gives_of h
theorem refKeep_told (c : Value) (A : List Int) (T : List ByteArray) (x a : Int) (s : ByteArray) (w : World) (h : CR w c A T x) (hf : Fit A T) (hs : s.size ≤ maxLen) :
    Calls Try.prog 10 #[c, .int .i64 a, .string s] w (Gives w A T x a s) := (refKeep_any c A T x a s w h hf hs).mono fun _ _ h => gives_of h
/-- What is kept is short. -/
theorem g_short (A : List Int) (T : List ByteArray) (x a : Int) (s : ByteArray) : (gA A T x a s).length ≤ 2 ∧ (gT A T x a s).length ≤ 2 ∧ ∀ t ∈ gT A T x a s, t.size ≤ 16 := by
  unfold gA gT
  cases hk : kB A T x a s with
  | false => simp
  | true =>
    rw [if_pos rfl, if_pos rfl]
    unfold kB at hk
    simp only [Bool.and_eq_true] at hk
    obtain ⟨hm, hw⟩ := hk
    have h16 : s.size ≤ 16 := by
      unfold whB at hw
      simp at hw
      omega
    obtain ⟨hA, hT, -, -, l0, l1⟩ := may_lens hm
    have hsz : ∀ k, k < 2 → (T.getD k ByteArray.empty).size ≤ 16 := fun k hk => by
      have hl : liB A T k = true := by
        rcases (show k = 0 ∨ k = 1 by omega) with rfl | rfl
        · exact l0
        · exact l1
      rcases li_cases hl with ⟨-, h⟩ | ⟨-, -, -, h, -⟩
      · rw [h]; decide
      · omega
    unfold kA kT
    refine ⟨by rw [List.length_set]; omega, by rw [List.length_set]; omega, fun t ht => ?_⟩
    rcases List.mem_or_eq_of_mem_set ht with h | h
    · obtain ⟨k, hk, rfl⟩ := List.mem_iff_getElem.1 h
      have := hsz k (by omega)
      rw [List.getD_eq_getElem?_getD, List.getElem?_eq_getElem hk] at this
      exact this
    · rw [h]; exact h16
theorem g_fit (A : List Int) (T : List ByteArray) (x a : Int) (s : ByteArray) : Fit (gA A T x a s) (gT A T x a s) := by
  obtain ⟨h1, h2, h3⟩ := g_short A T x a s
  exact ⟨by omega, by omega, fun t ht => by have := h3 t ht; unfold maxLen; omega⟩
theorem new_fit : Fit [-1, -1] [ByteArray.empty, ByteArray.empty] := fit_two (by decide) (by decide)
theorem same_yes (A : List Int) (T : List ByteArray) (x : Int) : decide (A = A ∧ T = T ∧ x = x) = true := by simp
/-- The box of a cache that came in. -/
structure Bo (z : World) (b : Nat) (q1 : Option Addr) (n1 p1 : Nat) (q2 : Option Addr) (n2 p2 : Nat) (x : Int) (A : List Int) (T : List ByteArray) : Prop where
  blk : Blk z b 25 [.slice q1 n1 p1, .slice q2 n2 p2, .int .i64 x]
  reads : CR z (.agg #[.slice q1 n1 p1, .slice q2 n2 p2, .int .i64 x]) A T x
theorem Bo.below {z z' : World} {b : Nat} {q1 : Option Addr} {n1 p1 : Nat} {q2 : Option Addr} {n2 p2 : Nat} {x : Int} {A : List Int} {T : List ByteArray} (h : Bo z b q1 n1 p1 q2 n2 p2 x A T) (k : Below z.heap.size z z') : Bo z' b q1 n1 p1 q2 n2 p2 x A T :=
  ⟨h.blk.below k, h.reads.below k⟩
theorem Bo.cells {z : World} {b : Nat} {q1 : Option Addr} {n1 p1 : Nat} {q2 : Option Addr} {n2 p2 : Nat} {x : Int} {A : List Int} {T : List ByteArray} (h : Bo z b q1 n1 p1 q2 n2 p2 x A T) :
    z.cell? ⟨b, 0, none⟩ = some (.slice q1 n1 p1) ∧ z.cell? ⟨b, 1, none⟩ = some (.slice q2 n2 p2) ∧ z.cell? ⟨b, 2, none⟩ = some (.int .i64 x) :=
  ⟨h.blk.cell 0 rfl, h.blk.cell 1 rfl, h.blk.cell 2 rfl⟩
end Go.Proofs.Ytbcdfobclliboaa
