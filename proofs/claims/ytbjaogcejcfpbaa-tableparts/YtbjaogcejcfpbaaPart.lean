/-
  A command's phases, one by one: how many they are, the first, the second, the last, and where they lie in memory; which data and place a command may have. No conditions but those of each statement.
-/
import Derived.Test.YtbjaogcejcfpbaaAwake
import Derived.Test.YtbjaogcejcfpbaaAll
namespace Go.Proofs.Ytbjaogcejcfpbaa
open Go.RowKit
set_option linter.unusedVariables false

theorem and_63 (n : Int) : bits .and .i64 n 63 = n % 64 := and_mask n 6 (by omega)
theorem and_4095 (n : Int) : bits .and .i64 n 4095 = n % 4096 := and_mask n 12 (by omega)
/-- What the command b may be asked with. -/
def Asks (b : Int) (k : Nat) (L : List Int) (r : Int) : Prop :=
  k < 4096 ∧ (opA b = 0 → k = 0) ∧ fewB L = true ∧ 0 ≤ r ∧ r ≤ 63 ∧ (opM b = true → L.length = 1) ∧ (opI b = false → opM b = false → L = []) ∧ (¬ (0 < opN b ∧ opI b = false) → r = 0)
theorem asks_fit {b : Int} {k : Nat} {L : List Int} {r : Int} (hop : isOp b = true) (h : Asks b k L r) : fitB b (opA b) (opM b) (opD b) (opN b) (opI b) k L r = true := by
  obtain ⟨h0, h1, h2, h3, h4, h5, h6, h7⟩ := h
  have hkn : knB b (opA b) (opM b) (opD b) (opN b) (opI b) = true := by rw [knB, hop]; simp
  have hpl : plB (opA b) k = true := by
    unfold plB
    split
    · rename_i h
      exact decide_eq_true (by have := h1 h; omega)
    · exact decide_eq_true (by omega)
  rw [fit_yes hkn hpl h2 (by unfold rdB; exact decide_eq_true (by omega))]
  unfold caB
  rcases parts b hop with ⟨e0, e1, e2, e3⟩ | ⟨e0, e1, e2, e3⟩ | ⟨e0, e1, e2, e3⟩ | ⟨e0, e1, e2, e3⟩ | ⟨e0, e1, e2, e3⟩ | ⟨e0, e1, e2, e3⟩ | ⟨e0, e1, e2, e3⟩ | ⟨e0, e1, e2, e3⟩ <;>
    rw [e1] at h5 h6 <;> rw [e3] at h6 h7 <;> rw [e2] at h7 <;> rw [e1, e2, e3] <;> simp at h5 h6 h7 ⊢ <;> first | done | (rw [h6]; simp; done) | (rw [h6, h7]; simp; done) | exact h7 | exact h5 | exact ⟨h6, h7⟩ | exact h6
theorem byB_more {L : List Int} (h : byB L = true) (x : Int) : byB (L ++ [x % 256]) = true := by
  unfold byB at h ⊢
  rw [List.all_append, h]
  simp
  omega
theorem own_came {B : Nat} {w : World} {a : Option Addr} {c : Nat} {L : List Int} (h : Owns B w (.slice a L.length c) L) : Came w a L.length c L := by
  have h0 : w.ownsRow B 3 1 (.slice a L.length c) L.length (L.map (Value.int .i64)) := h
  rcases h.2 with ⟨hv, hn⟩ | ⟨g, cap, cur, hv, hb, hg, hnc, hcm, hcs, ht⟩
  · injection hv with e0 e1 e2
    exact ⟨rfl, .inl ⟨e0, hn, e2⟩⟩
  · injection hv with e0 e1 e2
    subst e0 e2
    exact came_reads h.reads (by omega)
theorem came_at {w : World} {a : Option Addr} {n cap : Nat} {L : List Int} (h : Came w a n cap L) (k : Nat) (hk : k < n) : ∃ g o, a = some ⟨g, o, none⟩ ∧ w.cell? ⟨g, o + k, none⟩ = some (.int .i64 (L.getD k 0)) := by
  obtain ⟨a', cap', he, h2⟩ := h.reads
  injection he with e0 e1 e2
  subst e0
  obtain ⟨g, o, ha, hc⟩ := h2 (by have := h.1; omega)
  exact ⟨g, o, ha, hc k (by have := h.1; omega)⟩
theorem addr_three {k : Nat} (hk : k < 4096) : addrL k = [0, ((k / 256 : Nat) : Int), ((k % 256 : Nat) : Int)] := by
  unfold addrL
  rw [show k / 65536 = 0 by omega, show k / 256 % 256 = k / 256 by omega]
  rfl
/-- A struct of four cells, just laid. -/
theorem four_new (w : World) (x0 x1 x2 x3 : Value) : (w.alloc (.cells #[x0, x1, x2, x3] 45)).cell? ⟨w.heap.size, 0, none⟩ = some x0 ∧ (w.alloc (.cells #[x0, x1, x2, x3] 45)).cell? ⟨w.heap.size, 1, none⟩ = some x1 ∧ (w.alloc (.cells #[x0, x1, x2, x3] 45)).cell? ⟨w.heap.size, 2, none⟩ = some x2 ∧ (w.alloc (.cells #[x0, x1, x2, x3] 45)).cell? ⟨w.heap.size, 3, none⟩ = some x3 := by
  have h := heap_alloc_new w (.cells #[x0, x1, x2, x3] 45)
  exact ⟨cell_of_row _ _ 0 _ 45 (0, 0) h, cell_of_row _ _ 1 _ 45 (0, 0) h, cell_of_row _ _ 2 _ 45 (0, 0) h, cell_of_row _ _ 3 _ 45 (0, 0) h⟩
/-- How many phases a command has. -/
def numP (o : Op6) (L : List Int) (r : Int) : Nat :=
  1 + (if 0 < o.2.1 then 1 else 0) + (if o.2.2.1 = true then 1 else 0) + (if 0 < o.2.2.2.1 then 1 else 0) + (if o.2.2.2.2.2 = true ∧ 0 < L.length then 1 else 0) + (if 0 < r then 1 else 0)
theorem one_length (c : Prop) [Decidable c] (p : Ph) : (if c then [p] else []).length = if c then 1 else 0 := by split <;> rfl
theorem phL_length (o : Op6) (k : Nat) (L : List Int) (r : Int) : (phL o k L r).length = numP o L r := by
  unfold phL numP
  simp only [List.length_append, one_length]
  rfl
theorem numP_le (o : Op6) (L : List Int) (r : Int) : 1 ≤ numP o L r ∧ numP o L r ≤ 6 := by
  unfold numP
  constructor
  · omega
  · split <;> split <;> split <;> split <;> split <;> omega
theorem phL_first (o : Op6) (k : Nat) (L : List Int) (r : Int) : (phL o k L r)[0]? = some (1, [o.1], 0, 0) := by
  unfold phL
  simp only [List.append_assoc]
  rfl
theorem phL_second (o : Op6) (k : Nat) (L : List Int) (r : Int) (h : 0 < o.2.1) : (phL o k L r)[1]? = some (o.2.1, addrL k, 0, 0) := by
  unfold phL
  rw [if_pos h]
  simp only [List.append_assoc]
  rfl
theorem last_of {X : List Ph} {p : Ph} {n : Nat} (h : (X ++ [p]).length = n) : (X ++ [p])[n - 1]? = some p := by
  rw [← h, List.length_append]
  simp
theorem phL_read (o : Op6) (k : Nat) (L : List Int) (r : Int) (n : Nat) (hn : numP o L r = n) (h : 0 < r) : (phL o k L r)[n - 1]? = some (o.2.2.2.2.1, [], 0, r) := by
  have hl := phL_length o k L r
  rw [hn] at hl
  unfold phL at hl ⊢
  rw [if_pos h] at hl ⊢
  exact last_of hl
theorem phL_data (o : Op6) (k : Nat) (L : List Int) (r : Int) (n : Nat) (hn : numP o L r = n) (h : o.2.2.2.2.2 = true ∧ 0 < L.length) (hr : ¬ 0 < r) : (phL o k L r)[n - 1]? = some (o.2.2.2.2.1, L, 0, 0) := by
  have hl := phL_length o k L r
  rw [hn] at hl
  unfold phL at hl ⊢
  rw [if_neg hr, List.append_nil, if_pos h] at hl ⊢
  exact last_of hl
theorem powns_form {B : Nat} {w : World} {v : Value} {qs : List (Value × Ph)} {P : List Ph} (h : POwns B w v qs) (hX : qs.map Prod.snd = P) (n : Nat) (hP : P.length = n) (hn : 1 ≤ n) : ∃ g c, v = .slice (some ⟨g, 0, none⟩) n c := by
  have hl : qs.length = n := by rw [← hP, ← hX, List.length_map]
  obtain ⟨g, c, rfl, -, -⟩ := h.1.form (by omega)
  exact ⟨g, c, by rw [hl]⟩
theorem ph_at {B g n c : Nat} {w : World} {qs : List (Value × Ph)} {P : List Ph} (h : POwns B w (.slice (some ⟨g, 0, none⟩) n c) qs) (hX : qs.map Prod.snd = P) (j : Nat) (p : Ph) (hj : P[j]? = some p) :
    ∃ a c', w.cell? ⟨g, j * 4, none⟩ = some (.int .i64 p.1) ∧ w.cell? ⟨g, j * 4 + 1, none⟩ = some (.slice a p.2.1.length c') ∧ w.cell? ⟨g, j * 4 + 2, none⟩ = some (.int .i64 p.2.2.1) ∧ w.cell? ⟨g, j * 4 + 3, none⟩ = some (.int .i64 p.2.2.2) ∧ Reads w (.slice a p.2.1.length c') p.2.1 := by
  subst hX
  rw [List.getElem?_map] at hj
  obtain ⟨q, hq, rfl⟩ := Option.map_eq_some_iff.1 hj
  have hlt : j < qs.length := by
    rcases Nat.lt_or_ge j qs.length with h | h
    · exact h
    · rw [List.getElem?_eq_none h] at hq; cases hq
  obtain ⟨g', e', hv, -, -⟩ := h.1.form (by omega)
  injection hv with _ hn _
  subst hn
  obtain ⟨c0, c1, c2, c3⟩ := rowC_at qs j q hq
  have hown := h.2 q (List.mem_of_getElem? hq)
  obtain ⟨a, c', e⟩ := own_slice hown
  have hr := hown.reads
  rw [e] at c1 hr
  exact ⟨a, c', (h.1.cellAt (j * 4) (by omega)).trans c0, (h.1.cellAt (j * 4 + 1) (by omega)).trans c1, (h.1.cellAt (j * 4 + 2) (by omega)).trans c2, (h.1.cellAt (j * 4 + 3) (by omega)).trans c3, hr⟩
end Go.Proofs.Ytbjaogcejcfpbaa
