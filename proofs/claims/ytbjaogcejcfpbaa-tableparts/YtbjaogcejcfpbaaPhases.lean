/-
  Rows of phases as the calls of this seat hand them on: what lies in memory, and that it lies so behind an append and behind a call that wrote nothing old. No conditions but those of each statement.
-/
import Derived.Test.YtbjaogcejcfpbaaLend
namespace Go.Proofs.Ytbjaogcejcfpbaa
open Go.RowKit
set_option linter.unusedVariables false

/-- A phase: lanes, bytes, clocks, read. -/
abbrev Ph := Int × List Int × Int × Int
/-- Its cells, where its bytes lie at bv. -/
def phC (bv : Value) (p : Ph) : List Value := [.int .i64 p.1, bv, .int .i64 p.2.2.1, .int .i64 p.2.2.2]
def rowC (qs : List (Value × Ph)) : List Value := qs.flatMap fun q => phC q.1 q.2
theorem rowC_nil : rowC [] = [] := rfl
theorem rowC_cons (q : Value × Ph) (qs : List (Value × Ph)) : rowC (q :: qs) = phC q.1 q.2 ++ rowC qs := by simp [rowC]
theorem rowC_append (ps qs : List (Value × Ph)) : rowC (ps ++ qs) = rowC ps ++ rowC qs := by simp [rowC]
theorem rowC_one (bv : Value) (p : Ph) : rowC [(bv, p)] = phC bv p := by simp [rowC]
theorem rowC_length (qs : List (Value × Ph)) : (rowC qs).length = qs.length * 4 := by
  induction qs with
  | nil => rfl
  | cons q qs ih => rw [rowC_cons, List.length_append, ih, List.length_cons]; simp [phC]; omega
theorem rowC_at : ∀ (qs : List (Value × Ph)) (j : Nat) (q : Value × Ph), qs[j]? = some q → (rowC qs)[j * 4]? = some (.int .i64 q.2.1) ∧ (rowC qs)[j * 4 + 1]? = some q.1 ∧ (rowC qs)[j * 4 + 2]? = some (.int .i64 q.2.2.2.1) ∧ (rowC qs)[j * 4 + 3]? = some (.int .i64 q.2.2.2.2)
  | [], j, q, h => by simp at h
  | p :: qs, 0, q, h => by
    simp at h; subst h
    rw [rowC_cons]; exact ⟨rfl, rfl, rfl, rfl⟩
  | p :: qs, j + 1, q, h => by
    have h' := rowC_at qs j q (by simpa using h)
    have e : ∀ k, (rowC (p :: qs))[(j + 1) * 4 + k]? = (rowC qs)[j * 4 + k]? := fun k => by
      rw [rowC_cons, show (j + 1) * 4 + k = (phC p.1 p.2).length + (j * 4 + k) by simp [phC]; omega, List.getElem?_append_right (by omega), Nat.add_sub_cancel_left]
    exact ⟨(e 0).trans h'.1, (e 1).trans h'.2.1, (e 2).trans h'.2.2.1, (e 3).trans h'.2.2.2⟩

theorem info45 : (Try.prog.info? 45).map (fun i => (i.zero, i.size, i.bytes)) = some (some (.agg #[.int .i64 0, .slice none 0 0, .int .i64 0, .int .i64 0]), 4, 48) := by kernel_rfl

/-- The slice v, in memory laid since block B, holds the phases qs (each with the value of its bytes), and all of it may be written. -/
def POwns (B : Nat) (w : World) (v : Value) (qs : List (Value × Ph)) : Prop :=
  w.ownsRow B 45 4 v qs.length (rowC qs) ∧ ∀ q ∈ qs, Owns B w q.1 q.2.2.1
/-- The slice v reads as the phases ps. -/
def PReads (w : World) (v : Value) (ps : List Ph) : Prop :=
  ∃ a cap, v = .slice a ps.length cap ∧ (0 < ps.length → ∃ g o, a = some ⟨g, o, none⟩ ∧ ∀ j p, ps[j]? = some p → ∃ bv, Reads w bv p.2.1 ∧ w.cell? ⟨g, o + j * 4, none⟩ = some (.int .i64 p.1) ∧ w.cell? ⟨g, o + j * 4 + 1, none⟩ = some bv ∧ w.cell? ⟨g, o + j * 4 + 2, none⟩ = some (.int .i64 p.2.2.1) ∧ w.cell? ⟨g, o + j * 4 + 3, none⟩ = some (.int .i64 p.2.2.2))

theorem own_apart {B C : Nat} {w : World} {u v : Value} {n m e s e' s' : Nat} {xs ys : List Value} (h : w.ownsRow B e s u n xs) (k : w.ownsRow C e' s' v m ys) (he : e ≠ e') : u.ownBlock = none ∨ u.ownBlock ≠ v.ownBlock := by
  rcases h.2 with ⟨rfl, -⟩ | ⟨g, cap, cur, rfl, -, hg, -⟩
  · exact .inl rfl
  · right
    rcases k.2 with ⟨rfl, -⟩ | ⟨g', cap', cur', rfl, -, hg', -⟩
    · simp [Value.ownBlock]
    · intro h
      have : g = g' := by simpa [Value.ownBlock] using h
      subst this
      rw [hg] at hg'
      simp at hg'
      exact he hg'.2
theorem POwns.more {B : Nat} {w w' : World} {v v' bv : Value} {qs : List (Value × Ph)} {p : Ph} (h : POwns B w v qs) (hb : Owns B w bv p.2.1) (ho : w'.ownsRow B 45 4 v' (qs.length + 1) (rowC qs ++ phC bv p)) (hg : w.grownBy w' v.ownBlock) : POwns B w' v' (qs ++ [(bv, p)]) := by
  refine ⟨by rw [rowC_append, rowC_one, List.length_append]; exact ho, fun q hq => ?_⟩
  rcases List.mem_append.1 hq with hq | hq
  · exact (h.2 q hq).kept hg (own_apart (h.2 q hq) h.1 (by decide))
  · have : q = (bv, p) := by simpa using hq
    subst this
    exact World.ownsRow.kept hb hg (own_apart hb h.1 (by decide))
theorem POwns.below {B B' : Nat} {w w' : World} {v : Value} {qs : List (Value × Ph)} (h : POwns B w v qs) (b : Below w.heap.size w w') (hB : B' ≤ B) : POwns B' w' v qs := by
  refine ⟨⟨h.1.1, ?_⟩, fun q hq => (h.2 q hq).below b hB⟩
  rcases h.1.2 with h2 | ⟨g, cap, cur, hv, hb, hg, hr⟩
  · exact .inl h2
  · have hlt : g < w.heap.size := by
      rcases Nat.lt_or_ge g w.heap.size with hlt | hge
      · exact hlt
      · rw [Array.getElem?_eq_none hge] at hg; cases hg
    exact .inr ⟨g, cap, cur, hv, by omega, (b.block g hlt).trans hg, hr⟩
theorem POwns.reads {B : Nat} {w : World} {v : Value} {qs : List (Value × Ph)} (h : POwns B w v qs) : PReads w v (qs.map Prod.snd) := by
  rcases h.1.2 with ⟨rfl, hn⟩ | ⟨g, cap, cur, rfl, hb, hg, hnc, hcm, hcs, ht⟩
  · exact ⟨none, 0, by rw [List.length_map, hn], fun hp => by rw [List.length_map] at hp; omega⟩
  · refine ⟨some ⟨g, 0, none⟩, cap, by rw [List.length_map], fun hp => ⟨g, 0, rfl, fun j p hj => ?_⟩⟩
    rw [List.getElem?_map] at hj
    obtain ⟨q, hq, rfl⟩ := Option.map_eq_some_iff.1 hj
    have hlt : j < qs.length := by
      rcases Nat.lt_or_ge j qs.length with h | h
      · exact h
      · rw [List.getElem?_eq_none h] at hq; cases hq
    obtain ⟨c0, c1, c2, c3⟩ := rowC_at qs j q hq
    have e : ∀ k, k < 4 → w.cell? ⟨g, 0 + j * 4 + k, none⟩ = (rowC qs)[j * 4 + k]? := fun k hk => by
      rw [Nat.zero_add, h.1.cellAt (j * 4 + k) (by omega)]
    exact ⟨q.1, (h.2 q (List.mem_of_getElem? hq)).reads, (e 0 (by omega)).trans c0, (e 1 (by omega)).trans c1, (e 2 (by omega)).trans c2, (e 3 (by omega)).trans c3⟩
theorem PReads.below {w w' : World} {v : Value} {ps : List Ph} (h : PReads w v ps) (b : Below w.heap.size w w') : PReads w' v ps := by
  obtain ⟨a, cap, rfl, h2⟩ := h
  refine ⟨a, cap, rfl, fun hp => ?_⟩
  obtain ⟨g, o, rfl, hc⟩ := h2 hp
  refine ⟨g, o, rfl, fun j p hj => ?_⟩
  obtain ⟨bv, h0, h1, h2, h3, h4⟩ := hc j p hj
  exact ⟨bv, h0.below b, (b.cell (by exact cell_lt h1)).trans h1, (b.cell (by exact cell_lt h2)).trans h2, (b.cell (by exact cell_lt h3)).trans h3, (b.cell (by exact cell_lt h4)).trans h4⟩
theorem preads_lit {w : World} {g n : Nat} {cs : Array Value} (qs : List (Value × Ph)) (hg : w.heap[g]? = some (.cells cs 45 (0, 0))) (hc : cs.toList = rowC qs) (hn : qs.length = n) (hr : ∀ q ∈ qs, Reads w q.1 q.2.2.1) (c : Nat) : PReads w (.slice (some ⟨g, 0, none⟩) n c) (qs.map Prod.snd) := by
  subst hn
  refine ⟨some ⟨g, 0, none⟩, c, by rw [List.length_map], fun hp => ⟨g, 0, rfl, fun j p hj => ?_⟩⟩
  rw [List.getElem?_map] at hj
  obtain ⟨q, hq, rfl⟩ := Option.map_eq_some_iff.1 hj
  obtain ⟨c0, c1, c2, c3⟩ := rowC_at qs j q hq
  have e : ∀ k, w.cell? ⟨g, 0 + j * 4 + k, none⟩ = (rowC qs)[j * 4 + k]? := fun k => by
    rw [Nat.zero_add, cell_of_row w g (j * 4 + k) cs 45 (0, 0) hg, ← Array.getElem?_toList, hc]
  exact ⟨q.1, hr q (List.mem_of_getElem? hq), (e 0).trans c0, (e 1).trans c1, (e 2).trans c2, (e 3).trans c3⟩
theorem POwns.nil (B : Nat) (w : World) : POwns B w (.slice none 0 0) [] := ⟨World.ownsRow_nil _ _ _ _, fun q hq => by simp at hq⟩
/-- A row of one phase, written out. -/
theorem POwns.lit {B : Nat} {w : World} {bv : Value} {p : Ph} (h : Owns B w bv p.2.1) (hB : B ≤ w.heap.size) : POwns B (w.alloc (.cells #[.int .i64 p.1, bv, .int .i64 p.2.2.1, .int .i64 p.2.2.2] 45)) (.slice (some ⟨w.heap.size, 0, none⟩) 1 1) [(bv, p)] := by
  refine ⟨?_, fun q hq => ?_⟩
  · have := World.ownsRow_lit (base := B) (e := 45) (size := 4) w #[.int .i64 p.1, bv, .int .i64 p.2.2.1, .int .i64 p.2.2.2] 1 hB (by unfold maxLen; omega) rfl
    rw [rowC_one]
    exact this
  · have : q = (bv, p) := by simpa using hq
    subst this
    exact World.ownsRow.alloc h _
theorem phC_one {bv : Value} {p : Ph} {n : Nat} {a : Option Addr} {c : Nat} (hb : bv = .slice a n c) : ∀ u ∈ phC bv p, u.oneCell' = true := by
  subst hb
  intro u hu
  simp [phC] at hu
  rcases hu with rfl | rfl | rfl | rfl <;> rfl
theorem own_slice {B : Nat} {w : World} {v : Value} {L : List Int} (h : Owns B w v L) : ∃ a c, v = .slice a L.length c := by
  rcases h.2 with ⟨rfl, hn⟩ | ⟨g, cap, cur, rfl, -⟩
  · exact ⟨none, 0, by rw [hn]⟩
  · exact ⟨_, cap, rfl⟩
theorem Came.below {w w' : World} {a : Option Addr} {n cap : Nat} {L : List Int} (h : Came w a n cap L) (b : Below w.heap.size w w') : Came w' a n cap L := by
  obtain ⟨hn, h0 | ⟨x, rfl, hnc, hc⟩⟩ := h
  · exact ⟨hn, .inl h0⟩
  · exact ⟨hn, .inr ⟨x, rfl, hnc, fun j hj => (b.cell (by exact cell_lt (hc j hj))).trans (hc j hj)⟩⟩
theorem Came.none (w : World) : Came w none 0 0 [] := ⟨rfl, .inl ⟨rfl, rfl, rfl⟩⟩
theorem came_reads {w : World} {g n c : Nat} {L : List Int} (h : Reads w (.slice (some ⟨g, 0, none⟩) n c) L) (hc : n ≤ c) : Came w (some ⟨g, 0, none⟩) n c L := by
  obtain ⟨a, cap, he, h2⟩ := h
  injection he with h3 h4 h5
  refine ⟨h4.symm, .inr ⟨_, rfl, hc, fun j hj => ?_⟩⟩
  obtain ⟨g', o, ha, hcell⟩ := h2 (by omega)
  rw [← h3] at ha
  injection ha with ha
  injection ha with h6 h7 h8
  subst h6 h7
  have := hcell j (by omega)
  rw [Nat.zero_add] at this
  have hadd : (⟨g, 0, Option.none⟩ : Addr).add j = ⟨g, j, Option.none⟩ := by unfold Addr.add; split <;> simp_all
  rw [hadd]
  exact this
theorem Lent.came {w : World} {g n cap : Nat} {L : List Int} (h : Lent w g n cap L) : Came w (some ⟨g, 0, none⟩) n cap L := came_reads h.reads (by have := h.2.1; omega)
end Go.Proofs.Ytbjaogcejcfpbaa
