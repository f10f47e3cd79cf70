/-
  The document's own queue, in a block and a row of its own, each call by a contract. Conditions: the queue lies in memory as told.
-/
import Derived.Test.YtkmhcihkdpdmoaaBlocks
import Derived.Deep.AppendLies
import Derived.Laws.AppendOwnNone
namespace Go.Proofs.Ytkmhcihkdpdmoaa
open Go.RowKit
set_option linter.unusedVariables false

/-- The document's queue in block b, its row laid since, holds L. -/
def RFif (w : World) (b : Nat) (L : List Int) : Prop := ∃ v, Blk w b 27 [v] ∧ Owns (b + 1) w v L
theorem RFif.only {w w' : World} {b c : Nat} {L : List Int} (h : RFif w b L) (k : Only c w w') (hc : c < b) : RFif w' b L := by
  obtain ⟨v, h1, h2⟩ := h
  refine ⟨v, k.blk h1 (by omega), h2.1, ?_⟩
  rcases h2.2 with h3 | ⟨g, cap, cur, hv, hb, hg, hr⟩
  · exact .inl h3
  · have hlt : g < w.heap.size := by
      rcases Nat.lt_or_ge g w.heap.size with hlt | hge
      · exact hlt
      · rw [Array.getElem?_eq_none hge] at hg; cases hg
    exact .inr ⟨g, cap, cur, hv, by omega, (k.block g hlt (by omega)).trans hg, hr⟩
theorem own_bounds {w : World} {B g n cap : Nat} {xs : List Value} (h : w.ownsRow B 3 1 (.slice (some ⟨g, 0, none⟩) n cap) n xs) : B ≤ g ∧ n ≤ cap := by
  rcases h.2 with ⟨h', _⟩ | ⟨g', cap', cur, h', hb, hg, hn, _⟩
  · simp at h'
  · simp only [Value.slice.injEq, Option.some.injEq, Addr.mk.injEq, and_true, true_and] at h'
    obtain ⟨rfl, rfl⟩ := h'
    exact ⟨hb, hn⟩
theorem owns_up {b : Nat} {w : World} {v : Value} {L : List Int} (h : Owns (b + 1) w v L) : w.ownsRow (b + 1) 3 1 v L.length (L.map (Value.int .i64)) := h
theorem owns_set {b : Nat} {w : World} {v : Value} {L : List Int} (h : Owns (b + 1) w v L) (i : Nat) (x : Value) : Owns (b + 1) (w.setCell ⟨b, i, none⟩ x) v L := by
  refine ⟨h.1, ?_⟩
  rcases h.2 with h3 | ⟨g, cap, cur, hv, hb, hg, hr⟩
  · exact .inl h3
  · refine .inr ⟨g, cap, cur, hv, hb, ?_, hr⟩
    rw [Below.heap_setCell _ _ _ _ (by show g ≠ b; omega)]
    exact hg
theorem blk_grown {b : Nat} {w w' : World} {T : TypeId} {L : List Value} (h : Blk w b T L) (k : Below (b + 1) w w') : Blk w' b T L := by
  unfold Blk at h ⊢
  rw [k.block b (by omega)]; exact h

set_option maxRecDepth 100000 in
set_option maxHeartbeats 1000000 in
theorem refPush_any (b : Nat) (L : List Int) (x : Int) (w : World) (h : RFif w b L) (hl : L.length ≤ 16) :
    Calls Try.prog 11 #[.pointer (some ⟨b, 0, none⟩), .int .i64 x] w fun e w' => e = .returned (.int .i64 (pushE L)) ∧ RFif w' b (pushL L x) ∧ Below b w w' := by
  obtain ⟨i0, hi, hz0, hz1, hz2⟩ := info_parts info3
  obtain ⟨v, h1, h2⟩ := h
  obtain ⟨a, cap, rfl, -⟩ := h2.reads
  have c0 : w.cell? ⟨b, 0, none⟩ = some (.slice a L.length cap) := h1.cell 0 rfl
  have hb : b < w.heap.size := h1.lt
  have H2 : Hid (Owns (b + 1) w (.slice a L.length cap) L) := h2
  have H1 : Hid (Blk w b 27 [.slice a L.length cap]) := h1
  by_cases e : L.length = 16
  · have e1 : pushE L = 801 := if_neg (by omega)
    have e2 : pushL L x = L := if_neg (by omega)
    rw [e1, e2]
    have HL : Hid (L.length = 16) := e
    rw [e] at c0
    clear h1 h2 hl e e1 e2
    go_enter Try.func11, Try.ntmps11
    go_wp2
    go_ret
    exact ⟨rfl, ⟨_, H1.out, H2.out⟩, Below.refl _ _⟩
  · have e1 : pushE L = 0 := if_pos (by omega)
    have e2 : pushL L x = L ++ [x] := if_pos (by omega)
    rw [e1, e2]
    have hlt : L.length < 16 := by omega
    clear h1 h2 hl e e1 e2
    go_enter Try.func11, Try.ntmps11
    go_wp2_with (at_builtin; refine wpList_append_lies _ rfl _ _ 22 rfl (b + 1) 3 i0 (.int .i64 0) 1 8 Try.underlying22 hi hz0 hz1 hz2 rfl (by decide) _ _ _ rfl ((owns_up H2.out).alloc _) ⟨w.heap.size, 0, none⟩ 1 1 [.int .i64 x] rfl rfl ?c1 ?c2 (by decide) ?c3 ?c4 ?c5 (w.heap.size + 1) (by simp) ?_)
    case c1 =>
      intro j u hj
      match j, hj with
      | 0, hj => simp at hj; subst hj; simp [Addr.add]
    case c2 => intro u hu; simp at hu; subst hu; rfl
    case c3 => unfold maxLen; omega
    case c4 => omega
    case c5 => simp; omega
    intro g cp w1 hown hgrow hat hlt1
    have HB : Hid (Below (b + 1) w w1) := ((Below.refl (b + 1) w).alloc (by omega) _).grown hgrow (by simp; omega) fun k hk => ((owns_up H2.out).lt k hk).1
    have HO : Hid (Owns (b + 1) w1 (.slice (some ⟨g, 0, none⟩) (L.length + 1) cp) (L ++ [x])) := by
      rw [Hid, Owns, List.map_append, List.length_append]; exact hown
    have K1 := blk_grown H1.out HB.out
    have k0 : w1.cell? ⟨b, 0, none⟩ = some (.slice a L.length cap) := K1.cell 0 rfl
    have f0 := K1.frozen 0
    have K2 : Hid (Blk (w1.setCell ⟨b, 0, none⟩ (.slice (some ⟨g, 0, none⟩) (L.length + 1) cp)) b 27 [.slice (some ⟨g, 0, none⟩) (L.length + 1) cp]) := K1.set 0 _
    clear hown hgrow hat hlt1 K1 c0
    go_wp2
    go_ret
    exact ⟨rfl, ⟨_, K2.out, owns_set HO.out 0 _⟩, (HB.out.mono (by omega)).setCell (by exact Nat.le_refl _) _⟩

theorem refPop_none (b : Nat) (w : World) (h : RFif w b []) :
    Calls Try.prog 8 #[.pointer (some ⟨b, 0, none⟩)] w fun e w' => e = .returned (.tuple #[.int .i64 0, .int .i64 800]) ∧ w = w' := by
  obtain ⟨v, h1, h2⟩ := h
  obtain ⟨a, cap, rfl, -⟩ := h2.reads
  have c0 : w.cell? ⟨b, 0, none⟩ = some (.slice a 0 cap) := h1.cell 0 rfl
  clear h1 h2
  go_enter Try.func8, Try.ntmps8
  go_wp2
  go_ret2
  exact ⟨rfl, rfl⟩

set_option maxRecDepth 100000 in
set_option maxHeartbeats 1000000 in
theorem refPop_yes (b : Nat) (x : Int) (L : List Int) (w : World) (h : RFif w b (x :: L)) (hl : L.length < 16) :
    Calls Try.prog 8 #[.pointer (some ⟨b, 0, none⟩)] w fun e w' => e = .returned (.tuple #[.int .i64 x, .int .i64 0]) ∧ RFif w' b L ∧ Below b w w' := by
  obtain ⟨i0, hi, hz0, hz1, hz2⟩ := info_parts info3
  obtain ⟨v, h1, h2⟩ := h
  have h2' : w.ownsRow (b + 1) 3 1 v (L.length + 1) ((x :: L).map (Value.int .i64)) := h2
  obtain ⟨g, cap, rfl, hg, hc⟩ := h2'.form (by omega)
  have c0 : w.cell? ⟨b, 0, none⟩ = some (.slice (some ⟨g, 0, none⟩) (L.length + 1) cap) := h1.cell 0 rfl
  have cx : w.cell? ⟨g, 0, none⟩ = some (.int .i64 x) := h2'.cellAt 0 (by simp)
  have hb : b < w.heap.size := h1.lt
  obtain ⟨hg1, hg2⟩ := own_bounds h2'
  have hnews : ∀ j u, (L.map (Value.int .i64))[j]? = some u → (w.alloc (.cells #[] 3)).cell? ((⟨g, 1, none⟩ : Addr).add j) = some u := fun j u hu => by
    have hj : j < L.length := by
      rcases Nat.lt_or_ge j L.length with h | h
      · exact h
      · rw [List.getElem?_eq_none (by rw [List.length_map]; omega)] at hu; cases hu
    have h3 : w.cell? ⟨g, j + 1, none⟩ = some u := by rw [h2'.cellAt (j + 1) (by simp; omega)]; exact hu
    have e : (⟨g, 1, none⟩ : Addr).add j = ⟨g, j + 1, none⟩ := by
      unfold Addr.add
      by_cases hz : j = 0
      · subst hz; rfl
      · rw [if_neg hz, Nat.add_comm]
    rw [e, ((Below.refl _ w).alloc (Nat.le_refl _) _).cell (by exact cell_lt h3)]
    exact h3
  have hown : (w.alloc (.cells #[] 3)).ownsRow (b + 1) 3 1 (.slice (some ⟨w.heap.size, 0, none⟩) 0 0) 0 [] := World.ownsRow_lit (base := b + 1) (e := 3) (size := 1) w #[] 0 (by omega) (by unfold maxLen; omega) rfl
  have HB : Hid (Blk w b 27 [.slice (some ⟨g, 0, none⟩) (L.length + 1) cap]) := h1
  have h1c : (1 : Int) ≤ (L.length : Int) + 1 := by omega
  have hci : (L.length : Int) + 1 ≤ cap := by omega
  clear h1 h2 h2' hg1 hg2 hg hc
  by_cases hcap : cap = 1
  · have hL : L = [] := List.length_eq_zero_iff.1 (by omega)
    subst hL
    subst hcap
    have K1 := HB.out.alloc (.cells #[] 3)
    have k0 : (w.alloc (.cells #[] 3)).cell? ⟨b, 0, none⟩ = some (.slice (some ⟨g, 0, none⟩) 1 1) := K1.cell 0 rfl
    have f0 := K1.frozen 0
    have K2 : Hid (Blk ((w.setCell ⟨b, 0, none⟩ (.slice (some ⟨w.heap.size, 0, none⟩) 0 0)).alloc (.cells #[] 3)) b 27 [.slice (some ⟨w.heap.size, 0, none⟩) 0 0]) := (HB.out.set 0 _).alloc _
    have HO : Hid (Owns (b + 1) ((w.setCell ⟨b, 0, none⟩ (.slice (some ⟨w.heap.size, 0, none⟩) 0 0)).alloc (.cells #[] 3)) (.slice (some ⟨w.heap.size, 0, none⟩) 0 0) []) := by
      have := World.ownsRow_lit (base := b + 1) (e := 3) (size := 1) (w.setCell ⟨b, 0, none⟩ (.slice (some ⟨w.heap.size, 0, none⟩) 0 0)) #[] 0 (by simp; omega) (by unfold maxLen; omega) rfl
      rw [show (w.setCell ⟨b, 0, none⟩ (.slice (some ⟨w.heap.size, 0, none⟩) 0 0)).heap.size = w.heap.size by simp] at this
      exact this
    clear hnews hown K1
    go_enter Try.func8, Try.ntmps8
    go_wp2
    go_ret2
    exact ⟨rfl, ⟨_, K2.out, HO.out⟩, ((Below.refl b w).setCell (by exact Nat.le_refl _) _).alloc (by simp; omega) _⟩
  · have hcap1 : ¬ (cap - 1 = 0) := by omega
    go_enter Try.func8, Try.ntmps8
    go_wp2_with (at_builtin; refine wpList_append_own _ rfl _ _ 22 rfl (b + 1) 3 i0 (.int .i64 0) 1 8 Try.underlying22 hi hz0 hz1 hz2 rfl (by decide) _ _ _ rfl hown ⟨g, 1, none⟩ L.length (cap - 1) (L.map (Value.int .i64)) rfl (by rw [List.length_map]; omega) hnews (ints_oneCell _ _) (by unfold maxLen; omega) (by omega) (by simp; omega) ?_)
    intro v' w' o1 o2 o3
    have HW : Hid (Below (b + 1) w w') := ((Below.refl (b + 1) w).alloc (by omega) _).grown o2 (by simp; omega) fun k hk => by
      have : w.heap.size = k := by simpa [Value.ownBlock] using hk
      omega
    have HO : Hid (Owns (b + 1) w' v' L) := by rw [Hid, Owns]; simpa using o1
    obtain ⟨a', cap', rfl, -⟩ := HO.out.reads
    have K1 := blk_grown HB.out HW.out
    have k0 : w'.cell? ⟨b, 0, none⟩ = some (.slice (some ⟨g, 0, none⟩) (L.length + 1) cap) := K1.cell 0 rfl
    have f0 := K1.frozen 0
    have K2 : Hid (Blk (w'.setCell ⟨b, 0, none⟩ (.slice a' L.length cap')) b 27 [.slice a' L.length cap']) := K1.set 0 _
    clear o1 o2 o3 K1 c0 hnews hown
    go_wp2
    go_ret2
    exact ⟨rfl, ⟨_, K2.out, owns_set HO.out 0 _⟩, (HW.out.mono (by omega)).setCell (by exact Nat.le_refl _) _⟩

theorem refPop_any (b : Nat) (L : List Int) (w : World) (h : RFif w b L) (hl : L.length ≤ 16) :
    Calls Try.prog 8 #[.pointer (some ⟨b, 0, none⟩)] w fun e w' => e = .returned (.tuple #[.int .i64 (popV L), .int .i64 (popE L)]) ∧ RFif w' b (popL L) ∧ Below b w w' := by
  cases L with
  | nil => exact (refPop_none b w h).mono fun e w' ⟨h1, h2⟩ => by subst h2; exact ⟨h1, h, Below.refl _ _⟩
  | cons x L => exact refPop_yes b x L w h (by simp at hl; omega)
end Go.Proofs.Ytkmhcihkdpdmoaa
