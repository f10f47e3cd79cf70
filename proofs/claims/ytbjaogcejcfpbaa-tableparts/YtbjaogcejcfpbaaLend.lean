/-
  A row lent with marked room behind it, and whether it was kept, each by a contract. Condition: the row is no longer than a row that is read may be.
-/
import Derived.Test.YtbjaogcejcfpbaaSame
import Derived.Deep.AppendLies
import Derived.Laws.AppendOwnNone
namespace Go.Proofs.Ytbjaogcejcfpbaa
open Go.RowKit
set_option linter.unusedVariables false

/-- A slice that came in reads as the numbers L. -/
def Came (w : World) (a : Option Addr) (n cap : Nat) (L : List Int) : Prop :=
  L.length = n ∧ ((a = none ∧ n = 0 ∧ cap = 0) ∨ ∃ x, a = some x ∧ n ≤ cap ∧ ∀ j, j < n → w.cell? (x.add j) = some (.int .i64 (L.getD j 0)))

set_option maxRecDepth 100000 in
set_option maxHeartbeats 1000000 in
theorem copy_any (a : Option Addr) (n cap : Nat) (L : List Int) (w : World) (h : Came w a n cap L) (hb : n * 8 ≤ 140737488351232) :
    Calls Try.prog 21 #[.slice a n cap] w fun e w' => ∃ v, e = .returned v ∧ w'.ownsRow w.heap.size 3 1 v n (L.map (Value.int .i64)) ∧ Below w.heap.size w w' := by
  obtain ⟨i0, hi, hz0, hz1, hz2⟩ := info_parts info3
  have hown : (w.alloc (.cells #[] 3)).ownsRow w.heap.size 3 1 (.slice (some ⟨w.heap.size, 0, none⟩) 0 0) 0 [] := World.ownsRow_lit (base := w.heap.size) (e := 3) (size := 1) w #[] 0 (Nat.le_refl _) (by unfold maxLen; omega) rfl
  obtain ⟨hn, ⟨rfl, rfl, rfl⟩ | ⟨x, rfl, hnc, hc⟩⟩ := h
  · have hL : L = [] := List.length_eq_zero_iff.1 hn
    subst hL
    go_enter Try.func21, Try.ntmps21
    go_wp2
    go_ret
    exact ⟨_, rfl, hown, (Below.refl _ _).alloc (Nat.le_refl _) _⟩
  · have hnews : ∀ j u, (L.map (Value.int .i64))[j]? = some u → (w.alloc (.cells #[] 3)).cell? (x.add j) = some u := fun j u hu => by
      have hj : j < n := by
        rcases Nat.lt_or_ge j n with h | h
        · exact h
        · rw [List.getElem?_eq_none (by rw [List.length_map]; omega)] at hu; cases hu
      have h1 := hc j hj
      rw [((Below.refl _ w).alloc (Nat.le_refl _) _).cell (by exact cell_lt h1), h1, ← hu, List.getElem?_map, List.getD_eq_getElem?_getD, List.getElem?_eq_getElem (by omega)]
      rfl
    have HN : Hid (L.length = n) := hn
    clear hc hn
    go_enter Try.func21, Try.ntmps21
    go_wp2_with (at_builtin; refine wpList_append_own _ rfl _ _ 24 rfl w.heap.size 3 i0 (.int .i64 0) 1 8 Try.underlying24 hi hz0 hz1 hz2 rfl (by decide) _ _ _ rfl hown x n cap (L.map (Value.int .i64)) rfl (by rw [List.length_map, HN.out]; omega) hnews (ints_oneCell _ _) (by unfold maxLen; omega) (by omega) (by simp) ?_)
    intro v' w' h1 h2 h3
    have HO : Hid (w'.ownsRow w.heap.size 3 1 v' n (L.map (Value.int .i64))) := h1
    have HB : Hid (Below w.heap.size w w') := ((Below.refl _ _).alloc (Nat.le_refl _) _).grown h2 (by simp) fun k hk => by
      have : w.heap.size = k := by simpa [Value.ownBlock] using hk
      omega
    clear h1 h2 h3 hnews hown
    go_wp2
    go_ret
    exact ⟨_, rfl, HO.out, HB.out⟩

theorem own_bounds {w : World} {B g n cap : Nat} {xs : List Value} (h : w.ownsRow B 3 1 (.slice (some ⟨g, 0, none⟩) n cap) n xs) : B ≤ g ∧ n ≤ cap := by
  rcases h.2 with ⟨h', _⟩ | ⟨g', cap', cur, h', hb, hg, hn, _⟩
  · simp at h'
  · simp only [Value.slice.injEq, Option.some.injEq, Addr.mk.injEq, and_true, true_and] at h'
    obtain ⟨rfl, rfl⟩ := h'
    exact ⟨hb, hn⟩

/-- The row lent: L, and two marks behind it. -/
def lentL (L : List Int) : List Int := L ++ [-7777, -8888]
def Lent (w : World) (g n cap : Nat) (L : List Int) : Prop :=
  L.length = n ∧ n + 2 ≤ cap ∧ ∀ j, j < n + 2 → w.cell? ⟨g, j, none⟩ = some (.int .i64 ((lentL L).getD j 0))

set_option maxRecDepth 100000 in
set_option maxHeartbeats 1000000 in
theorem lend_any (a : Option Addr) (n cap : Nat) (L : List Int) (w : World) (h : Came w a n cap L) (hb : n * 8 ≤ 140737488351232) :
    Calls Try.prog 9 #[.slice a n cap] w fun e w' => ∃ g c, e = .returned (.slice (some ⟨g, 0, none⟩) n c) ∧ w.heap.size ≤ g ∧ g < w'.heap.size ∧ Lent w' g n c L ∧ Below w.heap.size w w' := by
  obtain ⟨i0, hi, hz0, hz1, hz2⟩ := info_parts info3
  have hn : Hid (L.length = n) := h.1
  have H : Hid (Came w a n cap L) := h
  clear h
  go_enter Try.func9, Try.ntmps9
  go_wp2_with fail
  refine (copy_any a n cap L _ H.out hb).mono ?_
  rintro e w1 ⟨v, rfl, hown, b1⟩
  have hsz : w.heap.size ≤ w1.heap.size := b1.size
  go_wp2_with (at_builtin; refine wpList_append_lies _ rfl _ _ 24 rfl w.heap.size 3 i0 (.int .i64 0) 1 8 Try.underlying24 hi hz0 hz1 hz2 rfl (by decide) _ _ _ rfl (hown.alloc _) ⟨w1.heap.size, 0, none⟩ 2 2 [.int .i64 (-7777), .int .i64 (-8888)] rfl rfl ?c1 ?c2 (by decide) ?c3 ?c4 ?c5 (w1.heap.size + 1) (by simp) ?_)
  case c1 =>
    intro j u hj
    match j, hj with
    | 0, hj => simp at hj; subst hj; simp [Addr.add]
    | 1, hj => simp at hj; subst hj; simp [Addr.add]
  case c2 => intro u hu; simp at hu; rcases hu with rfl | rfl <;> rfl
  case c3 => unfold maxLen; omega
  case c4 => omega
  case c5 => simp; omega
  intro g c w2 hown2 hgrow hat hlt
  obtain ⟨hgb, hnc⟩ := own_bounds hown2
  have HB : Hid (Below w.heap.size w w2) := ((b1.trans ((Below.refl _ _).alloc hsz _))).grown hgrow (by simp; omega) fun k hk => (hown.lt k hk).1
  have HL : Hid (Lent w2 g n c L) := by
    refine ⟨hn.out, hnc, fun j hj => ?_⟩
    rw [hown2.cellAt j (by omega), show L.map (Value.int .i64) ++ [.int .i64 (-7777), .int .i64 (-8888)] = (lentL L).map (Value.int .i64) from by simp [lentL], List.getElem?_map, List.getD_eq_getElem?_getD, List.getElem?_eq_getElem (by rw [lentL, List.length_append, hn.out]; exact hj)]
    rfl
  clear hown hown2 hgrow hat b1
  have h1 : (n : Int) ≤ c := by omega
  go_wp2
  go_ret
  exact ⟨g, c, rfl, hgb, hlt, HL.out, HB.out⟩

theorem Lent.below {w w' : World} {g n cap B : Nat} {L : List Int} (h : Lent w g n cap L) (b : Below B w w') (hg : g < B) : Lent w' g n cap L :=
  ⟨h.1, h.2.1, fun j hj => (b.cell (by exact hg)).trans (h.2.2 j hj)⟩
theorem Lent.reads {w : World} {g n cap : Nat} {L : List Int} (h : Lent w g n cap L) : Reads w (.slice (some ⟨g, 0, none⟩) n cap) L := by
  obtain ⟨rfl, h2, h3⟩ := h
  refine ⟨_, cap, rfl, fun _ => ⟨g, 0, rfl, fun j hj => ?_⟩⟩
  rw [Nat.zero_add, h3 j (by omega), lentL, List.getD_eq_getElem?_getD, List.getElem?_append_left hj, List.getD_eq_getElem?_getD]
theorem Lent.marks {w : World} {g n cap : Nat} {L : List Int} (h : Lent w g n cap L) : w.cell? ⟨g, n, none⟩ = some (.int .i64 (-7777)) ∧ w.cell? ⟨g, n + 1, none⟩ = some (.int .i64 (-8888)) := by
  obtain ⟨rfl, h2, h3⟩ := h
  constructor
  · rw [h3 _ (by omega), lentL, List.getD_eq_getElem?_getD, List.getElem?_append_right (by omega), Nat.sub_self]; rfl
  · rw [h3 _ (by omega), lentL, List.getD_eq_getElem?_getD, List.getElem?_append_right (by omega), show L.length + 1 - L.length = 1 by omega]; rfl
theorem Came.reads {w : World} {a : Option Addr} {n cap : Nat} {L : List Int} (h : Came w a n cap L) : Reads w (.slice a n cap) L := by
  obtain ⟨rfl, ⟨rfl, h0, rfl⟩ | ⟨x, rfl, hnc, hc⟩⟩ := h
  · exact ⟨none, 0, rfl, fun h => by omega⟩
  · refine ⟨some x, cap, rfl, fun h => ?_⟩
    obtain ⟨b, off, spot⟩ := x
    have hspot : spot = none := by simpa [Addr.add] using World.cell?_spot (hc 0 h)
    subst hspot
    refine ⟨b, off, rfl, fun j hj => ?_⟩
    have h1 := hc j hj
    rcases Nat.eq_zero_or_pos j with rfl | hp
    · simpa [Addr.add] using h1
    · rw [Addr.add, if_neg (by omega)] at h1
      exact h1

theorem came_of {w : World} {x : Addr} {n cap : Nat} {zs : List Int} (hl : n ≤ cap) (hz : zs.length = cap) (hc : ∀ i, i < zs.length → w.cell? (x.add i) = some (.int .i64 (zs.getD i 0))) : Came w (some x) n cap (zs.take n) := by
  refine ⟨by rw [List.length_take]; omega, .inr ⟨x, rfl, hl, fun j hj => ?_⟩⟩
  rw [hc j (by omega), List.getD_eq_getElem?_getD, List.getD_eq_getElem?_getD, List.getElem?_take, if_pos hj]
/-- No longer than a row that is read may be. -/
def L8 (L : List Int) : Prop := L.length * 8 ≤ 140737488351232
set_option maxRecDepth 100000 in
set_option maxHeartbeats 1000000 in
theorem kept_any (a : Option Addr) (g n c cap : Nat) (L : List Int) (w : World) (h : Lent w g n c L) (ha : Reads w (.slice a n cap) L) (hb : n * 8 ≤ 140737488351232) :
    Calls Try.prog 15 #[.slice (some ⟨g, 0, none⟩) n c, .slice a n cap] w fun e w' => e = .returned (.bool true) ∧ Below w.heap.size w w' := by
  have hn : L.length * 8 ≤ 140737488351232 := by rw [h.1]; exact hb
  have hnc := h.2.1
  have R1 : Hid (Reads w (.slice (some ⟨g, 0, none⟩) n c) L) := h.reads
  have R2 : Hid (Reads w (.slice a n cap) L) := ha
  have H : Hid (Lent w g n c L) := h
  have HN : Hid (L.length * 8 ≤ 140737488351232) := hn
  clear h ha hn
  have h1 : (n : Int) + 2 ≤ c := by omega
  go_enter Try.func15, Try.ntmps15
  go_wp2_with fail
  refine (same_any _ _ L L _ R1.out R2.out HN.out HN.out).mono ?_
  rintro e w1 ⟨rfl, b1⟩
  rw [show decide (L = L) = true from by simp]
  have hg : g < w.heap.size := by exact cell_lt H.out.marks.1
  obtain ⟨m1, m2⟩ := (H.out.below b1 hg).marks
  go_wp2
  go_ret
  exact ⟨rfl, b1⟩
end Go.Proofs.Ytbjaogcejcfpbaa
