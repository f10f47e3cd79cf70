/-
  The document's answer for a byte that comes in on the lanes, by one contract for every argument. Condition: the row is no longer than a row that is read may be.
-/
import Derived.Test.YtgmocigpnmdolaaIn
import Derived.Deep.QuietTactic
namespace Go.Proofs.Ytgmocigpnmdolaa
open Go.RowKit
set_option linter.unusedVariables false

set_option maxRecDepth 100000 in
set_option maxHeartbeats 1000000 in
theorem refIn_lanes (a : Option Addr) (n cap : Nat) (L : List Int) (k : Int) (w : World) (h1 : k ≠ 1) (h4 : k ≠ 4) :
    Calls Try.prog 12 #[.slice a n cap, .int .i64 k] w (Takes L k w) := by
  have e1 : (k != 1) = true := by simpa using h1
  have e4 : (k != 4) = true := by simpa using h4
  go_enter Try.func12, Try.ntmps12
  go_wp2
  go_ret2
  exact takes_no (no_lanes h1 h4) (Below.refl _ _)
set_option maxRecDepth 100000 in
set_option maxHeartbeats 1000000 in
theorem refIn_one_count (a : Option Addr) (n cap : Nat) (L : List Int) (w : World) (hn : L.length = n) (hb : n * 8 ≤ 140737488351232) (h : n ≠ 8) :
    Calls Try.prog 12 #[.slice a n cap, .int .i64 1] w (Takes L 1 w) := by
  have HN : Hid (L.length ≠ 8) := by rw [Hid, hn]; exact h
  have e1 : ((n : Int) != 8) = true := by simp; omega
  clear hn
  go_enter Try.func12, Try.ntmps12
  go_wp2
  go_ret2
  exact takes_no (no_one (.inl HN.out)) (Below.refl _ _)
set_option maxRecDepth 100000 in
set_option maxHeartbeats 2000000 in
theorem refIn_one (g o cap : Nat) (L : List Int) (w : World) (hn : L.length = 8) (hc : ∀ j, j < 8 → w.cell? ⟨g, o + j, none⟩ = some (.int .i64 (L.getD j 0))) :
    Calls Try.prog 12 #[.slice (some ⟨g, o, none⟩) 8 cap, .int .i64 1] w (Takes L 1 w) := by
  have HN : Hid (L.length = 8) := hn
  clear hn
  go_enter Try.func12, Try.ntmps12
  go_wp2
  go_loopw [6, 7] (fun bv iv wr => ∃ (i : Nat) (c : Int), i ≤ 8 ∧ bv = .int .i64 c ∧ iv = .int .i64 i ∧ 0 ≤ c ∧ c < 256 ∧ Hid (c = acc 2 (L.take i)) ∧ Hid (∀ j, j < i → 0 ≤ L.getD j 0 ∧ L.getD j 0 < 2) ∧ Below w.heap.size w wr) (fun _ iv _ => 8 - (intOf iv).toNat)
  case atStart => exact ⟨0, 0, by omega, rfl, rfl, by omega, by omega, rfl, fun j hj => by omega, Below.refl _ _⟩
  case round =>
    obtain ⟨i, c, hi, rfl, rfl, hc0, hc1, HC, HD, hb⟩ := hrel
    by_cases hlt : i < 8
    · obtain ⟨x, hx⟩ : ∃ x, x = L.getD i 0 := ⟨_, rfl⟩
      have cx : wr.cell? ⟨g, o + i, none⟩ = some (.int .i64 x) := by rw [hx]; exact (hb.cell (by exact cell_lt (hc i hlt))).trans (hc i hlt)
      have i1 : (0 : Int) ≤ (i : Int) := by omega
      have i2 : (i : Int) < 8 := by omega
      have HX : Hid (x = L.getD i 0) := hx
      have HB : Hid (Below w.heap.size w wr) := hb
      clear hx hb hc
      have wE : IntKind.i64.wrap 2 = 2 := IntWalk.i64_in _ (by omega)
      by_cases hx0 : x < 0
      · have d0 : decide (x < 0) = true := by simpa using hx0
        go_wp2
        go_quiet (fail)
        all_goals go_wp2
        all_goals go_ret2
        all_goals exact takes_no (no_one (.inr ⟨i, hlt, .inl (by rw [← HX.out]; exact hx0)⟩)) (below_drewN HB.out _)
      · have d0 : decide (x < 0) = false := by simpa using hx0
        by_cases hx1 : 2 ≤ x
        · have d1 : decide (2 ≤ x) = true := by simpa using hx1
          go_wp2
          go_quiet (fail)
          all_goals go_wp2
          all_goals go_ret2
          all_goals exact takes_no (no_one (.inr ⟨i, hlt, .inr (by rw [← HX.out]; exact hx1)⟩)) (below_drewN HB.out _)
        · have d1 : decide (2 ≤ x) = false := by simpa using hx1
          have wc : IntKind.i64.wrap (c * 2) = c * 2 := IntWalk.i64_in _ (by omega)
          have eo := or_two c x hc0 (by omega) (by omega) (by omega)
          go_wp2
          go_quiet (fail)
          all_goals go_wp2
          go_quiet (fail)
          all_goals go_wp2
          go_roundw
          case rel =>
            have hd := digits_succ HD.out HX.out (by omega) (show x < 2 by omega)
            have ha : c * 2 + x = acc 2 (L.take (i + 1)) := by rw [acc_succ 2 L i (by rw [HN.out]; exact hlt), ← HC.out, ← HX.out]
            have hb2 := acc_two (show i + 1 ≤ L.length by rw [HN.out]; exact hlt) (by omega) hd
            exact ⟨i + 1, c * 2 + x, by omega, by go_num, by go_num, by rw [ha]; exact hb2.1, by rw [ha]; exact hb2.2, ha, hd, below_drewN HB.out _⟩
          case measure => simp [intOf]; omega
    · have HB : Hid (Below w.heap.size w wr) := hb
      obtain rfl : i = 8 := by omega
      clear hb hc
      go_wp2
      go_ret2
      exact takes_one HN.out HD.out HC.out HB.out
set_option maxRecDepth 100000 in
set_option maxHeartbeats 1000000 in
theorem refIn_four_count (a : Option Addr) (n cap : Nat) (L : List Int) (w : World) (hn : L.length = n) (hb : n * 8 ≤ 140737488351232) (h : n ≠ 2) :
    Calls Try.prog 12 #[.slice a n cap, .int .i64 4] w (Takes L 4 w) := by
  have HN : Hid (L.length ≠ 2) := by rw [Hid, hn]; exact h
  have e1 : ((n : Int) != 2) = true := by simp; omega
  clear hn
  go_enter Try.func12, Try.ntmps12
  go_wp2
  go_ret2
  exact takes_no (no_four (.inl HN.out)) (Below.refl _ _)
set_option maxRecDepth 100000 in
set_option maxHeartbeats 2000000 in
theorem refIn_four (g o cap : Nat) (L : List Int) (w : World) (hn : L.length = 2) (hc : ∀ j, j < 2 → w.cell? ⟨g, o + j, none⟩ = some (.int .i64 (L.getD j 0))) :
    Calls Try.prog 12 #[.slice (some ⟨g, o, none⟩) 2 cap, .int .i64 4] w (Takes L 4 w) := by
  have HN : Hid (L.length = 2) := hn
  clear hn
  go_enter Try.func12, Try.ntmps12
  go_wp2
  go_loopw [6, 7] (fun bv iv wr => ∃ (i : Nat) (c : Int), i ≤ 2 ∧ bv = .int .i64 c ∧ iv = .int .i64 i ∧ 0 ≤ c ∧ c < 256 ∧ Hid (c = acc 16 (L.take i)) ∧ Hid (∀ j, j < i → 0 ≤ L.getD j 0 ∧ L.getD j 0 < 16) ∧ Below w.heap.size w wr) (fun _ iv _ => 2 - (intOf iv).toNat)
  case atStart => exact ⟨0, 0, by omega, rfl, rfl, by omega, by omega, rfl, fun j hj => by omega, Below.refl _ _⟩
  case round =>
    obtain ⟨i, c, hi, rfl, rfl, hc0, hc1, HC, HD, hb⟩ := hrel
    by_cases hlt : i < 2
    · obtain ⟨x, hx⟩ : ∃ x, x = L.getD i 0 := ⟨_, rfl⟩
      have cx : wr.cell? ⟨g, o + i, none⟩ = some (.int .i64 x) := by rw [hx]; exact (hb.cell (by exact cell_lt (hc i hlt))).trans (hc i hlt)
      have i1 : (0 : Int) ≤ (i : Int) := by omega
      have i2 : (i : Int) < 2 := by omega
      have HX : Hid (x = L.getD i 0) := hx
      have HB : Hid (Below w.heap.size w wr) := hb
      clear hx hb hc
      have wE : IntKind.i64.wrap 16 = 16 := IntWalk.i64_in _ (by omega)
      by_cases hx0 : x < 0
      · have d0 : decide (x < 0) = true := by simpa using hx0
        go_wp2
        go_quiet (fail)
        all_goals go_wp2
        all_goals go_ret2
        all_goals exact takes_no (no_four (.inr ⟨i, hlt, .inl (by rw [← HX.out]; exact hx0)⟩)) (below_drewN HB.out _)
      · have d0 : decide (x < 0) = false := by simpa using hx0
        by_cases hx1 : 16 ≤ x
        · have d1 : decide (16 ≤ x) = true := by simpa using hx1
          go_wp2
          go_quiet (fail)
          all_goals go_wp2
          all_goals go_ret2
          all_goals exact takes_no (no_four (.inr ⟨i, hlt, .inr (by rw [← HX.out]; exact hx1)⟩)) (below_drewN HB.out _)
        · have d1 : decide (16 ≤ x) = false := by simpa using hx1
          have wc : IntKind.i64.wrap (c * 16) = c * 16 := IntWalk.i64_in _ (by omega)
          have eo := or_sixteen c x hc0 (by omega) (by omega) (by omega)
          go_wp2
          go_quiet (fail)
          all_goals go_wp2
          go_quiet (fail)
          all_goals go_wp2
          go_roundw
          case rel =>
            have hd := digits_succ HD.out HX.out (by omega) (show x < 16 by omega)
            have ha : c * 16 + x = acc 16 (L.take (i + 1)) := by rw [acc_succ 16 L i (by rw [HN.out]; exact hlt), ← HC.out, ← HX.out]
            have hb2 := acc_four (show i + 1 ≤ L.length by rw [HN.out]; exact hlt) (by omega) hd
            exact ⟨i + 1, c * 16 + x, by omega, by go_num, by go_num, by rw [ha]; exact hb2.1, by rw [ha]; exact hb2.2, ha, hd, below_drewN HB.out _⟩
          case measure => simp [intOf]; omega
    · have HB : Hid (Below w.heap.size w wr) := hb
      obtain rfl : i = 2 := by omega
      clear hb hc
      go_wp2
      go_ret2
      exact takes_four HN.out HD.out HC.out HB.out
theorem refIn_any (v : Value) (L : List Int) (k : Int) (w : World) (hv : Reads w v L) (hb : L.length * 8 ≤ 140737488351232) :
    Calls Try.prog 12 #[v, .int .i64 k] w (Takes L k w) := by
  obtain ⟨a, cap, rfl, h⟩ := hv
  by_cases h1 : k = 1
  · subst h1
    by_cases hl : L.length = 8
    · obtain ⟨g, o, rfl, hc⟩ := h (by omega)
      rw [hl] at hc ⊢
      exact refIn_one g o cap L w hl hc
    · exact refIn_one_count a L.length cap L w rfl hb hl
  · by_cases h4 : k = 4
    · subst h4
      by_cases hl : L.length = 2
      · obtain ⟨g, o, rfl, hc⟩ := h (by omega)
        rw [hl] at hc ⊢
        exact refIn_four g o cap L w hl hc
      · exact refIn_four_count a L.length cap L w rfl hb hl
    · exact refIn_lanes a L.length cap L k w h1 h4

end Go.Proofs.Ytgmocigpnmdolaa
