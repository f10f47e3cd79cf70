/-
  A byte comes in on the lanes: the program's call and the document's answer, each by one contract for every argument. Condition: the row is no longer than a row that is read may be.
-/
import Derived.Test.YtgmocigpnmdolaaMask
import Derived.Test.YtgmocigpnmdolaaInts
namespace Go.Proofs.Ytgmocigpnmdolaa
open Go.RowKit
set_option linter.unusedVariables false

/-- What a call answers that takes a byte in. -/
def Takes (L : List Int) (k : Int) (w : World) (e : Ending) (w' : World) : Prop :=
  e = .returned (.tuple #[.int .i64 (inV L k), .int .i64 (inE L k)]) ∧ Below w.heap.size w w'
theorem inV_no {L : List Int} {k : Int} (h : ¬ inOk L k) : inV L k = 0 := if_neg h
theorem inE_no {L : List Int} {k : Int} (h : ¬ inOk L k) : inE L k = 300 := if_neg h
theorem takes_no {L : List Int} {k : Int} {w w' : World} (h : ¬ inOk L k) (hb : Below w.heap.size w w') : Takes L k w (.returned (.tuple #[.int .i64 0, .int .i64 300])) w' :=
  ⟨by rw [inV_no h, inE_no h], hb⟩
theorem no_lanes {L : List Int} {k : Int} (h1 : k ≠ 1) (h4 : k ≠ 4) : ¬ inOk L k := fun h => by
  rcases h with ⟨h, _⟩ | ⟨h, _⟩
  · exact h1 h
  · exact h4 h
theorem no_one {L : List Int} (h : L.length ≠ 8 ∨ ∃ j, j < 8 ∧ (L.getD j 0 < 0 ∨ 2 ≤ L.getD j 0)) : ¬ inOk L 1 := fun h' => by
  rcases h' with ⟨_, h2, h3⟩ | ⟨h2, _⟩
  · rcases h with h | ⟨j, hj, h⟩
    · exact h h2
    · have := h3 j hj; omega
  · omega
theorem no_four {L : List Int} (h : L.length ≠ 2 ∨ ∃ j, j < 2 ∧ (L.getD j 0 < 0 ∨ 16 ≤ L.getD j 0)) : ¬ inOk L 4 := fun h' => by
  rcases h' with ⟨h2, _⟩ | ⟨_, h2, h3⟩
  · omega
  · rcases h with h | ⟨j, hj, h⟩
    · exact h h2
    · have := h3 j hj; omega
theorem takes_one {L : List Int} {w w' : World} {c : Int} (hl : L.length = 8) (hd : ∀ j, j < 8 → 0 ≤ L.getD j 0 ∧ L.getD j 0 < 2) (hc : c = acc 2 (L.take 8)) (hb : Below w.heap.size w w') : Takes L 1 w (.returned (.tuple #[.int .i64 c, .int .i64 0])) w' := by
  have hok : inOk L 1 := .inl ⟨rfl, hl, hd⟩
  rw [← hl, List.take_length] at hc
  exact ⟨by rw [inV, if_pos hok, if_pos rfl, inE, if_pos hok, hc], hb⟩
theorem takes_four {L : List Int} {w w' : World} {c : Int} (hl : L.length = 2) (hd : ∀ j, j < 2 → 0 ≤ L.getD j 0 ∧ L.getD j 0 < 16) (hc : c = acc 16 (L.take 2)) (hb : Below w.heap.size w w') : Takes L 4 w (.returned (.tuple #[.int .i64 c, .int .i64 0])) w' := by
  have hok : inOk L 4 := .inr ⟨rfl, hl, hd⟩
  rw [← hl, List.take_length] at hc
  exact ⟨by rw [inV, if_pos hok, if_neg (by omega), inE, if_pos hok, hc], hb⟩
theorem digits_succ {L : List Int} {i : Nat} {x E : Int} (h : ∀ j, j < i → 0 ≤ L.getD j 0 ∧ L.getD j 0 < E) (hx : x = L.getD i 0) (h0 : 0 ≤ x) (h1 : x < E) : ∀ j, j < i + 1 → 0 ≤ L.getD j 0 ∧ L.getD j 0 < E := fun j hj => by
  rcases Nat.lt_or_eq_of_le (Nat.le_of_lt_succ hj) with h' | rfl
  · exact h j h'
  · rw [← hx]; exact ⟨h0, h1⟩

set_option maxRecDepth 100000 in
set_option maxHeartbeats 1000000 in
theorem in_lanes (a : Option Addr) (n cap : Nat) (L : List Int) (k : Int) (w : World) (h1 : k ≠ 1) (h4 : k ≠ 4) :
    Calls Try.prog 11 #[.slice a n cap, .int .i64 k] w (Takes L k w) := by
  have e1 : (k != 1) = true := by simpa using h1
  have e4 : (k != 4) = true := by simpa using h4
  go_enter Try.func11, Try.ntmps11
  go_wp2_with fail
  refine (split_none _ _ h1 h4).mono ?_
  rintro e w1 ⟨rfl, b1⟩
  go_wp2
  go_ret2
  exact takes_no (no_lanes h1 h4) b1
set_option maxRecDepth 100000 in
set_option maxHeartbeats 1000000 in
theorem in_one_count (a : Option Addr) (n cap : Nat) (L : List Int) (w : World) (hn : L.length = n) (hb : n * 8 ≤ 140737488351232) (h : n ≠ 8) :
    Calls Try.prog 11 #[.slice a n cap, .int .i64 1] w (Takes L 1 w) := by
  have HN : Hid (L.length ≠ 8) := by rw [Hid, hn]; exact h
  have e1 : ((n : Int) != 8) = true := by simp; omega
  clear hn
  go_enter Try.func11, Try.ntmps11
  go_wp2_with fail
  refine (split_one _).mono ?_
  rintro e w1 ⟨rfl, b1⟩
  go_wp2
  go_ret2
  exact takes_no (no_one (.inl HN.out)) b1
set_option maxRecDepth 100000 in
set_option maxHeartbeats 2000000 in
theorem in_one (g o cap : Nat) (L : List Int) (w : World) (hn : L.length = 8) (hc : ∀ j, j < 8 → w.cell? ⟨g, o + j, none⟩ = some (.int .i64 (L.getD j 0))) :
    Calls Try.prog 11 #[.slice (some ⟨g, o, none⟩) 8 cap, .int .i64 1] w (Takes L 1 w) := by
  have HN : Hid (L.length = 8) := hn
  clear hn
  go_enter Try.func11, Try.ntmps11
  go_wp2_with fail
  refine (split_one _).mono ?_
  rintro e w1 ⟨rfl, b1⟩
  go_wp2
  go_loopw [8, 26] (fun bv iv wr => ∃ (i : Nat) (c : Int), i ≤ 8 ∧ bv = .int .i64 c ∧ iv = .int .i64 i ∧ 0 ≤ c ∧ c < 256 ∧ Hid (c = acc 2 (L.take i)) ∧ Hid (∀ j, j < i → 0 ≤ L.getD j 0 ∧ L.getD j 0 < 2) ∧ Below w.heap.size w wr) (fun _ iv _ => 8 - (intOf iv).toNat)
  case atStart => exact ⟨0, 0, by omega, rfl, rfl, by omega, by omega, rfl, fun j hj => by omega, b1⟩
  case round =>
    obtain ⟨i, c, hi, rfl, rfl, hc0, hc1, HC, HD, hb⟩ := hrel
    by_cases hlt : i < 8
    · obtain ⟨x, hx⟩ : ∃ x, x = L.getD i 0 := ⟨_, rfl⟩
      have cx : wr.cell? ⟨g, o + i, none⟩ = some (.int .i64 x) := by rw [hx]; exact (hb.cell (by exact cell_lt (hc i hlt))).trans (hc i hlt)
      have i1 : (0 : Int) ≤ (i : Int) := by omega
      have i2 : (i : Int) < 8 := by omega
      have HX : Hid (x = L.getD i 0) := hx
      have HB : Hid (Below w.heap.size w wr) := hb
      clear hx hb hc b1
      by_cases hx0 : x < 0
      · go_wp2
        go_ret2
        exact takes_no (no_one (.inr ⟨i, hlt, .inl (by rw [← HX.out]; exact hx0)⟩)) HB.out
      · by_cases hx1 : 2 ≤ x
        · go_wp2
          go_ret2
          exact takes_no (no_one (.inr ⟨i, hlt, .inr (by rw [← HX.out]; exact hx1)⟩)) HB.out
        · go_wp2
          go_roundw
          case rel =>
            have hd := digits_succ HD.out HX.out (by omega) (show x < 2 by omega)
            have ha : c * 2 + x = acc 2 (L.take (i + 1)) := by rw [acc_succ 2 L i (by rw [HN.out]; exact hlt), ← HC.out, ← HX.out]
            have hb2 := acc_two (show i + 1 ≤ L.length by rw [HN.out]; exact hlt) (by omega) hd
            exact ⟨i + 1, c * 2 + x, by omega, by go_num, by go_num, by rw [ha]; exact hb2.1, by rw [ha]; exact hb2.2, ha, hd, HB.out⟩
          case measure => simp [intOf]; omega
    · have HB : Hid (Below w.heap.size w wr) := hb
      obtain rfl : i = 8 := by omega
      clear hb hc b1
      go_wp2
      go_ret2
      exact takes_one HN.out HD.out HC.out HB.out
set_option maxRecDepth 100000 in
set_option maxHeartbeats 1000000 in
theorem in_four_count (a : Option Addr) (n cap : Nat) (L : List Int) (w : World) (hn : L.length = n) (hb : n * 8 ≤ 140737488351232) (h : n ≠ 2) :
    Calls Try.prog 11 #[.slice a n cap, .int .i64 4] w (Takes L 4 w) := by
  have HN : Hid (L.length ≠ 2) := by rw [Hid, hn]; exact h
  have e1 : ((n : Int) != 2) = true := by simp; omega
  clear hn
  go_enter Try.func11, Try.ntmps11
  go_wp2_with fail
  refine (split_four _).mono ?_
  rintro e w1 ⟨rfl, b1⟩
  go_wp2
  go_ret2
  exact takes_no (no_four (.inl HN.out)) b1
set_option maxRecDepth 100000 in
set_option maxHeartbeats 2000000 in
theorem in_four (g o cap : Nat) (L : List Int) (w : World) (hn : L.length = 2) (hc : ∀ j, j < 2 → w.cell? ⟨g, o + j, none⟩ = some (.int .i64 (L.getD j 0))) :
    Calls Try.prog 11 #[.slice (some ⟨g, o, none⟩) 2 cap, .int .i64 4] w (Takes L 4 w) := by
  have HN : Hid (L.length = 2) := hn
  clear hn
  go_enter Try.func11, Try.ntmps11
  go_wp2_with fail
  refine (split_four _).mono ?_
  rintro e w1 ⟨rfl, b1⟩
  go_wp2
  go_loopw [8, 26] (fun bv iv wr => ∃ (i : Nat) (c : Int), i ≤ 2 ∧ bv = .int .i64 c ∧ iv = .int .i64 i ∧ 0 ≤ c ∧ c < 256 ∧ Hid (c = acc 16 (L.take i)) ∧ Hid (∀ j, j < i → 0 ≤ L.getD j 0 ∧ L.getD j 0 < 16) ∧ Below w.heap.size w wr) (fun _ iv _ => 2 - (intOf iv).toNat)
  case atStart => exact ⟨0, 0, by omega, rfl, rfl, by omega, by omega, rfl, fun j hj => by omega, b1⟩
  case round =>
    obtain ⟨i, c, hi, rfl, rfl, hc0, hc1, HC, HD, hb⟩ := hrel
    by_cases hlt : i < 2
    · obtain ⟨x, hx⟩ : ∃ x, x = L.getD i 0 := ⟨_, rfl⟩
      have cx : wr.cell? ⟨g, o + i, none⟩ = some (.int .i64 x) := by rw [hx]; exact (hb.cell (by exact cell_lt (hc i hlt))).trans (hc i hlt)
      have i1 : (0 : Int) ≤ (i : Int) := by omega
      have i2 : (i : Int) < 2 := by omega
      have HX : Hid (x = L.getD i 0) := hx
      have HB : Hid (Below w.heap.size w wr) := hb
      clear hx hb hc b1
      by_cases hx0 : x < 0
      · go_wp2
        go_ret2
        exact takes_no (no_four (.inr ⟨i, hlt, .inl (by rw [← HX.out]; exact hx0)⟩)) HB.out
      · by_cases hx1 : 16 ≤ x
        · go_wp2
          go_ret2
          exact takes_no (no_four (.inr ⟨i, hlt, .inr (by rw [← HX.out]; exact hx1)⟩)) HB.out
        · go_wp2
          go_roundw
          case rel =>
            have hd := digits_succ HD.out HX.out (by omega) (show x < 16 by omega)
            have ha : c * 16 + x = acc 16 (L.take (i + 1)) := by rw [acc_succ 16 L i (by rw [HN.out]; exact hlt), ← HC.out, ← HX.out]
            have hb2 := acc_four (show i + 1 ≤ L.length by rw [HN.out]; exact hlt) (by omega) hd
            exact ⟨i + 1, c * 16 + x, by omega, by go_num, by go_num, by rw [ha]; exact hb2.1, by rw [ha]; exact hb2.2, ha, hd, HB.out⟩
          case measure => simp [intOf]; omega
    · have HB : Hid (Below w.heap.size w wr) := hb
      obtain rfl : i = 2 := by omega
      clear hb hc b1
      go_wp2
      go_ret2
      exact takes_four HN.out HD.out HC.out HB.out
theorem in_any (v : Value) (L : List Int) (k : Int) (w : World) (hv : Reads w v L) (hb : L.length * 8 ≤ 140737488351232) :
    Calls Try.prog 11 #[v, .int .i64 k] w (Takes L k w) := by
  obtain ⟨a, cap, rfl, h⟩ := hv
  by_cases h1 : k = 1
  · subst h1
    by_cases hl : L.length = 8
    · obtain ⟨g, o, rfl, hc⟩ := h (by omega)
      rw [hl] at hc ⊢
      exact in_one g o cap L w hl hc
    · exact in_one_count a L.length cap L w rfl hb hl
  · by_cases h4 : k = 4
    · subst h4
      by_cases hl : L.length = 2
      · obtain ⟨g, o, rfl, hc⟩ := h (by omega)
        rw [hl] at hc ⊢
        exact in_four g o cap L w hl hc
      · exact in_four_count a L.length cap L w rfl hb hl
    · exact in_lanes a L.length cap L k w h1 h4

end Go.Proofs.Ytgmocigpnmdolaa
