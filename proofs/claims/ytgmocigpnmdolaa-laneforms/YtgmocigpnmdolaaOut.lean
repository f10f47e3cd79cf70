/-
  A byte goes out on the lanes: the program's call and the document's answer, each by one contract for every argument. No conditions.
-/
import Derived.Test.YtgmocigpnmdolaaInts
import Derived.Deep.OwnRows
namespace Go.Proofs.Ytgmocigpnmdolaa
open Go.RowKit
set_option linter.unusedVariables false

/-- What a call answers that sends a byte out. -/
def Sends (b k : Int) (w : World) (e : Ending) (w' : World) : Prop :=
  ∃ v, e = .returned (.tuple #[v, .int .i64 (outE b k)]) ∧ Owns w.heap.size w' v (outL b k) ∧ Below w.heap.size w w'

theorem sends_none {b k : Int} {w w' : World} (h : ¬ ((k = 1 ∨ k = 4) ∧ 0 ≤ b ∧ b ≤ 255)) (hb : Below w.heap.size w w') : Sends b k w (.returned (.tuple #[.slice none 0 0, .int .i64 300])) w' :=
  ⟨_, by rw [outE, if_neg h], by rw [Owns, outL, if_neg h]; exact World.ownsRow_nil _ _ _ _, hb⟩

set_option maxRecDepth 100000 in
set_option maxHeartbeats 1000000 in
theorem out_none (b k : Int) (w : World) (h : ¬ ((k = 1 ∨ k = 4) ∧ 0 ≤ b ∧ b ≤ 255)) :
    Calls Try.prog 9 #[.int .i64 b, .int .i64 k] w (Sends b k w) := by
  by_cases h1 : k = 1
  · subst h1
    have hb : b < 0 ∨ 256 ≤ b := by omega
    have H : Hid (¬ (((1 : Int) = 1 ∨ (1 : Int) = 4) ∧ 0 ≤ b ∧ b ≤ 255)) := h
    clear h
    go_enter Try.func9, Try.ntmps9
    go_wp2_with fail
    refine (split_one _).mono ?_
    rintro e w1 ⟨rfl, b1⟩
    rcases hb with hb | hb
    all_goals
      go_wp2
      go_ret2
      exact sends_none (by omega) b1
  · by_cases h4 : k = 4
    · subst h4
      have hb : b < 0 ∨ 256 ≤ b := by omega
      have H : Hid (¬ (((4 : Int) = 1 ∨ (4 : Int) = 4) ∧ 0 ≤ b ∧ b ≤ 255)) := h
      clear h
      go_enter Try.func9, Try.ntmps9
      go_wp2_with fail
      refine (split_four _).mono ?_
      rintro e w1 ⟨rfl, b1⟩
      rcases hb with hb | hb
      all_goals
        go_wp2
        go_ret2
        exact sends_none (by omega) b1
    · have H : Hid (¬ ((k = 1 ∨ k = 4) ∧ 0 ≤ b ∧ b ≤ 255)) := h
      clear h
      go_enter Try.func9, Try.ntmps9
      go_wp2_with fail
      refine (split_none _ _ h1 h4).mono ?_
      rintro e w1 ⟨rfl, b1⟩
      go_wp2
      go_ret2
      exact sends_none (by omega) b1

/-- 'make([]int, n)': a row of the call's own, zeros in it. -/
theorem make_ints (w : World) (n : Nat) (hn : n ≤ 1000) : ∃ W1, (Instr.makeSlice 22 (.int .i64 (n : Int)) (.int .i64 (n : Int))).run Try.prog w = .ok (.slice (some ⟨w.heap.size, 0, none⟩) n n) W1 ∧
    W1.ownsRow w.heap.size 3 1 (.slice (some ⟨w.heap.size, 0, none⟩) n n) n ((List.replicate n 0).map (Value.int .i64)) ∧ Below w.heap.size w W1 := by
  refine ⟨_, run_make_row' (P := Try.prog) 22 3 (.int .i64 0) 8 Try.underlying22 info3 rfl .i64 .i64 n (by omega) (by omega) w, ?_, (Below.refl _ _).alloc (Nat.le_refl _) _⟩
  have h := World.ownsRow_lit (base := w.heap.size) (e := 3) (size := 1) w (madeCells #[Value.int .i64 0] n) n (Nat.le_refl _) (by unfold maxLen; omega) (by rw [← Array.length_toList, toList_madeCells_one]; simp)
  rw [toList_madeCells_one] at h
  simpa using h

theorem own_mono {w : World} {B B' : Nat} {v : Value} {n : Nat} {xs : List Value} (h : w.ownsRow B 3 1 v n xs) (hB : B' ≤ B) : w.ownsRow B' 3 1 v n xs := by
  refine ⟨h.1, ?_⟩
  rcases h.2 with h2 | ⟨g, cap, cur, hv, hb, hr⟩
  · exact .inl h2
  · exact .inr ⟨g, cap, cur, hv, by omega, hr⟩

/-- The row behind k rounds: its last k numbers are there. -/
def row (e : Int) (n : Nat) (b : Int) (k : Nat) : List Int := (List.range n).map fun j => if n - k ≤ j then b / e ^ (n - 1 - j) % e else 0
theorem row_length (e : Int) (n : Nat) (b : Int) (k : Nat) : (row e n b k).length = n := by simp [row]
theorem row_zero (e : Int) (n : Nat) (b : Int) : row e n b 0 = List.replicate n 0 := by
  refine List.ext_getElem (by simp [row]) fun j h1 h2 => ?_
  have hj : j < n := by simpa [row] using h1
  simp only [row, List.getElem_map, List.getElem_range, List.getElem_replicate]
  rw [if_neg (by omega)]
theorem row_step (e : Int) (n : Nat) (b : Int) (k : Nat) (hk : k < n) : (row e n b k).set (n - 1 - k) (b / e ^ k % e) = row e n b (k + 1) := by
  refine List.ext_getElem (by simp [row]) fun j h1 h2 => ?_
  have hj : j < n := by simpa [row] using h2
  rw [List.getElem_set]
  simp only [row, List.getElem_map, List.getElem_range]
  by_cases h : n - 1 - k = j
  · rw [if_pos h, if_pos (by omega), show n - 1 - j = k by omega]
  · rw [if_neg h]
    by_cases h' : n - k ≤ j
    · rw [if_pos h', if_pos (by omega)]
    · rw [if_neg h', if_neg (by omega)]
theorem row_ones (b : Int) : row 2 8 b 8 = ones b := by simp [row, ones, List.range_succ_eq_map]
theorem row_fours (b : Int) : row 16 2 b 2 = fours b := by simp [row, fours, List.range_succ_eq_map]
theorem quo_pow (e : Int) (he : 0 < e) (b : Int) (hb : 0 ≤ b) (k : Nat) : (b / e ^ k).tdiv e = b / e ^ (k + 1) := by
  rw [Int.tdiv_eq_ediv_of_nonneg (Int.ediv_nonneg hb (Int.pow_nonneg (by omega))), Int.pow_succ, Int.ediv_ediv_of_nonneg (Int.pow_nonneg (by omega))]
theorem rem_pow (e : Int) (he : 0 < e) (b : Int) (hb : 0 ≤ b) (k : Nat) : (b / e ^ k).tmod e = b / e ^ k % e :=
  Int.tmod_eq_emod_of_nonneg (Int.ediv_nonneg hb (Int.pow_nonneg (by omega)))

set_option maxRecDepth 100000 in
set_option maxHeartbeats 1000000 in
theorem out_one (b : Int) (w : World) (h : 0 ≤ b ∧ b ≤ 255) :
    Calls Try.prog 9 #[.int .i64 b, .int .i64 1] w fun e w' => ∃ g cap, e = .returned (.tuple #[.slice (some ⟨g, 0, none⟩) 8 cap, .int .i64 0]) ∧ Owns w.heap.size w' (.slice (some ⟨g, 0, none⟩) 8 cap) (ones b) ∧ Below w.heap.size w w' := by
  go_enter Try.func9, Try.ntmps9
  go_wp2_with fail
  refine (split_one _).mono ?_
  rintro e w1 ⟨rfl, b1⟩
  obtain ⟨W1, hmk, hown, hbel⟩ := make_ints w1 8 (by omega)
  have hmk' : (Instr.makeSlice 22 (.int .i64 8) (.int .i64 8)).run Try.prog w1 = .ok (.slice (some ⟨w1.heap.size, 0, none⟩) 8 8) W1 := hmk
  clear hmk
  have B1 : Hid (Below w.heap.size w W1) := b1.trans (hbel.mono b1.size)
  have hg : w.heap.size ≤ w1.heap.size := b1.size
  obtain ⟨g, HG⟩ : ∃ g, g = w1.heap.size := ⟨_, rfl⟩
  rw [← HG] at hmk' hown hg
  clear hbel b1 HG
  go_wp2
  go_loopw [0, 9] (fun bv i wr => ∃ (m c : Int) (M : List Int), -1 ≤ m ∧ m ≤ 7 ∧ bv = .int .i64 c ∧ i = .int .i64 m ∧ 0 ≤ c ∧ c ≤ 255 ∧ Hid (c = b / 2 ^ (7 - m).toNat) ∧ wr.ownsRow w.heap.size 3 1 (.slice (some ⟨g, 0, none⟩) 8 8) 8 (M.map (Value.int .i64)) ∧ Hid (M = row 2 8 b (7 - m).toNat) ∧ Hid (Below w.heap.size w wr)) (fun _ i _ => (intOf i + 1).toNat)
  case atStart => exact ⟨7, b, List.replicate 8 0, by omega, by omega, rfl, rfl, h.1, h.2, by simp [Hid], own_mono hown hg, (row_zero _ _ _).symm, B1.out⟩
  case round =>
    obtain ⟨m, c, M, hm0, hm1, rfl, rfl, hc0, hc1, HC, hM, HM, HB⟩ := hrel
    clear hmk' hown B1
    by_cases hm : 0 ≤ m
    · obtain ⟨p, rfl⟩ : ∃ p : Nat, m = p := ⟨m.toNat, by omega⟩
      have hp : p < 8 := by omega
      have hl : M.length = 8 := by rw [HM.out]; exact row_length _ _ _ _
      have hc : wr.cell? ⟨g, p, none⟩ = some (.int .i64 (M.getD p 0)) := by
        rw [hM.cellAt p (by omega), List.getElem?_map, List.getD_eq_getElem?_getD, List.getElem?_eq_getElem (by omega)]
        rfl
      have hf := hM.frozenAt p
      have HO : Hid (wr.ownsRow w.heap.size 3 1 (.slice (some ⟨g, 0, none⟩) 8 8) 8 (M.map (Value.int .i64))) := hM
      have e1 : c.tmod 2 = c % 2 := Int.tmod_eq_emod_of_nonneg hc0
      have e2 : c.tdiv 2 = c / 2 := Int.tdiv_eq_ediv_of_nonneg hc0
      obtain ⟨y, hy⟩ : ∃ y, y = M.getD p 0 := ⟨_, rfl⟩
      rw [← hy] at hc
      clear hM hl hy hm0 hm1
      go_wp2
      go_roundw
      case rel =>
        have hk : (7 - ((p : Int) - 1)).toNat = (7 - (p : Int)).toNat + 1 := by omega
        refine ⟨(p : Int) - 1, c / 2, M.set p (c % 2), by omega, by omega, by go_num, by go_num, by omega, by omega, ?_, ?_, ?_, HB.out.setCell (by exact hg) _⟩
        · rw [Hid, hk, ← quo_pow 2 (by omega) b h.1, ← HC.out, e2]
        · rw [List.map_set]; exact (HO.out.stored p _).1
        · rw [Hid, hk, ← row_step 2 8 b _ (by omega), ← HM.out, ← HC.out, show 8 - 1 - (7 - (p : Int)).toNat = p by omega]
      case measure => simp [intOf]
    · have HL : Hid (M = ones b) := by rw [Hid, HM.out, show (7 - m).toNat = 8 by omega]; exact row_ones b
      have HO : Hid (wr.ownsRow w.heap.size 3 1 (.slice (some ⟨g, 0, none⟩) 8 8) 8 (M.map (Value.int .i64))) := hM
      clear hM HM HC
      go_wp2
      go_ret2
      exact ⟨g, 8, rfl, by rw [Owns, ← HL.out]; rw [show M.length = 8 from by rw [HL.out]; rfl]; exact HO.out, HB.out⟩

set_option maxRecDepth 100000 in
set_option maxHeartbeats 1000000 in
theorem out_four (b : Int) (w : World) (h : 0 ≤ b ∧ b ≤ 255) :
    Calls Try.prog 9 #[.int .i64 b, .int .i64 4] w fun e w' => ∃ g cap, e = .returned (.tuple #[.slice (some ⟨g, 0, none⟩) 2 cap, .int .i64 0]) ∧ Owns w.heap.size w' (.slice (some ⟨g, 0, none⟩) 2 cap) (fours b) ∧ Below w.heap.size w w' := by
  go_enter Try.func9, Try.ntmps9
  go_wp2_with fail
  refine (split_four _).mono ?_
  rintro e w1 ⟨rfl, b1⟩
  obtain ⟨W1, hmk, hown, hbel⟩ := make_ints w1 2 (by omega)
  have hmk' : (Instr.makeSlice 22 (.int .i64 2) (.int .i64 2)).run Try.prog w1 = .ok (.slice (some ⟨w1.heap.size, 0, none⟩) 2 2) W1 := hmk
  clear hmk
  have B1 : Hid (Below w.heap.size w W1) := b1.trans (hbel.mono b1.size)
  have hg : w.heap.size ≤ w1.heap.size := b1.size
  obtain ⟨g, HG⟩ : ∃ g, g = w1.heap.size := ⟨_, rfl⟩
  rw [← HG] at hmk' hown hg
  clear hbel b1 HG
  go_wp2
  go_loopw [0, 9] (fun bv i wr => ∃ (m c : Int) (M : List Int), -1 ≤ m ∧ m ≤ 1 ∧ bv = .int .i64 c ∧ i = .int .i64 m ∧ 0 ≤ c ∧ c ≤ 255 ∧ Hid (c = b / 16 ^ (1 - m).toNat) ∧ wr.ownsRow w.heap.size 3 1 (.slice (some ⟨g, 0, none⟩) 2 2) 2 (M.map (Value.int .i64)) ∧ Hid (M = row 16 2 b (1 - m).toNat) ∧ Hid (Below w.heap.size w wr)) (fun _ i _ => (intOf i + 1).toNat)
  case atStart => exact ⟨1, b, List.replicate 2 0, by omega, by omega, rfl, rfl, h.1, h.2, by simp [Hid], own_mono hown hg, (row_zero _ _ _).symm, B1.out⟩
  case round =>
    obtain ⟨m, c, M, hm0, hm1, rfl, rfl, hc0, hc1, HC, hM, HM, HB⟩ := hrel
    clear hmk' hown B1
    by_cases hm : 0 ≤ m
    · obtain ⟨p, rfl⟩ : ∃ p : Nat, m = p := ⟨m.toNat, by omega⟩
      have hp : p < 2 := by omega
      have hl : M.length = 2 := by rw [HM.out]; exact row_length _ _ _ _
      have hc : wr.cell? ⟨g, p, none⟩ = some (.int .i64 (M.getD p 0)) := by
        rw [hM.cellAt p (by omega), List.getElem?_map, List.getD_eq_getElem?_getD, List.getElem?_eq_getElem (by omega)]
        rfl
      have hf := hM.frozenAt p
      have HO : Hid (wr.ownsRow w.heap.size 3 1 (.slice (some ⟨g, 0, none⟩) 2 2) 2 (M.map (Value.int .i64))) := hM
      have e1 : c.tmod 16 = c % 16 := Int.tmod_eq_emod_of_nonneg hc0
      have e2 : c.tdiv 16 = c / 16 := Int.tdiv_eq_ediv_of_nonneg hc0
      obtain ⟨y, hy⟩ : ∃ y, y = M.getD p 0 := ⟨_, rfl⟩
      rw [← hy] at hc
      clear hM hl hy hm0 hm1
      go_wp2
      go_roundw
      case rel =>
        have hk : (1 - ((p : Int) - 1)).toNat = (1 - (p : Int)).toNat + 1 := by omega
        refine ⟨(p : Int) - 1, c / 16, M.set p (c % 16), by omega, by omega, by go_num, by go_num, by omega, by omega, ?_, ?_, ?_, HB.out.setCell (by exact hg) _⟩
        · rw [Hid, hk, ← quo_pow 16 (by omega) b h.1, ← HC.out, e2]
        · rw [List.map_set]; exact (HO.out.stored p _).1
        · rw [Hid, hk, ← row_step 16 2 b _ (by omega), ← HM.out, ← HC.out, show 2 - 1 - (1 - (p : Int)).toNat = p by omega]
      case measure => simp [intOf]
    · have HL : Hid (M = fours b) := by rw [Hid, HM.out, show (1 - m).toNat = 2 by omega]; exact row_fours b
      have HO : Hid (wr.ownsRow w.heap.size 3 1 (.slice (some ⟨g, 0, none⟩) 2 2) 2 (M.map (Value.int .i64))) := hM
      clear hM HM HC
      go_wp2
      go_ret2
      exact ⟨g, 2, rfl, by rw [Owns, ← HL.out]; rw [show M.length = 2 from by rw [HL.out]; rfl]; exact HO.out, HB.out⟩

end Go.Proofs.Ytgmocigpnmdolaa
