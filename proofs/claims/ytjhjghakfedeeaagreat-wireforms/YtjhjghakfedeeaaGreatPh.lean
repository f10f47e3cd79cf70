/-
  Carried: Ints Mask Out In Ref. Conditions: those of each statement. Carried: Ints Mask Same Lend Phases Few Alike Spoil. Conditions: those of each statement.
-/
import Derived.Test.YtjhjghakfedeeaaGreatCalls
import Derived.Test.YtjhjghakfedeeaaGreatParts
import Derived.WalkKit
import Derived.WalkSpells
import Derived.WalkLawsBesides
import Derived.KernelRfl
import Derived.OwnWalk
import Derived.Below
import Derived.Deep.Draws
import Derived.Deep.OwnRows
import Derived.Deep.AppendLies
import Derived.Laws.AppendOwnNone
import Derived.Lib.SliceRun
import Derived.Deep.QuietTactic
import Derived.BigQuiet
/-! Carried: Ints Mask Out In Ref. Conditions: those of each statement. -/
section
namespace Go.Proofs.YtjhjghakfedeeaaGreat
open Go.RowKit Plain
set_option linter.unusedVariables false

/-- Is b a byte, and are there so many lanes? -/
def outOk (b k : Int) : Prop := (k = 1 ∨ k = 4) ∧ 0 ≤ b ∧ b ≤ 255
/-- What one lane carries of a byte, and what four. -/
def ones (b : Int) : List Int := [b / 128 % 2, b / 64 % 2, b / 32 % 2, b / 16 % 2, b / 8 % 2, b / 4 % 2, b / 2 % 2, b % 2]
def fours (b : Int) : List Int := [b / 16 % 16, b % 16]
def outL (b k : Int) : List Int := if (k = 1 ∨ k = 4) ∧ 0 ≤ b ∧ b ≤ 255 then (if k = 1 then ones b else fours b) else []
def outE (b k : Int) : Int := if (k = 1 ∨ k = 4) ∧ 0 ≤ b ∧ b ≤ 255 then 0 else 300
/-- The number that the digits L make, to the base e. -/
def acc (e : Int) (L : List Int) : Int := L.foldl (fun x y => x * e + y) 0
abbrev inOk (L : List Int) (k : Int) : Prop := (k = 1 ∧ L.length = 8 ∧ ∀ j, j < 8 → 0 ≤ L.getD j 0 ∧ L.getD j 0 < 2) ∨ (k = 4 ∧ L.length = 2 ∧ ∀ j, j < 2 → 0 ≤ L.getD j 0 ∧ L.getD j 0 < 16)
def inV (L : List Int) (k : Int) : Int := if inOk L k then (if k = 1 then acc 2 L else acc 16 L) else 0
def inE (L : List Int) (k : Int) : Int := if inOk L k then 0 else 300

theorem acc_succ (e : Int) (L : List Int) (i : Nat) (h : i < L.length) : acc e (L.take (i + 1)) = acc e (L.take i) * e + L.getD i 0 := by
  unfold acc
  rw [List.take_add_one, List.foldl_append, List.getElem?_eq_getElem h, List.getD_eq_getElem?_getD, List.getElem?_eq_getElem h]
  rfl
theorem acc_bound (e : Int) (he : 2 ≤ e) (L : List Int) (i : Nat) (h : i ≤ L.length) (hd : ∀ j, j < i → 0 ≤ L.getD j 0 ∧ L.getD j 0 < e) : 0 ≤ acc e (L.take i) ∧ acc e (L.take i) < e ^ i := by
  induction i with
  | zero => simp [acc]
  | succ i ih =>
    obtain ⟨h1, h2⟩ := ih (by omega) fun j hj => hd j (by omega)
    obtain ⟨h3, h4⟩ := hd i (by omega)
    rw [acc_succ e L i (by omega), Int.pow_succ]
    have h5 : 0 ≤ acc e (L.take i) * e := Int.mul_nonneg h1 (by omega)
    have h6 : (acc e (L.take i) + 1) * e ≤ e ^ i * e := Int.mul_le_mul_of_nonneg_right (by omega) (by omega)
    rw [Int.add_mul, Int.one_mul] at h6
    omega
theorem acc_two {L : List Int} {i : Nat} (h : i ≤ L.length) (h8 : i ≤ 8) (hd : ∀ j, j < i → 0 ≤ L.getD j 0 ∧ L.getD j 0 < 2) : 0 ≤ acc 2 (L.take i) ∧ acc 2 (L.take i) < 256 := by
  have h1 := acc_bound 2 (by omega) L i h hd
  have h2 : (2 : Int) ^ i ≤ 2 ^ 8 := by
    have := Nat.pow_le_pow_right (n := 2) (by omega) h8
    exact_mod_cast this
  omega
theorem acc_four {L : List Int} {i : Nat} (h : i ≤ L.length) (h8 : i ≤ 2) (hd : ∀ j, j < i → 0 ≤ L.getD j 0 ∧ L.getD j 0 < 16) : 0 ≤ acc 16 (L.take i) ∧ acc 16 (L.take i) < 256 := by
  have h1 := acc_bound 16 (by omega) L i h hd
  have h2 : (16 : Int) ^ i ≤ 16 ^ 2 := by
    have := Nat.pow_le_pow_right (n := 16) (by omega) h8
    exact_mod_cast this
  omega
theorem acc_ones (b : Int) (h : 0 ≤ b ∧ b ≤ 255) : acc 2 (ones b) = b := by
  unfold acc ones
  simp only [List.foldl_cons, List.foldl_nil]
  omega
theorem acc_fours (b : Int) (h : 0 ≤ b ∧ b ≤ 255) : acc 16 (fours b) = b := by
  unfold acc fours
  simp only [List.foldl_cons, List.foldl_nil]
  omega
theorem ones_eq (x y : Int) (hx : 0 ≤ x ∧ x ≤ 255) (hy : 0 ≤ y ∧ y ≤ 255) : ones x = ones y ↔ x = y :=
  ⟨fun h => by rw [← acc_ones x hx, h, acc_ones y hy], fun h => by rw [h]⟩
theorem fours_eq (x y : Int) (hx : 0 ≤ x ∧ x ≤ 255) (hy : 0 ≤ y ∧ y ≤ 255) : fours x = fours y ↔ x = y :=
  ⟨fun h => by rw [← acc_fours x hx, h, acc_fours y hy], fun h => by rw [h]⟩

theorem lsplit_one (w : World) :
    Calls Tryz.prog 130 #[.int .i64 1] w fun e w' => e = .returned (.tuple #[.int .i64 8, .int .i64 2]) ∧ Below w.heap.size w w' := by
  go_enter Tryz.func130, Tryz.ntmps130
  go_wp2
  go_region
  all_goals (try go_wp2)
  all_goals go_ret2
  all_goals exact ⟨rfl, (Below.refl _ _).drew⟩
theorem lsplit_four (w : World) :
    Calls Tryz.prog 130 #[.int .i64 4] w fun e w' => e = .returned (.tuple #[.int .i64 2, .int .i64 16]) ∧ Below w.heap.size w w' := by
  go_enter Tryz.func130, Tryz.ntmps130
  go_wp2
  go_region
  all_goals (try go_wp2)
  all_goals go_ret2
  all_goals exact ⟨rfl, (Below.refl _ _).drew⟩
theorem lsplit_none (k : Int) (w : World) (h1 : k ≠ 1) (h4 : k ≠ 4) :
    Calls Tryz.prog 130 #[.int .i64 k] w fun e w' => e = .returned (.tuple #[.int .i64 0, .int .i64 0]) ∧ Below w.heap.size w w' := by
  have e1 : (k != 1) = true := by simpa using h1
  have e4 : (k != 4) = true := by simpa using h4
  go_enter Tryz.func130, Tryz.ntmps130
  go_wp2
  go_ret2
  exact ⟨rfl, Below.refl _ _⟩

/-- What a call answers that sends a byte out. -/
def Sends (b k : Int) (w : World) (e : Ending) (w' : World) : Prop :=
  ∃ v, e = .returned (.tuple #[v, .int .i64 (outE b k)]) ∧ Owns w.heap.size w' v (outL b k) ∧ Below w.heap.size w w'

theorem sends_none {b k : Int} {w w' : World} (h : ¬ ((k = 1 ∨ k = 4) ∧ 0 ≤ b ∧ b ≤ 255)) (hb : Below w.heap.size w w') : Sends b k w (.returned (.tuple #[.slice none 0 0, .int .i64 300])) w' :=
  ⟨_, by rw [outE, if_neg h], by rw [Owns, outL, if_neg h]; exact World.ownsRow_nil _ _ _ _, hb⟩

set_option maxRecDepth 100000 in
set_option maxHeartbeats 1000000 in
theorem out_none (b k : Int) (w : World) (h : ¬ ((k = 1 ∨ k = 4) ∧ 0 ≤ b ∧ b ≤ 255)) :
    Calls Tryz.prog 99 #[.int .i64 b, .int .i64 k] w (Sends b k w) := by
  by_cases h1 : k = 1
  · subst h1
    have hb : b < 0 ∨ 256 ≤ b := by omega
    have H : Hid (¬ (((1 : Int) = 1 ∨ (1 : Int) = 4) ∧ 0 ≤ b ∧ b ≤ 255)) := h
    clear h
    go_enter Tryz.func99, Tryz.ntmps99
    go_wp2_with fail
    refine (lsplit_one _).mono ?_
    rintro e w1 ⟨rfl, b1⟩
    rcases hb with hb | hb
    all_goals
      go_wp2
      go_ret2
      exact sends_none (by omega) b1
  · by_cases h4 : k = 4
    · subst h4
      have hb : b < 0 ∨ 256 ≤ b := by omega
      have H : Hid (¬ (((4 : Int) = 1 ∨ (4 : Int) = 4) ∧ 0 ≤ b ∧ b ≤ 255)) := h
      clear h
      go_enter Tryz.func99, Tryz.ntmps99
      go_wp2_with fail
      refine (lsplit_four _).mono ?_
      rintro e w1 ⟨rfl, b1⟩
      rcases hb with hb | hb
      all_goals
        go_wp2
        go_ret2
        exact sends_none (by omega) b1
    · have H : Hid (¬ ((k = 1 ∨ k = 4) ∧ 0 ≤ b ∧ b ≤ 255)) := h
      clear h
      go_enter Tryz.func99, Tryz.ntmps99
      go_wp2_with fail
      refine (lsplit_none _ _ h1 h4).mono ?_
      rintro e w1 ⟨rfl, b1⟩
      go_wp2
      go_ret2
      exact sends_none (by omega) b1

/-- 'make([]int, n)': a row of the call's own, zeros in it. -/
theorem lmake_ints (w : World) (n : Nat) (hn : n ≤ 1000) : ∃ W1, (Instr.makeSlice 23 (.int .i64 (n : Int)) (.int .i64 (n : Int))).run Tryz.prog w = .ok (.slice (some ⟨w.heap.size, 0, none⟩) n n) W1 ∧
    W1.ownsRow w.heap.size 3 1 (.slice (some ⟨w.heap.size, 0, none⟩) n n) n ((List.replicate n 0).map (Value.int .i64)) ∧ Below w.heap.size w W1 := by
  refine ⟨_, run_make_row' (P := Tryz.prog) 23 3 (.int .i64 0) 8 Tryz.underlying23 info3 rfl .i64 .i64 n (by omega) (by omega) w, ?_, (Below.refl _ _).alloc (Nat.le_refl _) _⟩
  have h := World.ownsRow_lit (base := w.heap.size) (e := 3) (size := 1) w (madeCells #[Value.int .i64 0] n) n (Nat.le_refl _) (by unfold maxLen; omega) (by rw [← Array.length_toList, toList_madeCells_one]; simp)
  rw [toList_madeCells_one] at h
  simpa using h

theorem own_mono {w : World} {B B' : Nat} {v : Value} {n : Nat} {xs : List Value} (h : w.ownsRow B 3 1 v n xs) (hB : B' ≤ B) : w.ownsRow B' 3 1 v n xs := by
  refine ⟨h.1, ?_⟩
  rcases h.2 with h2 | ⟨g, cap, cur, hv, hb, hr⟩
  · exact .inl h2
  · exact .inr ⟨g, cap, cur, hv, by omega, hr⟩

/-- The row behind k rounds: its last k numbers are there. -/
def row (e : Int) (n : Nat) (b : Int) (k : Nat) : List Int := (List.range n).map fun j => if n - k ≤ j then b / e ^ (n - 1 - j) % e else 0
theorem row_length (e : Int) (n : Nat) (b : Int) (k : Nat) : (row e n b k).length = n := by simp [row]
theorem row_zero (e : Int) (n : Nat) (b : Int) : row e n b 0 = List.replicate n 0 := by
  refine List.ext_getElem (by simp [row]) fun j h1 h2 => ?_
  have hj : j < n := by simpa [row] using h1
  simp only [row, List.getElem_map, List.getElem_range, List.getElem_replicate]
  rw [if_neg (by omega)]
theorem row_step (e : Int) (n : Nat) (b : Int) (k : Nat) (hk : k < n) : (row e n b k).set (n - 1 - k) (b / e ^ k % e) = row e n b (k + 1) := by
  refine List.ext_getElem (by simp [row]) fun j h1 h2 => ?_
  have hj : j < n := by simpa [row] using h2
  rw [List.getElem_set]
  simp only [row, List.getElem_map, List.getElem_range]
  by_cases h : n - 1 - k = j
  · rw [if_pos h, if_pos (by omega), show n - 1 - j = k by omega]
  · rw [if_neg h]
    by_cases h' : n - k ≤ j
    · rw [if_pos h', if_pos (by omega)]
    · rw [if_neg h', if_neg (by omega)]
theorem row_ones (b : Int) : row 2 8 b 8 = ones b := by simp [row, ones, List.range_succ_eq_map]
theorem row_fours (b : Int) : row 16 2 b 2 = fours b := by simp [row, fours, List.range_succ_eq_map]
theorem quo_pow (e : Int) (he : 0 < e) (b : Int) (hb : 0 ≤ b) (k : Nat) : (b / e ^ k).tdiv e = b / e ^ (k + 1) := by
  rw [Int.tdiv_eq_ediv_of_nonneg (Int.ediv_nonneg hb (Int.pow_nonneg (by omega))), Int.pow_succ, Int.ediv_ediv_of_nonneg (Int.pow_nonneg (by omega))]
theorem rem_pow (e : Int) (he : 0 < e) (b : Int) (hb : 0 ≤ b) (k : Nat) : (b / e ^ k).tmod e = b / e ^ k % e :=
  Int.tmod_eq_emod_of_nonneg (Int.ediv_nonneg hb (Int.pow_nonneg (by omega)))

set_option maxRecDepth 100000 in
set_option maxHeartbeats 1000000 in
theorem out_one (b : Int) (w : World) (h : 0 ≤ b ∧ b ≤ 255) :
    Calls Tryz.prog 99 #[.int .i64 b, .int .i64 1] w fun e w' => ∃ g cap, e = .returned (.tuple #[.slice (some ⟨g, 0, none⟩) 8 cap, .int .i64 0]) ∧ Owns w.heap.size w' (.slice (some ⟨g, 0, none⟩) 8 cap) (ones b) ∧ Below w.heap.size w w' := by
  go_enter Tryz.func99, Tryz.ntmps99
  go_wp2_with fail
  refine (lsplit_one _).mono ?_
  rintro e w1 ⟨rfl, b1⟩
  obtain ⟨W1, hmk, hown, hbel⟩ := lmake_ints w1 8 (by omega)
  have hmk' : (Instr.makeSlice 23 (.int .i64 8) (.int .i64 8)).run Tryz.prog w1 = .ok (.slice (some ⟨w1.heap.size, 0, none⟩) 8 8) W1 := hmk
  clear hmk
  have B1 : Hid (Below w.heap.size w W1) := b1.trans (hbel.mono b1.size)
  have hg : w.heap.size ≤ w1.heap.size := b1.size
  obtain ⟨g, HG⟩ : ∃ g, g = w1.heap.size := ⟨_, rfl⟩
  rw [← HG] at hmk' hown hg
  clear hbel b1 HG
  go_wp2
  go_loopw [0, 9] (fun bv i wr => ∃ (m c : Int) (M : List Int), -1 ≤ m ∧ m ≤ 7 ∧ bv = .int .i64 c ∧ i = .int .i64 m ∧ 0 ≤ c ∧ c ≤ 255 ∧ Hid (c = b / 2 ^ (7 - m).toNat) ∧ wr.ownsRow w.heap.size 3 1 (.slice (some ⟨g, 0, none⟩) 8 8) 8 (M.map (Value.int .i64)) ∧ Hid (M = row 2 8 b (7 - m).toNat) ∧ Hid (Below w.heap.size w wr)) (fun _ i _ => (intOf i + 1).toNat)
  case atStart => exact ⟨7, b, List.replicate 8 0, by omega, by omega, rfl, rfl, h.1, h.2, by simp [Hid], own_mono hown hg, (row_zero _ _ _).symm, B1.out⟩
  case round =>
    obtain ⟨m, c, M, hm0, hm1, rfl, rfl, hc0, hc1, HC, hM, HM, HB⟩ := hrel
    clear hmk' hown B1
    by_cases hm : 0 ≤ m
    · obtain ⟨p, rfl⟩ : ∃ p : Nat, m = p := ⟨m.toNat, by omega⟩
      have hp : p < 8 := by omega
      have hl : M.length = 8 := by rw [HM.out]; exact row_length _ _ _ _
      have hc : wr.cell? ⟨g, p, none⟩ = some (.int .i64 (M.getD p 0)) := by
        rw [hM.cellAt p (by omega), List.getElem?_map, List.getD_eq_getElem?_getD, List.getElem?_eq_getElem (by omega)]
        rfl
      have hf := hM.frozenAt p
      have HO : Hid (wr.ownsRow w.heap.size 3 1 (.slice (some ⟨g, 0, none⟩) 8 8) 8 (M.map (Value.int .i64))) := hM
      have e1 : c.tmod 2 = c % 2 := Int.tmod_eq_emod_of_nonneg hc0
      have e2 : c.tdiv 2 = c / 2 := Int.tdiv_eq_ediv_of_nonneg hc0
      obtain ⟨y, hy⟩ : ∃ y, y = M.getD p 0 := ⟨_, rfl⟩
      rw [← hy] at hc
      clear hM hl hy hm0 hm1
      go_wp2
      go_roundw
      case rel =>
        have hk : (7 - ((p : Int) - 1)).toNat = (7 - (p : Int)).toNat + 1 := by omega
        refine ⟨(p : Int) - 1, c / 2, M.set p (c % 2), by omega, by omega, by go_num, by go_num, by omega, by omega, ?_, ?_, ?_, HB.out.setCell (by exact hg) _⟩
        · rw [Hid, hk, ← quo_pow 2 (by omega) b h.1, ← HC.out, e2]
        · rw [List.map_set]; exact (HO.out.stored p _).1
        · rw [Hid, hk, ← row_step 2 8 b _ (by omega), ← HM.out, ← HC.out, show 8 - 1 - (7 - (p : Int)).toNat = p by omega]
      case measure => simp [intOf]
    · have HL : Hid (M = ones b) := by rw [Hid, HM.out, show (7 - m).toNat = 8 by omega]; exact row_ones b
      have HO : Hid (wr.ownsRow w.heap.size 3 1 (.slice (some ⟨g, 0, none⟩) 8 8) 8 (M.map (Value.int .i64))) := hM
      clear hM HM HC
      go_wp2
      go_ret2
      exact ⟨g, 8, rfl, by rw [Owns, ← HL.out]; rw [show M.length = 8 from by rw [HL.out]; rfl]; exact HO.out, HB.out⟩

set_option maxRecDepth 100000 in
set_option maxHeartbeats 1000000 in
theorem out_four (b : Int) (w : World) (h : 0 ≤ b ∧ b ≤ 255) :
    Calls Tryz.prog 99 #[.int .i64 b, .int .i64 4] w fun e w' => ∃ g cap, e = .returned (.tuple #[.slice (some ⟨g, 0, none⟩) 2 cap, .int .i64 0]) ∧ Owns w.heap.size w' (.slice (some ⟨g, 0, none⟩) 2 cap) (fours b) ∧ Below w.heap.size w w' := by
  go_enter Tryz.func99, Tryz.ntmps99
  go_wp2_with fail
  refine (lsplit_four _).mono ?_
  rintro e w1 ⟨rfl, b1⟩
  obtain ⟨W1, hmk, hown, hbel⟩ := lmake_ints w1 2 (by omega)
  have hmk' : (Instr.makeSlice 23 (.int .i64 2) (.int .i64 2)).run Tryz.prog w1 = .ok (.slice (some ⟨w1.heap.size, 0, none⟩) 2 2) W1 := hmk
  clear hmk
  have B1 : Hid (Below w.heap.size w W1) := b1.trans (hbel.mono b1.size)
  have hg : w.heap.size ≤ w1.heap.size := b1.size
  obtain ⟨g, HG⟩ : ∃ g, g = w1.heap.size := ⟨_, rfl⟩
  rw [← HG] at hmk' hown hg
  clear hbel b1 HG
  go_wp2
  go_loopw [0, 9] (fun bv i wr => ∃ (m c : Int) (M : List Int), -1 ≤ m ∧ m ≤ 1 ∧ bv = .int .i64 c ∧ i = .int .i64 m ∧ 0 ≤ c ∧ c ≤ 255 ∧ Hid (c = b / 16 ^ (1 - m).toNat) ∧ wr.ownsRow w.heap.size 3 1 (.slice (some ⟨g, 0, none⟩) 2 2) 2 (M.map (Value.int .i64)) ∧ Hid (M = row 16 2 b (1 - m).toNat) ∧ Hid (Below w.heap.size w wr)) (fun _ i _ => (intOf i + 1).toNat)
  case atStart => exact ⟨1, b, List.replicate 2 0, by omega, by omega, rfl, rfl, h.1, h.2, by simp [Hid], own_mono hown hg, (row_zero _ _ _).symm, B1.out⟩
  case round =>
    obtain ⟨m, c, M, hm0, hm1, rfl, rfl, hc0, hc1, HC, hM, HM, HB⟩ := hrel
    clear hmk' hown B1
    by_cases hm : 0 ≤ m
    · obtain ⟨p, rfl⟩ : ∃ p : Nat, m = p := ⟨m.toNat, by omega⟩
      have hp : p < 2 := by omega
      have hl : M.length = 2 := by rw [HM.out]; exact row_length _ _ _ _
      have hc : wr.cell? ⟨g, p, none⟩ = some (.int .i64 (M.getD p 0)) := by
        rw [hM.cellAt p (by omega), List.getElem?_map, List.getD_eq_getElem?_getD, List.getElem?_eq_getElem (by omega)]
        rfl
      have hf := hM.frozenAt p
      have HO : Hid (wr.ownsRow w.heap.size 3 1 (.slice (some ⟨g, 0, none⟩) 2 2) 2 (M.map (Value.int .i64))) := hM
      have e1 : c.tmod 16 = c % 16 := Int.tmod_eq_emod_of_nonneg hc0
      have e2 : c.tdiv 16 = c / 16 := Int.tdiv_eq_ediv_of_nonneg hc0
      obtain ⟨y, hy⟩ : ∃ y, y = M.getD p 0 := ⟨_, rfl⟩
      rw [← hy] at hc
      clear hM hl hy hm0 hm1
      go_wp2
      go_roundw
      case rel =>
        have hk : (1 - ((p : Int) - 1)).toNat = (1 - (p : Int)).toNat + 1 := by omega
        refine ⟨(p : Int) - 1, c / 16, M.set p (c % 16), by omega, by omega, by go_num, by go_num, by omega, by omega, ?_, ?_, ?_, HB.out.setCell (by exact hg) _⟩
        · rw [Hid, hk, ← quo_pow 16 (by omega) b h.1, ← HC.out, e2]
        · rw [List.map_set]; exact (HO.out.stored p _).1
        · rw [Hid, hk, ← row_step 16 2 b _ (by omega), ← HM.out, ← HC.out, show 2 - 1 - (1 - (p : Int)).toNat = p by omega]
      case measure => simp [intOf]
    · have HL : Hid (M = fours b) := by rw [Hid, HM.out, show (1 - m).toNat = 2 by omega]; exact row_fours b
      have HO : Hid (wr.ownsRow w.heap.size 3 1 (.slice (some ⟨g, 0, none⟩) 2 2) 2 (M.map (Value.int .i64))) := hM
      clear hM HM HC
      go_wp2
      go_ret2
      exact ⟨g, 2, rfl, by rw [Owns, ← HL.out]; rw [show M.length = 2 from by rw [HL.out]; rfl]; exact HO.out, HB.out⟩


/-- What a call answers that takes a byte in. -/
def Takes (L : List Int) (k : Int) (w : World) (e : Ending) (w' : World) : Prop :=
  e = .returned (.tuple #[.int .i64 (inV L k), .int .i64 (inE L k)]) ∧ Below w.heap.size w w'
theorem inV_no {L : List Int} {k : Int} (h : ¬ inOk L k) : inV L k = 0 := if_neg h
theorem inE_no {L : List Int} {k : Int} (h : ¬ inOk L k) : inE L k = 300 := if_neg h
theorem takes_no {L : List Int} {k : Int} {w w' : World} (h : ¬ inOk L k) (hb : Below w.heap.size w w') : Takes L k w (.returned (.tuple #[.int .i64 0, .int .i64 300])) w' :=
  ⟨by rw [inV_no h, inE_no h], hb⟩
theorem no_lanes {L : List Int} {k : Int} (h1 : k ≠ 1) (h4 : k ≠ 4) : ¬ inOk L k := fun h => by
  rcases h with ⟨h, _⟩ | ⟨h, _⟩
  · exact h1 h
  · exact h4 h
theorem no_one {L : List Int} (h : L.length ≠ 8 ∨ ∃ j, j < 8 ∧ (L.getD j 0 < 0 ∨ 2 ≤ L.getD j 0)) : ¬ inOk L 1 := fun h' => by
  rcases h' with ⟨_, h2, h3⟩ | ⟨h2, _⟩
  · rcases h with h | ⟨j, hj, h⟩
    · exact h h2
    · have := h3 j hj; omega
  · omega
theorem no_four {L : List Int} (h : L.length ≠ 2 ∨ ∃ j, j < 2 ∧ (L.getD j 0 < 0 ∨ 16 ≤ L.getD j 0)) : ¬ inOk L 4 := fun h' => by
  rcases h' with ⟨h2, _⟩ | ⟨_, h2, h3⟩
  · omega
  · rcases h with h | ⟨j, hj, h⟩
    · exact h h2
    · have := h3 j hj; omega
theorem takes_one {L : List Int} {w w' : World} {c : Int} (hl : L.length = 8) (hd : ∀ j, j < 8 → 0 ≤ L.getD j 0 ∧ L.getD j 0 < 2) (hc : c = acc 2 (L.take 8)) (hb : Below w.heap.size w w') : Takes L 1 w (.returned (.tuple #[.int .i64 c, .int .i64 0])) w' := by
  have hok : inOk L 1 := .inl ⟨rfl, hl, hd⟩
  rw [← hl, List.take_length] at hc
  exact ⟨by rw [inV, if_pos hok, if_pos rfl, inE, if_pos hok, hc], hb⟩
theorem takes_four {L : List Int} {w w' : World} {c : Int} (hl : L.length = 2) (hd : ∀ j, j < 2 → 0 ≤ L.getD j 0 ∧ L.getD j 0 < 16) (hc : c = acc 16 (L.take 2)) (hb : Below w.heap.size w w') : Takes L 4 w (.returned (.tuple #[.int .i64 c, .int .i64 0])) w' := by
  have hok : inOk L 4 := .inr ⟨rfl, hl, hd⟩
  rw [← hl, List.take_length] at hc
  exact ⟨by rw [inV, if_pos hok, if_neg (by omega), inE, if_pos hok, hc], hb⟩
theorem digits_succ {L : List Int} {i : Nat} {x E : Int} (h : ∀ j, j < i → 0 ≤ L.getD j 0 ∧ L.getD j 0 < E) (hx : x = L.getD i 0) (h0 : 0 ≤ x) (h1 : x < E) : ∀ j, j < i + 1 → 0 ≤ L.getD j 0 ∧ L.getD j 0 < E := fun j hj => by
  rcases Nat.lt_or_eq_of_le (Nat.le_of_lt_succ hj) with h' | rfl
  · exact h j h'
  · rw [← hx]; exact ⟨h0, h1⟩

set_option maxRecDepth 100000 in
set_option maxHeartbeats 1000000 in
theorem in_lanes (a : Option Addr) (n cap : Nat) (L : List Int) (k : Int) (w : World) (h1 : k ≠ 1) (h4 : k ≠ 4) :
    Calls Tryz.prog 131 #[.slice a n cap, .int .i64 k] w (Takes L k w) := by
  have e1 : (k != 1) = true := by simpa using h1
  have e4 : (k != 4) = true := by simpa using h4
  go_enter Tryz.func131, Tryz.ntmps131
  go_wp2_with fail
  refine (lsplit_none _ _ h1 h4).mono ?_
  rintro e w1 ⟨rfl, b1⟩
  go_wp2
  go_ret2
  exact takes_no (no_lanes h1 h4) b1
set_option maxRecDepth 100000 in
set_option maxHeartbeats 1000000 in
theorem in_one_count (a : Option Addr) (n cap : Nat) (L : List Int) (w : World) (hn : L.length = n) (hb : n * 8 ≤ 140737488351232) (h : n ≠ 8) :
    Calls Tryz.prog 131 #[.slice a n cap, .int .i64 1] w (Takes L 1 w) := by
  have HN : Hid (L.length ≠ 8) := by rw [Hid, hn]; exact h
  have e1 : ((n : Int) != 8) = true := by simp; omega
  clear hn
  go_enter Tryz.func131, Tryz.ntmps131
  go_wp2_with fail
  refine (lsplit_one _).mono ?_
  rintro e w1 ⟨rfl, b1⟩
  go_wp2
  go_ret2
  exact takes_no (no_one (.inl HN.out)) b1
set_option maxRecDepth 100000 in
set_option maxHeartbeats 2000000 in
theorem in_one (g o cap : Nat) (L : List Int) (w : World) (hn : L.length = 8) (hc : ∀ j, j < 8 → w.cell? ⟨g, o + j, none⟩ = some (.int .i64 (L.getD j 0))) :
    Calls Tryz.prog 131 #[.slice (some ⟨g, o, none⟩) 8 cap, .int .i64 1] w (Takes L 1 w) := by
  have HN : Hid (L.length = 8) := hn
  clear hn
  go_enter Tryz.func131, Tryz.ntmps131
  go_wp2_with fail
  refine (lsplit_one _).mono ?_
  rintro e w1 ⟨rfl, b1⟩
  go_wp2
  go_loopw [8, 26] (fun bv iv wr => ∃ (i : Nat) (c : Int), i ≤ 8 ∧ bv = .int .i64 c ∧ iv = .int .i64 i ∧ 0 ≤ c ∧ c < 256 ∧ Hid (c = acc 2 (L.take i)) ∧ Hid (∀ j, j < i → 0 ≤ L.getD j 0 ∧ L.getD j 0 < 2) ∧ Below w.heap.size w wr) (fun _ iv _ => 8 - (intOf iv).toNat)
  case atStart => exact ⟨0, 0, by omega, rfl, rfl, by omega, by omega, rfl, fun j hj => by omega, b1⟩
  case round =>
    obtain ⟨i, c, hi, rfl, rfl, hc0, hc1, HC, HD, hb⟩ := hrel
    by_cases hlt : i < 8
    · obtain ⟨x, hx⟩ : ∃ x, x = L.getD i 0 := ⟨_, rfl⟩
      have cx : wr.cell? ⟨g, o + i, none⟩ = some (.int .i64 x) := by rw [hx]; exact (hb.cell (by exact cell_lt (hc i hlt))).trans (hc i hlt)
      have i1 : (0 : Int) ≤ (i : Int) := by omega
      have i2 : (i : Int) < 8 := by omega
      have HX : Hid (x = L.getD i 0) := hx
      have HB : Hid (Below w.heap.size w wr) := hb
      clear hx hb hc b1
      by_cases hx0 : x < 0
      · go_wp2
        go_ret2
        exact takes_no (no_one (.inr ⟨i, hlt, .inl (by rw [← HX.out]; exact hx0)⟩)) HB.out
      · by_cases hx1 : 2 ≤ x
        · go_wp2
          go_ret2
          exact takes_no (no_one (.inr ⟨i, hlt, .inr (by rw [← HX.out]; exact hx1)⟩)) HB.out
        · go_wp2
          go_roundw
          case rel =>
            have hd := digits_succ HD.out HX.out (by omega) (show x < 2 by omega)
            have ha : c * 2 + x = acc 2 (L.take (i + 1)) := by rw [acc_succ 2 L i (by rw [HN.out]; exact hlt), ← HC.out, ← HX.out]
            have hb2 := acc_two (show i + 1 ≤ L.length by rw [HN.out]; exact hlt) (by omega) hd
            exact ⟨i + 1, c * 2 + x, by omega, by go_num, by go_num, by rw [ha]; exact hb2.1, by rw [ha]; exact hb2.2, ha, hd, HB.out⟩
          case measure => simp [intOf]; omega
    · have HB : Hid (Below w.heap.size w wr) := hb
      obtain rfl : i = 8 := by omega
      clear hb hc b1
      go_wp2
      go_ret2
      exact takes_one HN.out HD.out HC.out HB.out
set_option maxRecDepth 100000 in
set_option maxHeartbeats 1000000 in
theorem in_four_count (a : Option Addr) (n cap : Nat) (L : List Int) (w : World) (hn : L.length = n) (hb : n * 8 ≤ 140737488351232) (h : n ≠ 2) :
    Calls Tryz.prog 131 #[.slice a n cap, .int .i64 4] w (Takes L 4 w) := by
  have HN : Hid (L.length ≠ 2) := by rw [Hid, hn]; exact h
  have e1 : ((n : Int) != 2) = true := by simp; omega
  clear hn
  go_enter Tryz.func131, Tryz.ntmps131
  go_wp2_with fail
  refine (lsplit_four _).mono ?_
  rintro e w1 ⟨rfl, b1⟩
  go_wp2
  go_ret2
  exact takes_no (no_four (.inl HN.out)) b1
set_option maxRecDepth 100000 in
set_option maxHeartbeats 2000000 in
theorem in_four (g o cap : Nat) (L : List Int) (w : World) (hn : L.length = 2) (hc : ∀ j, j < 2 → w.cell? ⟨g, o + j, none⟩ = some (.int .i64 (L.getD j 0))) :
    Calls Tryz.prog 131 #[.slice (some ⟨g, o, none⟩) 2 cap, .int .i64 4] w (Takes L 4 w) := by
  have HN : Hid (L.length = 2) := hn
  clear hn
  go_enter Tryz.func131, Tryz.ntmps131
  go_wp2_with fail
  refine (lsplit_four _).mono ?_
  rintro e w1 ⟨rfl, b1⟩
  go_wp2
  go_loopw [8, 26] (fun bv iv wr => ∃ (i : Nat) (c : Int), i ≤ 2 ∧ bv = .int .i64 c ∧ iv = .int .i64 i ∧ 0 ≤ c ∧ c < 256 ∧ Hid (c = acc 16 (L.take i)) ∧ Hid (∀ j, j < i → 0 ≤ L.getD j 0 ∧ L.getD j 0 < 16) ∧ Below w.heap.size w wr) (fun _ iv _ => 2 - (intOf iv).toNat)
  case atStart => exact ⟨0, 0, by omega, rfl, rfl, by omega, by omega, rfl, fun j hj => by omega, b1⟩
  case round =>
    obtain ⟨i, c, hi, rfl, rfl, hc0, hc1, HC, HD, hb⟩ := hrel
    by_cases hlt : i < 2
    · obtain ⟨x, hx⟩ : ∃ x, x = L.getD i 0 := ⟨_, rfl⟩
      have cx : wr.cell? ⟨g, o + i, none⟩ = some (.int .i64 x) := by rw [hx]; exact (hb.cell (by exact cell_lt (hc i hlt))).trans (hc i hlt)
      have i1 : (0 : Int) ≤ (i : Int) := by omega
      have i2 : (i : Int) < 2 := by omega
      have HX : Hid (x = L.getD i 0) := hx
      have HB : Hid (Below w.heap.size w wr) := hb
      clear hx hb hc b1
      by_cases hx0 : x < 0
      · go_wp2
        go_ret2
        exact takes_no (no_four (.inr ⟨i, hlt, .inl (by rw [← HX.out]; exact hx0)⟩)) HB.out
      · by_cases hx1 : 16 ≤ x
        · go_wp2
          go_ret2
          exact takes_no (no_four (.inr ⟨i, hlt, .inr (by rw [← HX.out]; exact hx1)⟩)) HB.out
        · go_wp2
          go_roundw
          case rel =>
            have hd := digits_succ HD.out HX.out (by omega) (show x < 16 by omega)
            have ha : c * 16 + x = acc 16 (L.take (i + 1)) := by rw [acc_succ 16 L i (by rw [HN.out]; exact hlt), ← HC.out, ← HX.out]
            have hb2 := acc_four (show i + 1 ≤ L.length by rw [HN.out]; exact hlt) (by omega) hd
            exact ⟨i + 1, c * 16 + x, by omega, by go_num, by go_num, by rw [ha]; exact hb2.1, by rw [ha]; exact hb2.2, ha, hd, HB.out⟩
          case measure => simp [intOf]; omega
    · have HB : Hid (Below w.heap.size w wr) := hb
      obtain rfl : i = 2 := by omega
      clear hb hc b1
      go_wp2
      go_ret2
      exact takes_four HN.out HD.out HC.out HB.out
theorem in_any (v : Value) (L : List Int) (k : Int) (w : World) (hv : Reads w v L) (hb : L.length * 8 ≤ 140737488351232) :
    Calls Tryz.prog 131 #[v, .int .i64 k] w (Takes L k w) := by
  obtain ⟨a, cap, rfl, h⟩ := hv
  by_cases h1 : k = 1
  · subst h1
    by_cases hl : L.length = 8
    · obtain ⟨g, o, rfl, hc⟩ := h (by omega)
      rw [hl] at hc ⊢
      exact in_one g o cap L w hl hc
    · exact in_one_count a L.length cap L w rfl hb hl
  · by_cases h4 : k = 4
    · subst h4
      by_cases hl : L.length = 2
      · obtain ⟨g, o, rfl, hc⟩ := h (by omega)
        rw [hl] at hc ⊢
        exact in_four g o cap L w hl hc
      · exact in_four_count a L.length cap L w rfl hb hl
    · exact in_lanes a L.length cap L k w h1 h4


set_option maxRecDepth 100000 in
set_option maxHeartbeats 1000000 in
theorem refOut_none (b k : Int) (w : World) (h : ¬ ((k = 1 ∨ k = 4) ∧ 0 ≤ b ∧ b ≤ 255)) :
    Calls Tryz.prog 105 #[.int .i64 b, .int .i64 k] w (Sends b k w) := by
  by_cases h1 : k = 1
  · subst h1
    have hb : b < 0 ∨ 255 < b := by omega
    clear h
    rcases hb with hb | hb
    all_goals
      go_enter Tryz.func105, Tryz.ntmps105
      go_wp2
      go_ret2
      exact sends_none (by omega) (Below.refl _ _)
  · by_cases h4 : k = 4
    · subst h4
      have hb : b < 0 ∨ 255 < b := by omega
      clear h
      rcases hb with hb | hb
      all_goals
        go_enter Tryz.func105, Tryz.ntmps105
        go_wp2
        go_ret2
        exact sends_none (by omega) (Below.refl _ _)
    · have H : Hid (¬ ((k = 1 ∨ k = 4) ∧ 0 ≤ b ∧ b ≤ 255)) := h
      have e1 : (k != 1) = true := by simpa using h1
      have e4 : (k != 4) = true := by simpa using h4
      clear h
      go_enter Tryz.func105, Tryz.ntmps105
      go_wp2
      go_ret2
      exact sends_none H.out (Below.refl _ _)

set_option maxRecDepth 100000 in
set_option maxHeartbeats 1000000 in
theorem refOut_four (b : Int) (w : World) (h : 0 ≤ b ∧ b ≤ 255) :
    Calls Tryz.prog 105 #[.int .i64 b, .int .i64 4] w fun e w' => ∃ g cap, e = .returned (.tuple #[.slice (some ⟨g, 0, none⟩) 2 cap, .int .i64 0]) ∧ Owns w.heap.size w' (.slice (some ⟨g, 0, none⟩) 2 cap) (fours b) ∧ Below w.heap.size w w' := by
  obtain ⟨h0, h1⟩ := h
  go_enter Tryz.func105, Tryz.ntmps105
  go_wp2
  go_ret2
  refine ⟨w.heap.size, 2, rfl, ?_, (Below.refl _ _).alloc (Nat.le_refl _) _⟩
  have e := Owns.lit (w := w) [b / 16, b % 16] 2 #[Value.int IntKind.i64 (b / 16), Value.int IntKind.i64 (bits BinOp.and IntKind.i64 b 15)] (by rw [and_15]; rfl) rfl (by unfold maxLen; omega)
  rw [show fours b = [b / 16, b % 16] from by unfold fours; rw [show b / 16 % 16 = b / 16 by omega]]
  exact e

theorem ones_take (b : Int) (p : Nat) (hp : p < 8) : (ones b).take (7 - p + 1) = (ones b).take (7 - p) ++ [b / 2 ^ p % 2] := by
  rcases (show p = 0 ∨ p = 1 ∨ p = 2 ∨ p = 3 ∨ p = 4 ∨ p = 5 ∨ p = 6 ∨ p = 7 by omega) with rfl | rfl | rfl | rfl | rfl | rfl | rfl | rfl <;> simp [ones]

set_option maxRecDepth 100000 in
set_option maxHeartbeats 1000000 in
theorem refOut_one (b : Int) (w : World) (h : 0 ≤ b ∧ b ≤ 255) :
    Calls Tryz.prog 105 #[.int .i64 b, .int .i64 1] w fun e w' => ∃ g cap, e = .returned (.tuple #[.slice (some ⟨g, 0, none⟩) 8 cap, .int .i64 0]) ∧ Owns w.heap.size w' (.slice (some ⟨g, 0, none⟩) 8 cap) (ones b) ∧ Below w.heap.size w w' := by
  obtain ⟨h0, h1⟩ := h
  obtain ⟨i0, hi, hz0, hz1, hz2⟩ := info_parts info3
  go_enter Tryz.func105, Tryz.ntmps105
  go_wp2
  go_loopw [6, 7] (fun v i wr => ∃ (m : Int) (M : List Int), -1 ≤ m ∧ m ≤ 7 ∧ i = .int .i64 m ∧ wr.ownsRow w.heap.size 3 1 v M.length (M.map (Value.int .i64)) ∧ Hid (M = (ones b).take (7 - m).toNat) ∧ Hid (Below w.heap.size w wr)) (fun _ i _ => (intOf i + 1).toNat)
  case atStart => exact ⟨7, [], by omega, by omega, rfl, World.ownsRow_nil _ _ _ _, by simp [Hid], Below.refl _ _⟩
  case round =>
    obtain ⟨m, M, hm0, hm1, rfl, hM, HM, HB⟩ := hrel
    by_cases hm : 0 ≤ m
    · obtain ⟨p, rfl⟩ : ∃ p : Nat, m = p := ⟨m.toNat, by omega⟩
      have hp : p < 8 := by omega
      obtain ⟨y, hy⟩ : ∃ y, bits BinOp.and IntKind.i64 (b / 2 ^ p) 1 = y := ⟨_, rfl⟩
      have HY : Hid (y = b / 2 ^ p % 2) := by rw [Hid, ← hy, and_1]
      have hlen : M.length ≤ 8 := by rw [HM.out, List.length_take]; show _ ≤ (ones b).length; exact Nat.min_le_right _ _
      have hsz : w.heap.size ≤ wr.heap.size := HB.out.size
      go_wp2_with (at_builtin; refine wpList_append_lies _ rfl _ _ 23 rfl w.heap.size 3 i0 (.int .i64 0) 1 8 Tryz.underlying23 hi hz0 hz1 hz2 rfl (by decide) _ _ _ rfl (hM.alloc _) ⟨wr.heap.size, 0, none⟩ 1 1 [.int .i64 y] rfl rfl ?c1 ?c2 (by decide) ?c3 ?c4 ?c5 (wr.heap.size + 1) (by simp) ?_)
      case c1 =>
        intro j u hj
        match j, hj with
        | 0, hj => simp at hj; subst hj; simp [Addr.add]
      case c2 => intro u hu; simp at hu; subst hu; rfl
      case c3 => unfold maxLen; omega
      case c4 => omega
      case c5 => simp; omega
      intro g cap w1 hown hgrow hat hlt
      have HO : Hid (w1.ownsRow w.heap.size 3 1 (.slice (some ⟨g, 0, none⟩) (M.length + 1) cap) (M ++ [y]).length ((M ++ [y]).map (Value.int .i64))) := by
        rw [Hid, List.map_append, List.length_append]; exact hown
      have HW : Hid (Below w.heap.size w w1) := (HB.out.alloc hsz _).grown hgrow (by simp; omega) fun k hk => (hM.lt k hk).1
      have HT : Hid (M ++ [y] = (ones b).take (7 - ((p : Int) - 1)).toNat) := by
        rw [Hid, HM.out, HY.out, show (7 - ((p : Int) - 1)).toNat = 7 - p + 1 by omega, show (7 - (p : Int)).toNat = 7 - p by omega]
        exact (ones_take b p hp).symm
      clear hown hgrow hat hlt hM hy HY HM HB hsz
      go_wp2
      go_roundw
      case rel => exact ⟨(p : Int) - 1, M ++ [y], by omega, by omega, by go_num, HO.out, HT, HW⟩
      case measure => simp [intOf]
    · have HL : Hid (M = ones b) := by rw [Hid, HM.out, show (7 - m).toNat = 8 by omega]; rfl
      have hl8 : M.length = 8 := by rw [HL.out]; rfl
      rw [hl8] at hM
      obtain ⟨g, cap, rfl, -, -⟩ := hM.form (by omega)
      have HO : Hid (wr.ownsRow w.heap.size 3 1 (.slice (some ⟨g, 0, none⟩) 8 cap) 8 (M.map (Value.int .i64))) := hM
      clear hM HM hl8
      go_wp2
      go_ret2
      exact ⟨g, cap, rfl, by rw [Owns, ← HL.out, show M.length = 8 from by rw [HL.out]; rfl]; exact HO.out, HB.out⟩

theorem sends_one {b : Int} {w w' : World} {g cap : Nat} (h : 0 ≤ b ∧ b ≤ 255) (ho : Owns w.heap.size w' (.slice (some ⟨g, 0, none⟩) 8 cap) (ones b)) (hb : Below w.heap.size w w') : Sends b 1 w (.returned (.tuple #[.slice (some ⟨g, 0, none⟩) 8 cap, .int .i64 0])) w' :=
  ⟨_, by rw [outE, if_pos (by omega)], by rw [outL, if_pos (by omega), if_pos rfl]; exact ho, hb⟩
theorem sends_four {b : Int} {w w' : World} {g cap : Nat} (h : 0 ≤ b ∧ b ≤ 255) (ho : Owns w.heap.size w' (.slice (some ⟨g, 0, none⟩) 2 cap) (fours b)) (hb : Below w.heap.size w w') : Sends b 4 w (.returned (.tuple #[.slice (some ⟨g, 0, none⟩) 2 cap, .int .i64 0])) w' :=
  ⟨_, by rw [outE, if_pos (by omega)], by rw [outL, if_pos (by omega), if_neg (by omega)]; exact ho, hb⟩
theorem out_any (b k : Int) (w : World) : Calls Tryz.prog 99 #[.int .i64 b, .int .i64 k] w (Sends b k w) := by
  by_cases h : (k = 1 ∨ k = 4) ∧ 0 ≤ b ∧ b ≤ 255
  · obtain ⟨rfl | rfl, h⟩ := h
    · exact (out_one b w h).mono fun e w' ⟨g, cap, he, ho, hb⟩ => by subst he; exact sends_one h ho hb
    · exact (out_four b w h).mono fun e w' ⟨g, cap, he, ho, hb⟩ => by subst he; exact sends_four h ho hb
  · exact out_none b k w h
theorem refOut_any (b k : Int) (w : World) : Calls Tryz.prog 105 #[.int .i64 b, .int .i64 k] w (Sends b k w) := by
  by_cases h : (k = 1 ∨ k = 4) ∧ 0 ≤ b ∧ b ≤ 255
  · obtain ⟨rfl | rfl, h⟩ := h
    · exact (refOut_one b w h).mono fun e w' ⟨g, cap, he, ho, hb⟩ => by subst he; exact sends_one h ho hb
    · exact (refOut_four b w h).mono fun e w' ⟨g, cap, he, ho, hb⟩ => by subst he; exact sends_four h ho hb
  · exact refOut_none b k w h


end Go.Proofs.YtjhjghakfedeeaaGreat
end

/-! Carried: Ints Mask Same Lend Phases Few Alike Spoil. Conditions: those of each statement. -/
section
namespace Go.Proofs.YtjhjghakfedeeaaGreat
open Go.RowKit Plain
set_option linter.unusedVariables false

set_option maxRecDepth 100000 in
set_option maxHeartbeats 1000000 in
theorem spoil_any (B : Nat) (v : Value) (L : List Int) (w : World) (h : Owns B w v L) (hl : L.length * 8 ≤ 140737488351232) :
    Calls Tryz.prog 25 #[v] w fun e w' => e = .returned (.tuple #[]) ∧ Below B w w' := by
  have h00 := h
  rcases h.2 with ⟨rfl, hn⟩ | ⟨g, cap, cur, rfl, hb, -⟩
  · clear h h00
    go_enter Tryz.func25, Tryz.ntmps25
    go_wp2
    refine wp_loop_rounds 1 ?_
    rw [rounds_succ]
    go_wp2
    go_end0
    exact ⟨rfl, Below.refl _ _⟩
  · clear h
    obtain ⟨n, hn⟩ : ∃ n, n = L.length := ⟨_, rfl⟩
    rw [← hn] at hl
    have h0 : w.ownsRow B 3 1 (.slice (some ⟨g, 0, none⟩) n cap) n (L.map (Value.int .i64)) := by rw [hn]; exact h00
    rw [← hn]
    clear h00
    have HN : Hid (n = L.length) := hn
    clear hn
    go_enter Tryz.func25, Tryz.ntmps25
    go_wp2
    go_loopw [2] (fun i wr => ∃ k : Nat, k ≤ n ∧ i = .int .i64 k ∧ (∃ M : List Int, wr.ownsRow B 3 1 (.slice (some ⟨g, 0, none⟩) n cap) n (M.map (Value.int .i64)) ∧ M.length = n) ∧ Below B w wr) (fun i _ => n - (intOf i).toNat)
    case atStart => exact ⟨0, Nat.zero_le _, rfl, ⟨L, h0, HN.out.symm⟩, Below.refl _ _⟩
    case round =>
      obtain ⟨k, hk, rfl, ⟨M, hM, hlen⟩, hbl⟩ := hrel
      clear h0
      by_cases hlt : k < n
      · obtain ⟨x, hx⟩ : ∃ x, x = M.getD k 0 := ⟨_, rfl⟩
        have hc : wr.cell? ⟨g, k, none⟩ = some (.int .i64 x) := by
          rw [hM.cellAt k (by omega), hx, List.getElem?_map, List.getD_eq_getElem?_getD, List.getElem?_eq_getElem (by omega)]
          rfl
        have hf := hM.frozenAt k
        have HM : Hid (wr.ownsRow B 3 1 (.slice (some ⟨g, 0, none⟩) n cap) n (M.map (Value.int .i64))) := hM
        have HL : Hid (M.length = n) := hlen
        have HB : Hid (Below B w wr) := hbl
        clear hM hlen hbl hx
        go_wp2
        go_roundw
        case rel =>
          refine ⟨k + 1, by omega, by go_num, ?_, HB.out.setCell (by exact hb) _⟩
          refine Exists.intro (M.set k (wrap64 (-9 - x))) ⟨?_, by rw [List.length_set]; exact HL.out⟩
          rw [List.map_set]
          exact (HM.out.stored k _).1
        case measure => simp [intOf]; omega
      · have HB : Hid (Below B w wr) := hbl
        clear hM hlen hbl
        go_wp2
        go_end0
        exact ⟨rfl, HB.out⟩

/-- A slice that came in reads as the numbers L. -/
def Came (w : World) (a : Option Addr) (n cap : Nat) (L : List Int) : Prop :=
  L.length = n ∧ ((a = none ∧ n = 0 ∧ cap = 0) ∨ ∃ x, a = some x ∧ n ≤ cap ∧ ∀ j, j < n → w.cell? (x.add j) = some (.int .i64 (L.getD j 0)))

theorem own_bounds {w : World} {B g n cap : Nat} {xs : List Value} (h : w.ownsRow B 3 1 (.slice (some ⟨g, 0, none⟩) n cap) n xs) : B ≤ g ∧ n ≤ cap := by
  rcases h.2 with ⟨h', _⟩ | ⟨g', cap', cur, h', hb, hg, hn, _⟩
  · simp at h'
  · simp only [Value.slice.injEq, Option.some.injEq, Addr.mk.injEq, and_true, true_and] at h'
    obtain ⟨rfl, rfl⟩ := h'
    exact ⟨hb, hn⟩

/-- The row lent: L, and two marks behind it. -/
def lentL (L : List Int) : List Int := L ++ [-7777, -8888]
def Lent (w : World) (g n cap : Nat) (L : List Int) : Prop :=
  L.length = n ∧ n + 2 ≤ cap ∧ ∀ j, j < n + 2 → w.cell? ⟨g, j, none⟩ = some (.int .i64 ((lentL L).getD j 0))

theorem Lent.below {w w' : World} {g n cap B : Nat} {L : List Int} (h : Lent w g n cap L) (b : Below B w w') (hg : g < B) : Lent w' g n cap L :=
  ⟨h.1, h.2.1, fun j hj => (b.cell (by exact hg)).trans (h.2.2 j hj)⟩
theorem Lent.reads {w : World} {g n cap : Nat} {L : List Int} (h : Lent w g n cap L) : Reads w (.slice (some ⟨g, 0, none⟩) n cap) L := by
  obtain ⟨rfl, h2, h3⟩ := h
  refine ⟨_, cap, rfl, fun _ => ⟨g, 0, rfl, fun j hj => ?_⟩⟩
  rw [Nat.zero_add, h3 j (by omega), lentL, List.getD_eq_getElem?_getD, List.getElem?_append_left hj, List.getD_eq_getElem?_getD]
theorem Lent.marks {w : World} {g n cap : Nat} {L : List Int} (h : Lent w g n cap L) : w.cell? ⟨g, n, none⟩ = some (.int .i64 (-7777)) ∧ w.cell? ⟨g, n + 1, none⟩ = some (.int .i64 (-8888)) := by
  obtain ⟨rfl, h2, h3⟩ := h
  constructor
  · rw [h3 _ (by omega), lentL, List.getD_eq_getElem?_getD, List.getElem?_append_right (by omega), Nat.sub_self]; rfl
  · rw [h3 _ (by omega), lentL, List.getD_eq_getElem?_getD, List.getElem?_append_right (by omega), show L.length + 1 - L.length = 1 by omega]; rfl
theorem Came.reads {w : World} {a : Option Addr} {n cap : Nat} {L : List Int} (h : Came w a n cap L) : Reads w (.slice a n cap) L := by
  obtain ⟨rfl, ⟨rfl, h0, rfl⟩ | ⟨x, rfl, hnc, hc⟩⟩ := h
  · exact ⟨none, 0, rfl, fun h => by omega⟩
  · refine ⟨some x, cap, rfl, fun h => ?_⟩
    obtain ⟨b, off, spot⟩ := x
    have hspot : spot = none := by simpa [Addr.add] using World.cell?_spot (hc 0 h)
    subst hspot
    refine ⟨b, off, rfl, fun j hj => ?_⟩
    have h1 := hc j hj
    rcases Nat.eq_zero_or_pos j with rfl | hp
    · simpa [Addr.add] using h1
    · rw [Addr.add, if_neg (by omega)] at h1
      exact h1

theorem came_of {w : World} {x : Addr} {n cap : Nat} {zs : List Int} (hl : n ≤ cap) (hz : zs.length = cap) (hc : ∀ i, i < zs.length → w.cell? (x.add i) = some (.int .i64 (zs.getD i 0))) : Came w (some x) n cap (zs.take n) := by
  refine ⟨by rw [List.length_take]; omega, .inr ⟨x, rfl, hl, fun j hj => ?_⟩⟩
  rw [hc j (by omega), List.getD_eq_getElem?_getD, List.getD_eq_getElem?_getD, List.getElem?_take, if_pos hj]
/-- No longer than a row that is read may be. -/
def L8 (L : List Int) : Prop := L.length * 8 ≤ 140737488351232

/-- A phase: lanes, bytes, clocks, read. -/
abbrev Ph := Int × List Int × Int × Int
/-- Its cells, where its bytes lie at bv. -/
def phC (bv : Value) (p : Ph) : List Value := [.int .i64 p.1, bv, .int .i64 p.2.2.1, .int .i64 p.2.2.2]
def rowC (qs : List (Value × Ph)) : List Value := qs.flatMap fun q => phC q.1 q.2
theorem rowC_nil : rowC [] = [] := rfl
theorem rowC_cons (q : Value × Ph) (qs : List (Value × Ph)) : rowC (q :: qs) = phC q.1 q.2 ++ rowC qs := by simp [rowC]
theorem rowC_append (ps qs : List (Value × Ph)) : rowC (ps ++ qs) = rowC ps ++ rowC qs := by simp [rowC]
theorem rowC_one (bv : Value) (p : Ph) : rowC [(bv, p)] = phC bv p := by simp [rowC]
theorem rowC_length (qs : List (Value × Ph)) : (rowC qs).length = qs.length * 4 := by
  induction qs with
  | nil => rfl
  | cons q qs ih => rw [rowC_cons, List.length_append, ih, List.length_cons]; simp [phC]; omega
theorem rowC_at : ∀ (qs : List (Value × Ph)) (j : Nat) (q : Value × Ph), qs[j]? = some q → (rowC qs)[j * 4]? = some (.int .i64 q.2.1) ∧ (rowC qs)[j * 4 + 1]? = some q.1 ∧ (rowC qs)[j * 4 + 2]? = some (.int .i64 q.2.2.2.1) ∧ (rowC qs)[j * 4 + 3]? = some (.int .i64 q.2.2.2.2)
  | [], j, q, h => by simp at h
  | p :: qs, 0, q, h => by
    simp at h; subst h
    rw [rowC_cons]; exact ⟨rfl, rfl, rfl, rfl⟩
  | p :: qs, j + 1, q, h => by
    have h' := rowC_at qs j q (by simpa using h)
    have e : ∀ k, (rowC (p :: qs))[(j + 1) * 4 + k]? = (rowC qs)[j * 4 + k]? := fun k => by
      rw [rowC_cons, show (j + 1) * 4 + k = (phC p.1 p.2).length + (j * 4 + k) by simp [phC]; omega, List.getElem?_append_right (by omega), Nat.add_sub_cancel_left]
    exact ⟨(e 0).trans h'.1, (e 1).trans h'.2.1, (e 2).trans h'.2.2.1, (e 3).trans h'.2.2.2⟩

theorem info50 : (Tryz.prog.info? 49).map (fun i => (i.zero, i.size, i.bytes)) = some (some (.agg #[.int .i64 0, .slice none 0 0, .int .i64 0, .int .i64 0]), 4, 48) := by kernel_rfl

/-- The slice v, in memory laid since block B, holds the phases qs (each with the value of its bytes), and all of it may be written. -/
def POwns (B : Nat) (w : World) (v : Value) (qs : List (Value × Ph)) : Prop :=
  w.ownsRow B 49 4 v qs.length (rowC qs) ∧ ∀ q ∈ qs, Owns B w q.1 q.2.2.1
/-- The slice v reads as the phases ps. -/
def PReads (w : World) (v : Value) (ps : List Ph) : Prop :=
  ∃ a cap, v = .slice a ps.length cap ∧ (0 < ps.length → ∃ g o, a = some ⟨g, o, none⟩ ∧ ∀ j p, ps[j]? = some p → ∃ bv, Reads w bv p.2.1 ∧ w.cell? ⟨g, o + j * 4, none⟩ = some (.int .i64 p.1) ∧ w.cell? ⟨g, o + j * 4 + 1, none⟩ = some bv ∧ w.cell? ⟨g, o + j * 4 + 2, none⟩ = some (.int .i64 p.2.2.1) ∧ w.cell? ⟨g, o + j * 4 + 3, none⟩ = some (.int .i64 p.2.2.2))

theorem own_apart {B C : Nat} {w : World} {u v : Value} {n m e s e' s' : Nat} {xs ys : List Value} (h : w.ownsRow B e s u n xs) (k : w.ownsRow C e' s' v m ys) (he : e ≠ e') : u.ownBlock = none ∨ u.ownBlock ≠ v.ownBlock := by
  rcases h.2 with ⟨rfl, -⟩ | ⟨g, cap, cur, rfl, -, hg, -⟩
  · exact .inl rfl
  · right
    rcases k.2 with ⟨rfl, -⟩ | ⟨g', cap', cur', rfl, -, hg', -⟩
    · simp [Value.ownBlock]
    · intro h
      have : g = g' := by simpa [Value.ownBlock] using h
      subst this
      rw [hg] at hg'
      simp at hg'
      exact he hg'.2
theorem POwns.more {B : Nat} {w w' : World} {v v' bv : Value} {qs : List (Value × Ph)} {p : Ph} (h : POwns B w v qs) (hb : Owns B w bv p.2.1) (ho : w'.ownsRow B 49 4 v' (qs.length + 1) (rowC qs ++ phC bv p)) (hg : w.grownBy w' v.ownBlock) : POwns B w' v' (qs ++ [(bv, p)]) := by
  refine ⟨by rw [rowC_append, rowC_one, List.length_append]; exact ho, fun q hq => ?_⟩
  rcases List.mem_append.1 hq with hq | hq
  · exact (h.2 q hq).kept hg (own_apart (h.2 q hq) h.1 (by decide))
  · have : q = (bv, p) := by simpa using hq
    subst this
    exact World.ownsRow.kept hb hg (own_apart hb h.1 (by decide))
theorem POwns.below {B B' : Nat} {w w' : World} {v : Value} {qs : List (Value × Ph)} (h : POwns B w v qs) (b : Below w.heap.size w w') (hB : B' ≤ B) : POwns B' w' v qs := by
  refine ⟨⟨h.1.1, ?_⟩, fun q hq => (h.2 q hq).below b hB⟩
  rcases h.1.2 with h2 | ⟨g, cap, cur, hv, hb, hg, hr⟩
  · exact .inl h2
  · have hlt : g < w.heap.size := by
      rcases Nat.lt_or_ge g w.heap.size with hlt | hge
      · exact hlt
      · rw [Array.getElem?_eq_none hge] at hg; cases hg
    exact .inr ⟨g, cap, cur, hv, by omega, (b.block g hlt).trans hg, hr⟩
theorem POwns.reads {B : Nat} {w : World} {v : Value} {qs : List (Value × Ph)} (h : POwns B w v qs) : PReads w v (qs.map Prod.snd) := by
  rcases h.1.2 with ⟨rfl, hn⟩ | ⟨g, cap, cur, rfl, hb, hg, hnc, hcm, hcs, ht⟩
  · exact ⟨none, 0, by rw [List.length_map, hn], fun hp => by rw [List.length_map] at hp; omega⟩
  · refine ⟨some ⟨g, 0, none⟩, cap, by rw [List.length_map], fun hp => ⟨g, 0, rfl, fun j p hj => ?_⟩⟩
    rw [List.getElem?_map] at hj
    obtain ⟨q, hq, rfl⟩ := Option.map_eq_some_iff.1 hj
    have hlt : j < qs.length := by
      rcases Nat.lt_or_ge j qs.length with h | h
      · exact h
      · rw [List.getElem?_eq_none h] at hq; cases hq
    obtain ⟨c0, c1, c2, c3⟩ := rowC_at qs j q hq
    have e : ∀ k, k < 4 → w.cell? ⟨g, 0 + j * 4 + k, none⟩ = (rowC qs)[j * 4 + k]? := fun k hk => by
      rw [Nat.zero_add, h.1.cellAt (j * 4 + k) (by omega)]
    exact ⟨q.1, (h.2 q (List.mem_of_getElem? hq)).reads, (e 0 (by omega)).trans c0, (e 1 (by omega)).trans c1, (e 2 (by omega)).trans c2, (e 3 (by omega)).trans c3⟩
theorem PReads.below {w w' : World} {v : Value} {ps : List Ph} (h : PReads w v ps) (b : Below w.heap.size w w') : PReads w' v ps := by
  obtain ⟨a, cap, rfl, h2⟩ := h
  refine ⟨a, cap, rfl, fun hp => ?_⟩
  obtain ⟨g, o, rfl, hc⟩ := h2 hp
  refine ⟨g, o, rfl, fun j p hj => ?_⟩
  obtain ⟨bv, h0, h1, h2, h3, h4⟩ := hc j p hj
  exact ⟨bv, h0.below b, (b.cell (by exact cell_lt h1)).trans h1, (b.cell (by exact cell_lt h2)).trans h2, (b.cell (by exact cell_lt h3)).trans h3, (b.cell (by exact cell_lt h4)).trans h4⟩
theorem preads_lit {w : World} {g n : Nat} {cs : Array Value} (qs : List (Value × Ph)) (hg : w.heap[g]? = some (.cells cs 49 (0, 0))) (hc : cs.toList = rowC qs) (hn : qs.length = n) (hr : ∀ q ∈ qs, Reads w q.1 q.2.2.1) (c : Nat) : PReads w (.slice (some ⟨g, 0, none⟩) n c) (qs.map Prod.snd) := by
  subst hn
  refine ⟨some ⟨g, 0, none⟩, c, by rw [List.length_map], fun hp => ⟨g, 0, rfl, fun j p hj => ?_⟩⟩
  rw [List.getElem?_map] at hj
  obtain ⟨q, hq, rfl⟩ := Option.map_eq_some_iff.1 hj
  obtain ⟨c0, c1, c2, c3⟩ := rowC_at qs j q hq
  have e : ∀ k, w.cell? ⟨g, 0 + j * 4 + k, none⟩ = (rowC qs)[j * 4 + k]? := fun k => by
    rw [Nat.zero_add, cell_of_row w g (j * 4 + k) cs 49 (0, 0) hg, ← Array.getElem?_toList, hc]
  exact ⟨q.1, hr q (List.mem_of_getElem? hq), (e 0).trans c0, (e 1).trans c1, (e 2).trans c2, (e 3).trans c3⟩
theorem POwns.nil (B : Nat) (w : World) : POwns B w (.slice none 0 0) [] := ⟨World.ownsRow_nil _ _ _ _, fun q hq => by simp at hq⟩
/-- A row of one phase, written out. -/
theorem POwns.lit {B : Nat} {w : World} {bv : Value} {p : Ph} (h : Owns B w bv p.2.1) (hB : B ≤ w.heap.size) : POwns B (w.alloc (.cells #[.int .i64 p.1, bv, .int .i64 p.2.2.1, .int .i64 p.2.2.2] 49)) (.slice (some ⟨w.heap.size, 0, none⟩) 1 1) [(bv, p)] := by
  refine ⟨?_, fun q hq => ?_⟩
  · have := World.ownsRow_lit (base := B) (e := 49) (size := 4) w #[.int .i64 p.1, bv, .int .i64 p.2.2.1, .int .i64 p.2.2.2] 1 hB (by unfold maxLen; omega) rfl
    rw [rowC_one]
    exact this
  · have : q = (bv, p) := by simpa using hq
    subst this
    exact World.ownsRow.alloc h _
theorem phC_one {bv : Value} {p : Ph} {n : Nat} {a : Option Addr} {c : Nat} (hb : bv = .slice a n c) : ∀ u ∈ phC bv p, u.oneCell' = true := by
  subst hb
  intro u hu
  simp [phC] at hu
  rcases hu with rfl | rfl | rfl | rfl <;> rfl
theorem own_slice {B : Nat} {w : World} {v : Value} {L : List Int} (h : Owns B w v L) : ∃ a c, v = .slice a L.length c := by
  rcases h.2 with ⟨rfl, hn⟩ | ⟨g, cap, cur, rfl, -⟩
  · exact ⟨none, 0, by rw [hn]⟩
  · exact ⟨_, cap, rfl⟩
theorem Came.below {w w' : World} {a : Option Addr} {n cap : Nat} {L : List Int} (h : Came w a n cap L) (b : Below w.heap.size w w') : Came w' a n cap L := by
  obtain ⟨hn, h0 | ⟨x, rfl, hnc, hc⟩⟩ := h
  · exact ⟨hn, .inl h0⟩
  · exact ⟨hn, .inr ⟨x, rfl, hnc, fun j hj => (b.cell (by exact cell_lt (hc j hj))).trans (hc j hj)⟩⟩
theorem Came.none (w : World) : Came w none 0 0 [] := ⟨rfl, .inl ⟨rfl, rfl, rfl⟩⟩
theorem came_reads {w : World} {g n c : Nat} {L : List Int} (h : Reads w (.slice (some ⟨g, 0, none⟩) n c) L) (hc : n ≤ c) : Came w (some ⟨g, 0, none⟩) n c L := by
  obtain ⟨a, cap, he, h2⟩ := h
  injection he with h3 h4 h5
  refine ⟨h4.symm, .inr ⟨_, rfl, hc, fun j hj => ?_⟩⟩
  obtain ⟨g', o, ha, hcell⟩ := h2 (by omega)
  rw [← h3] at ha
  injection ha with ha
  injection ha with h6 h7 h8
  subst h6 h7
  have := hcell j (by omega)
  rw [Nat.zero_add] at this
  have hadd : (⟨g, 0, Option.none⟩ : Addr).add j = ⟨g, j, Option.none⟩ := by unfold Addr.add; split <;> simp_all
  rw [hadd]
  exact this
theorem Lent.came {w : World} {g n cap : Nat} {L : List Int} (h : Lent w g n cap L) : Came w (some ⟨g, 0, none⟩) n cap L := came_reads h.reads (by have := h.2.1; omega)

/-- A place in three bytes, the highest first. -/
def addrL (k : Nat) : List Int := [((k / 65536 : Nat) : Int), ((k / 256 % 256 : Nat) : Int), ((k % 256 : Nat) : Int)]
theorem shr_nat (k s : Nat) : (k : Int) >>> s = ((k / 2 ^ s : Nat) : Int) := by
  rw [Int.shiftRight_eq_div_pow]; norm_cast

set_option maxRecDepth 100000 in
set_option maxHeartbeats 1000000 in
theorem no_byte (x : Int) (w : World) :
    Calls Tryz.prog 123 #[.int .i64 x] w fun e w' => e = .returned (.bool (decide (x < 0 ∨ 256 ≤ x))) ∧ w = w' := by
  by_cases h0 : x < 0
  · go_enter Tryz.func123, Tryz.ntmps123
    go_wp2
    go_ret
    exact ⟨ret_bool (decide_eq_true (Or.inl h0)).symm, rfl⟩
  · by_cases h1 : 256 ≤ x
    · go_enter Tryz.func123, Tryz.ntmps123
      go_wp2
      go_ret
      exact ⟨ret_bool (by first | (simp; done) | (simp; omega)), rfl⟩
    · go_enter Tryz.func123, Tryz.ntmps123
      go_wp2
      go_ret
      exact ⟨ret_bool (by first | (simp; done) | (simp; omega)), rfl⟩

/-- Is each number a byte? -/
def byB (L : List Int) : Bool := L.all fun x => decide (0 ≤ x ∧ x < 256)
theorem byB_to {L : List Int} {n : Nat} (hn : n = L.length) (h : ∀ j, j < n → 0 ≤ L.getD j 0 ∧ L.getD j 0 < 256) : byB L = true := by
  rw [byB, List.all_eq_true]
  intro x hx
  obtain ⟨j, hj, rfl⟩ := List.mem_iff_getElem.1 hx
  have := h j (by omega)
  rw [List.getD_eq_getElem?_getD, List.getElem?_eq_getElem hj] at this
  exact decide_eq_true this
theorem byB_no {L : List Int} {k : Nat} (hk : k < L.length) (h : L.getD k 0 < 0 ∨ 256 ≤ L.getD k 0) : byB L = false := by
  rw [byB, List.all_eq_false]
  refine ⟨L[k], List.getElem_mem hk, ?_⟩
  rw [List.getD_eq_getElem?_getD, List.getElem?_eq_getElem hk] at h
  have h : L[k] < 0 ∨ 256 ≤ L[k] := h
  simp; omega

set_option maxRecDepth 100000 in
set_option maxHeartbeats 1000000 in
theorem index_any (u : Value) (L : List Int) (w : World) (hu : Reads w u L) (hl : L.length * 8 ≤ 140737488351232) :
    Calls Tryz.prog 149 #[u, .func (.func 123) #[] #[]] w fun e w' => (∃ z : Int, e = .returned (.int .i64 z) ∧ byB L = decide (z < 0)) ∧ Below w.heap.size w w' := by
  obtain ⟨a, c1, rfl, hu⟩ := hu
  obtain ⟨n, hn⟩ : ∃ n, n = L.length := ⟨_, rfl⟩
  rw [← hn] at hl hu
  rw [← hn]
  have HN : Hid (n = L.length) := hn
  clear hn
  by_cases h0 : n = 0
  · subst h0
    have HL : Hid (byB L = true) := byB_to HN.out fun j hj => by omega
    clear hu
    go_enter Tryz.func149, Tryz.ntmps149
    go_wp2
    refine wp_loop_rounds 1 ?_
    rw [rounds_succ]
    go_wp2
    go_ret
    exact ⟨⟨-1, rfl, HL.out⟩, Below.refl _ _⟩
  · obtain ⟨g, o, rfl, hg⟩ := hu (by omega)
    clear hu
    go_enter Tryz.func149, Tryz.ntmps149
    go_wp2
    go_loopw [5, 8] (fun s i wr => ∃ k : Nat, k ≤ n ∧ i = .int .i64 k ∧ (∀ j, j < k → 0 ≤ L.getD j 0 ∧ L.getD j 0 < 256) ∧ Hid (wr = w)) (fun _ i _ => n - (intOf i).toNat)
    case atStart => exact ⟨0, Nat.zero_le _, rfl, fun j hj => by omega, rfl⟩
    case round =>
      obtain ⟨k, hk, rfl, hs, HW⟩ := hrel
      have HS : Hid (∀ j, j < k → 0 ≤ L.getD j 0 ∧ L.getD j 0 < 256) := hs
      by_cases hlt : k < n
      · obtain ⟨x, hx⟩ : ∃ x, x = L.getD k 0 := ⟨_, rfl⟩
        have c1 : wr.cell? ⟨g, o + k, none⟩ = some (.int .i64 x) := by rw [hx, HW.out]; exact hg k (by omega)
        have HX : Hid (x = L.getD k 0) := hx
        clear hs hg hx
        by_cases hb : x < 0 ∨ 256 ≤ x
        · have HB : Hid (x < 0 ∨ 256 ≤ x) := hb
          clear hb
          go_wp2_with fail
          refine (no_byte x _).mono ?_
          rintro e w' ⟨rfl, rfl⟩
          rw [show decide (x < 0 ∨ 256 ≤ x) = true from decide_eq_true HB.out]
          go_wp2
          go_ret
          exact ⟨⟨k, rfl, by rw [byB_no (by rw [← HN.out]; exact hlt) (by rw [← HX.out]; exact HB.out)]; exact (decide_eq_false (by omega)).symm⟩, by rw [HW.out]; exact Below.refl _ _⟩
        · have HB : Hid (¬ (x < 0 ∨ 256 ≤ x)) := hb
          clear hb
          go_wp2_with fail
          refine (no_byte x _).mono ?_
          rintro e w' ⟨rfl, rfl⟩
          rw [show decide (x < 0 ∨ 256 ≤ x) = false from decide_eq_false HB.out]
          go_wp2
          go_roundw
          case rel => exact ⟨k + 1, by omega, by go_num, fun j hj => by
            rcases Nat.lt_or_eq_of_le (Nat.le_of_lt_succ hj) with h | rfl
            · exact HS.out j h
            · rw [← HX.out]; have := HB.out; omega, HW⟩
          case measure => simp [intOf]; omega
      · have HL : Hid (byB L = true) := byB_to HN.out fun j hj => hs j (by omega)
        clear hs hg
        go_wp2
        go_ret
        exact ⟨⟨-1, rfl, HL.out⟩, by rw [HW.out]; exact Below.refl _ _⟩

set_option maxRecDepth 100000 in
set_option maxHeartbeats 1000000 in
theorem contains_any (u : Value) (L : List Int) (w : World) (hu : Reads w u L) (hl : L.length * 8 ≤ 140737488351232) :
    Calls Tryz.prog 122 #[u, .func (.func 123) #[] #[]] w fun e w' => e = .returned (.bool (!byB L)) ∧ Below w.heap.size w w' := by
  have hu' : Hid (Reads w u L) := hu
  obtain ⟨a, c1, rfl, -⟩ := hu
  go_enter Tryz.func122, Tryz.ntmps122
  go_wp2_with fail
  refine (index_any _ L _ hu'.out hl).mono ?_
  rintro e w1 ⟨⟨z, rfl, hz⟩, b1⟩
  have HZ : Hid (byB L = decide (z < 0)) := hz
  clear hz
  by_cases h : z < 0
  · go_wp2
    go_ret
    exact ⟨ret_bool (by rw [HZ.out, decide_eq_true h, decide_eq_false (by omega)]; rfl), b1⟩
  · go_wp2
    go_ret
    exact ⟨ret_bool (by rw [HZ.out]; first | (simp; done) | (simp; omega)), b1⟩

/-- Are they bytes, and no more than a sector has? -/
def fewB (L : List Int) : Bool := decide (L.length ≤ 512) && byB L

set_option maxRecDepth 100000 in
set_option maxHeartbeats 1000000 in
theorem only_any (u : Value) (L : List Int) (w : World) (hu : Reads w u L) (hl : L.length * 8 ≤ 140737488351232) :
    Calls Tryz.prog 92 #[u] w fun e w' => e = .returned (.bool (fewB L)) ∧ Below w.heap.size w w' := by
  have hu' : Hid (Reads w u L) := hu
  obtain ⟨a, c1, rfl, -⟩ := hu
  by_cases h : L.length ≤ 512
  · obtain ⟨x, hx⟩ : ∃ x, byB L = x := ⟨_, rfl⟩
    rw [show fewB L = x by rw [fewB, decide_eq_true h, Bool.true_and, hx]]
    have HX : Hid (byB L = x) := hx
    clear hx
    cases x
    · go_enter Tryz.func92, Tryz.ntmps92
      go_wp2_with fail
      refine (contains_any _ L _ hu'.out hl).mono ?_
      rintro e w1 ⟨rfl, b1⟩
      rw [HX.out]
      go_wp2
      go_ret
      exact ⟨rfl, b1⟩
    · go_enter Tryz.func92, Tryz.ntmps92
      go_wp2_with fail
      refine (contains_any _ L _ hu'.out hl).mono ?_
      rintro e w1 ⟨rfl, b1⟩
      rw [HX.out]
      go_wp2
      go_ret
      exact ⟨rfl, b1⟩
  · rw [show fewB L = false by rw [fewB, decide_eq_false h, Bool.false_and]]
    go_enter Tryz.func92, Tryz.ntmps92
    go_wp2
    go_ret
    exact ⟨rfl, Below.refl _ _⟩

set_option maxRecDepth 100000 in
set_option maxHeartbeats 1000000 in
theorem bmay_any (u : Value) (L : List Int) (w : World) (hu : Reads w u L) (hl : L.length * 8 ≤ 140737488351232) :
    Calls Tryz.prog 93 #[u] w fun e w' => e = .returned (.bool (byB L)) ∧ Below w.heap.size w w' := by
  obtain ⟨a, c1, rfl, hu⟩ := hu
  obtain ⟨n, hn⟩ : ∃ n, n = L.length := ⟨_, rfl⟩
  rw [← hn] at hl hu
  rw [← hn]
  have HN : Hid (n = L.length) := hn
  clear hn
  by_cases h0 : n = 0
  · subst h0
    have HL : Hid (byB L = true) := byB_to HN.out fun j hj => by omega
    clear hu
    go_enter Tryz.func93, Tryz.ntmps93
    go_wp2
    refine wp_loop_rounds 1 ?_
    rw [rounds_succ]
    go_wp2
    go_ret
    exact ⟨ret_bool HL.out.symm, Below.refl _ _⟩
  · obtain ⟨g, o, rfl, hg⟩ := hu (by omega)
    clear hu
    go_enter Tryz.func93, Tryz.ntmps93
    go_wp2
    go_loopw [3] (fun i wr => ∃ k : Nat, k ≤ n ∧ i = .int .i64 k ∧ (∀ j, j < k → 0 ≤ L.getD j 0 ∧ L.getD j 0 < 256) ∧ Hid (wr = w)) (fun i _ => n - (intOf i).toNat)
    case atStart => exact ⟨0, Nat.zero_le _, rfl, fun j hj => by omega, rfl⟩
    case round =>
      obtain ⟨k, hk, rfl, hs, HW⟩ := hrel
      have HS : Hid (∀ j, j < k → 0 ≤ L.getD j 0 ∧ L.getD j 0 < 256) := hs
      by_cases hlt : k < n
      · obtain ⟨x, hx⟩ : ∃ x, x = L.getD k 0 := ⟨_, rfl⟩
        have c1 : wr.cell? ⟨g, o + k, none⟩ = some (.int .i64 x) := by rw [hx, HW.out]; exact hg k (by omega)
        have HX : Hid (x = L.getD k 0) := hx
        clear hs hg hx
        by_cases hb0 : x < 0
        · go_wp2
          go_ret
          exact ⟨ret_bool (byB_no (by rw [← HN.out]; exact hlt) (by rw [← HX.out]; omega)).symm, by rw [HW.out]; exact Below.refl _ _⟩
        · by_cases hb1 : 255 < x
          · go_wp2
            go_ret
            exact ⟨ret_bool (byB_no (by rw [← HN.out]; exact hlt) (by rw [← HX.out]; omega)).symm, by rw [HW.out]; exact Below.refl _ _⟩
          · go_wp2
            go_roundw
            case rel => exact ⟨k + 1, by omega, by go_num, fun j hj => by
              rcases Nat.lt_or_eq_of_le (Nat.le_of_lt_succ hj) with h | rfl
              · exact HS.out j h
              · rw [← HX.out]; omega, HW⟩
            case measure => simp [intOf]; omega
      · have HL : Hid (byB L = true) := byB_to HN.out fun j hj => hs j (by omega)
        clear hs hg
        go_wp2
        go_ret
        exact ⟨ret_bool HL.out.symm, by rw [HW.out]; exact Below.refl _ _⟩

/-- Two rows compared: nothing is laid. -/
theorem drewN_more {w u : World} (h : ∃ c, u = w.drewN c) : ∃ c, u.drew = w.drewN c := by
  obtain ⟨c, rfl⟩ := h
  exact ⟨c + 1, by rw [← World.drewN_drewN]; rfl⟩
set_option maxRecDepth 100000 in
set_option maxHeartbeats 1000000 in
theorem same_q (u v : Value) (L M : List Int) (w : World) (hu : Reads w u L) (hv : Reads w v M) (hl : L.length * 8 ≤ 140737488351232) (hm : M.length * 8 ≤ 140737488351232) :
    Calls Tryz.prog 20 #[u, v] w fun e w' => e = .returned (.bool (decide (L = M))) ∧ ∃ c, w' = w.drewN c := by
  obtain ⟨a, c1, rfl, hu⟩ := hu
  obtain ⟨b, c2, rfl, hv⟩ := hv
  obtain ⟨n, hn⟩ : ∃ n, n = L.length := ⟨_, rfl⟩
  obtain ⟨m, hm2⟩ : ∃ m, m = M.length := ⟨_, rfl⟩
  rw [← hn] at hl
  rw [← hm2] at hm
  rw [← hn, ← hm2]
  by_cases hnm : n = m
  · subst hnm
    by_cases h0 : n = 0
    · subst h0
      have hL : L = M := by rw [List.length_eq_zero_iff.1 hn.symm, List.length_eq_zero_iff.1 hm2.symm]
      have HL : Hid (L = M) := hL
      clear hL hu hv hn hm2
      go_enter Tryz.func20, Tryz.ntmps20
      go_wp2
      refine wp_loop_rounds 1 ?_
      rw [rounds_succ]
      go_wp2
      go_ret
      exact ⟨ret_bool (by rw [HL.out]; simp), ⟨0, rfl⟩⟩
    · obtain ⟨g, o, rfl, hg⟩ := hu (by omega)
      obtain ⟨g', o', rfl, hg'⟩ := hv (by omega)
      clear hu hv
      go_enter Tryz.func20, Tryz.ntmps20
      go_wp2
      go_loopw [5] (fun i wr => ∃ k : Nat, k ≤ n ∧ i = .int .i64 k ∧ (∀ j, j < k → L.getD j 0 = M.getD j 0) ∧ ∃ c, wr = w.drewN c) (fun i _ => n - (intOf i).toNat)
      case atStart => exact ⟨0, Nat.zero_le _, rfl, fun j hj => by omega, ⟨0, rfl⟩⟩
      case round =>
        obtain ⟨k, hk, rfl, hs, hc⟩ := hrel
        have hb : Below w.heap.size w wr := by obtain ⟨c, rfl⟩ := hc; exact below_drewN (Below.refl _ _) c
        have HS : Hid (∀ j, j < k → L.getD j 0 = M.getD j 0) := hs
        have HB : Hid (∃ c, wr = w.drewN c) := hc
        clear hc
        by_cases hlt : k < n
        · obtain ⟨x, hx⟩ : ∃ x, x = L.getD k 0 := ⟨_, rfl⟩
          obtain ⟨y, hy⟩ : ∃ y, y = M.getD k 0 := ⟨_, rfl⟩
          have c1 : wr.cell? ⟨g, o + k, none⟩ = some (.int .i64 x) := by rw [hx]; exact (hb.cell (by exact cell_lt (hg k (by omega)))).trans (hg k (by omega))
          have c2 : wr.cell? ⟨g', o' + k, none⟩ = some (.int .i64 y) := by rw [hy]; exact (hb.cell (by exact cell_lt (hg' k (by omega)))).trans (hg' k (by omega))
          have i1 : (0 : Int) ≤ (k : Int) := by omega
          have i2 : (k : Int) < n := by omega
          have HX : Hid (x = L.getD k 0) := hx
          have HY : Hid (y = M.getD k 0) := hy
          have HN : Hid (n = L.length) := hn
          have HM : Hid (n = M.length) := hm2
          clear hs hb hg hg' hx hy hn hm2
          by_cases hxy : x = y
          · have e1 : (x != y) = false := by simpa using hxy
            go_wp2
            go_region
            all_goals go_wp2
            all_goals go_roundw
            case rel => exact ⟨k + 1, by omega, by go_num, fun j hj => by
              rcases Nat.lt_or_eq_of_le (Nat.le_of_lt_succ hj) with h | rfl
              · exact HS.out j h
              · exact HX.out.symm.trans (hxy.trans HY.out), drewN_more HB.out⟩
            case measure => simp [intOf]; omega
          · have e1 : (x != y) = true := by simpa using hxy
            go_wp2
            go_region
            all_goals go_wp2
            all_goals go_ret
            exact ⟨ret_bool (by
              refine (decide_eq_false fun h => hxy ?_).symm
              rw [HX.out, HY.out, h]), drewN_more HB.out⟩
        · have HL : Hid (L = M) := list_same (hn.symm.trans hm2) fun j hj => hs j (by omega)
          clear hs hb hg hg' hn hm2
          go_wp2
          go_ret
          exact ⟨ret_bool (by rw [HL.out]; simp), HB.out⟩
  · have HL : Hid (L ≠ M) := fun h => hnm (by rw [hn, hm2, h])
    clear hu hv hn hm2
    go_enter Tryz.func20, Tryz.ntmps20
    go_wp2
    go_ret
    exact ⟨ret_bool (decide_eq_false HL.out).symm, ⟨0, rfl⟩⟩


/-- No longer than rows that are read may be. -/
def PShort (P : List Ph) : Prop := P.length < 4611686018427387904 ∧ ∀ p ∈ P, p.2.1.length * 8 ≤ 140737488351232
theorem phs_same {P Q : List Ph} (hl : P.length = Q.length) (h : ∀ j, j < P.length → P[j]? = Q[j]?) : P = Q := by
  refine List.ext_getElem? fun j => ?_
  rcases Nat.lt_or_ge j P.length with hj | hj
  · exact h j hj
  · rw [List.getElem?_eq_none hj, List.getElem?_eq_none (by omega)]

set_option maxRecDepth 100000 in
set_option maxHeartbeats 4000000 in
theorem phases_same (u v : Value) (P Q : List Ph) (w : World) (hu : PReads w u P) (hv : PReads w v Q) (hp : PShort P) (hq : PShort Q) :
    Calls Tryz.prog 21 #[u, v] w fun e w' => e = .returned (.bool (decide (P = Q))) ∧ Below w.heap.size w w' := by
  obtain ⟨a, c1, rfl, hu⟩ := hu
  obtain ⟨b, c2, rfl, hv⟩ := hv
  obtain ⟨n, hn⟩ : ∃ n, n = P.length := ⟨_, rfl⟩
  obtain ⟨m, hm⟩ : ∃ m, m = Q.length := ⟨_, rfl⟩
  have hn62 : n < 4611686018427387904 := by rw [hn]; exact hp.1
  have hm62 : m < 4611686018427387904 := by rw [hm]; exact hq.1
  rw [← hn] at hu
  rw [← hm] at hv
  rw [← hn, ← hm]
  have HN : Hid (n = P.length) := hn
  have HM : Hid (m = Q.length) := hm
  have HPS : Hid (PShort P) := hp
  have HQS : Hid (PShort Q) := hq
  clear hn hm hp hq
  by_cases hnm : n = m
  · subst hnm
    by_cases h0 : n = 0
    · subst h0
      have HL : Hid (P = Q) := phs_same (HN.out.symm.trans HM.out) fun j hj => by have := HN.out; omega
      clear hu hv
      go_enter Tryz.func21, Tryz.ntmps21
      go_wp2
      refine wp_loop_rounds 1 ?_
      rw [rounds_succ]
      go_wp2
      go_ret
      exact ⟨ret_bool (by rw [HL.out]; simp), Below.refl _ _⟩
    · obtain ⟨g, o, rfl, hg⟩ := hu (by omega)
      obtain ⟨g', o', rfl, hg'⟩ := hv (by omega)
      clear hu hv
      have HG : Hid (∀ j p, P[j]? = some p → _) := hg
      have HG' : Hid (∀ j p, Q[j]? = some p → _) := hg'
      clear hg hg'
      go_enter Tryz.func21, Tryz.ntmps21
      go_wp2
      go_loopw [5] (fun i wr => ∃ k : Nat, k ≤ n ∧ i = .int .i64 k ∧ Hid (∀ j, j < k → P[j]? = Q[j]?) ∧ Hid (Below w.heap.size w wr)) (fun i _ => n - (intOf i).toNat)
      case atStart => exact ⟨0, Nat.zero_le _, rfl, fun j hj => by omega, Below.refl _ _⟩
      case round =>
        obtain ⟨k, hk, rfl, HS, HB⟩ := hrel
        by_cases hlt : k < n
        · obtain ⟨p, hpk⟩ : ∃ p, P[k]? = some p := ⟨_, List.getElem?_eq_getElem (by have := HN.out; omega)⟩
          obtain ⟨q, hqk⟩ : ∃ q, Q[k]? = some q := ⟨_, List.getElem?_eq_getElem (by have := HM.out; omega)⟩
          obtain ⟨bv, r1, x1, x2, x3, x4⟩ := HG.out k p hpk
          obtain ⟨bv', r1', y1, y2, y3, y4⟩ := HG'.out k q hqk
          have e1 := (HB.out.cell (by exact cell_lt x1)).trans x1
          have e2 := (HB.out.cell (by exact cell_lt x2)).trans x2
          have e3 := (HB.out.cell (by exact cell_lt x3)).trans x3
          have e4 := (HB.out.cell (by exact cell_lt x4)).trans x4
          have f1 := (HB.out.cell (by exact cell_lt y1)).trans y1
          have f2 := (HB.out.cell (by exact cell_lt y2)).trans y2
          have f3 := (HB.out.cell (by exact cell_lt y3)).trans y3
          have f4 := (HB.out.cell (by exact cell_lt y4)).trans y4
          obtain ⟨y, hy⟩ : ∃ y, decide (p.2.1 = q.2.1) = y := ⟨_, rfl⟩
          have HC : Hid (∀ nq : Nat, Calls Tryz.prog 20 #[bv, bv'] (wr.drewN nq) fun e w' => e = .returned (.bool y) ∧ ∃ c, w' = (wr.drewN nq).drewN c) := fun nq => (same_q _ _ _ _ _ (r1.below (below_drewN HB.out nq)) (r1'.below (below_drewN HB.out nq)) (HPS.out.2 p (List.mem_of_getElem? hpk)) (HQS.out.2 q (List.mem_of_getElem? hqk))).mono fun e w' ⟨he, hw⟩ => ⟨by rw [he, hy], hw⟩
          have HY : Hid (decide (p.2.1 = q.2.1) = y) := hy
          clear hy
          have HPK : Hid (P[k]? = some p) := hpk
          have HQK : Hid (Q[k]? = some q) := hqk
          clear x1 x2 x3 x4 y1 y2 y3 y4 r1 r1' hpk hqk
          obtain ⟨p0, p1, p2, p3⟩ := p
          obtain ⟨q0, q1, q2, q3⟩ := q
          have i1 : (k : Int) < n := by omega
          by_cases d0 : p0 = q0
          · subst d0
            by_cases d2 : p2 = q2
            · subst d2
              by_cases d3 : p3 = q3
              · subst d3
                by_cases d1 : p1 = q1
                · have hyt : y = true := by rw [← HY.out]; exact decide_eq_true d1
                  subst hyt
                  have HE : Hid (P[k]? = Q[k]?) := by rw [Hid, HPK.out, HQK.out, d1]
                  go_wp2
                  go_quiet ((go_at_call 20; exact Calls.quiet_of (HC.out _)))
                  go_wp2
                  go_roundw
                  case rel => exact ⟨k + 1, by omega, by go_num, fun j hj => by
                    rcases Nat.lt_or_eq_of_le (Nat.le_of_lt_succ hj) with h | rfl
                    · exact HS.out j h
                    · exact HE.out, below_drewN HB.out _⟩
                  case measure => simp [intOf]; omega
                · have hyf : y = false := by rw [← HY.out]; exact decide_eq_false d1
                  subst hyf
                  have HD : Hid (P ≠ Q) := fun h => by
                    have := HPK.out
                    rw [h, HQK.out] at this
                    injection this with this
                    injection this with h0 this
                    injection this with this h2
                    exact d1 this.symm
                  go_wp2
                  go_quiet ((go_at_call 20; exact Calls.quiet_of (HC.out _)))
                  go_wp2
                  go_ret
                  exact ⟨ret_bool (decide_eq_false HD.out).symm, below_drewN HB.out _⟩
              · have t0 : (p3 != q3) = true := by simpa using d3
                have HD : Hid (P ≠ Q) := fun h => by
                  have := HPK.out
                  rw [h, HQK.out] at this
                  injection this with this
                  injection this with h0 this
                  injection this with h1 this
                  injection this with h2 this
                  exact d3 this.symm
                go_wp2
                go_quiet (fail)
                go_wp2
                go_ret
                exact ⟨ret_bool (decide_eq_false HD.out).symm, below_drewN HB.out _⟩
            · have t0 : (p2 != q2) = true := by simpa using d2
              have HD : Hid (P ≠ Q) := fun h => by
                have := HPK.out
                rw [h, HQK.out] at this
                injection this with this
                injection this with h0 this
                injection this with h1 this
                injection this with this h3
                exact d2 this.symm
              go_wp2
              go_quiet (fail)
              go_wp2
              go_ret
              exact ⟨ret_bool (decide_eq_false HD.out).symm, below_drewN HB.out _⟩
          · have t0 : (p0 != q0) = true := by simpa using d0
            have HD : Hid (P ≠ Q) := fun h => by
              have := HPK.out
              rw [h, HQK.out] at this
              injection this with this
              injection this with this h1
              exact d0 this.symm
            go_wp2
            go_quiet (fail)
            go_wp2
            go_ret
            exact ⟨ret_bool (decide_eq_false HD.out).symm, below_drewN HB.out _⟩
        · have HL : Hid (P = Q) := phs_same (HN.out.symm.trans HM.out) fun j hj => HS.out j (by have := HN.out; omega)
          go_wp2
          go_ret
          exact ⟨ret_bool (by rw [HL.out]; simp), HB.out⟩
  · have HL : Hid (P ≠ Q) := fun h => hnm (by rw [HN.out, HM.out, h])
    clear hu hv
    go_enter Tryz.func21, Tryz.ntmps21
    go_wp2
    go_ret
    exact ⟨ret_bool (decide_eq_false HL.out).symm, Below.refl _ _⟩

/-- Rows stay rows of as many numbers; rows of phases stay as they are. -/
def Soft (B : Nat) (w w' : World) : Prop := (∀ u M, Owns B w u M → ∃ M', M'.length = M.length ∧ Owns B w' u M') ∧ ∀ u n xs, w.ownsRow B 49 4 u n xs → w'.ownsRow B 49 4 u n xs
theorem Soft.refl (B : Nat) (w : World) : Soft B w w := ⟨fun u M h => ⟨M, rfl, h⟩, fun u n xs h => h⟩
theorem own_other {B g : Nat} {w w' : World} {v : Value} {n e s : Nat} {xs : List Value} (h : w.ownsRow B e s v n xs) (hg : w.grownBy w' (some g)) (hne : v.ownBlock ≠ some g) : w'.ownsRow B e s v n xs := h.kept hg (.inr hne)
theorem Soft.set {B g n cap : Nat} {w w' : World} {xs : List Value} (h : Soft B w w') (k : w'.ownsRow B 3 1 (.slice (some ⟨g, 0, none⟩) n cap) n xs) (j : Nat) (z : Int) : Soft B w (w'.setCell ⟨g, j, none⟩ (.int .i64 z)) := by
  have hgr := (k.stored j (.int .i64 z)).2
  refine ⟨fun u M hu => ?_, fun u m ys hu => ?_⟩
  · obtain ⟨M', hl, ho⟩ := h.1 u M hu
    by_cases hb : u.ownBlock = some g
    · rcases ho.2 with ⟨rfl, -⟩ | ⟨g', cap', cur, rfl, hr⟩
      · simp [Value.ownBlock] at hb
      · have : g' = g := by simpa [Value.ownBlock] using hb
        subst this
        refine ⟨M'.set j z, by rw [List.length_set, hl], ?_⟩
        have := (World.ownsRow.stored ho j (.int .i64 z)).1
        rw [Owns, List.length_set, List.map_set]
        exact this
    · exact ⟨M', hl, own_other ho hgr hb⟩
  · have ho := h.2 u m ys hu
    rcases own_apart ho k (by decide) with hn | hn
    · exact ho.kept hgr (.inl hn)
    · exact own_other ho hgr hn

set_option maxRecDepth 100000 in
set_option maxHeartbeats 1000000 in
theorem spoil_more (B : Nat) (v : Value) (L : List Int) (w : World) (h : Owns B w v L) (hl : L.length * 8 ≤ 140737488351232) :
    Calls Tryz.prog 25 #[v] w fun e w' => e = .returned (.tuple #[]) ∧ Below B w w' ∧ Soft B w w' := by
  have h00 := h
  rcases h.2 with ⟨rfl, hn⟩ | ⟨g, cap, cur, rfl, hb, -⟩
  · clear h h00
    go_enter Tryz.func25, Tryz.ntmps25
    go_wp2
    refine wp_loop_rounds 1 ?_
    rw [rounds_succ]
    go_wp2
    go_end0
    exact ⟨rfl, Below.refl _ _, Soft.refl _ _⟩
  · clear h
    obtain ⟨n, hn⟩ : ∃ n, n = L.length := ⟨_, rfl⟩
    rw [← hn] at hl
    have h0 : w.ownsRow B 3 1 (.slice (some ⟨g, 0, none⟩) n cap) n (L.map (Value.int .i64)) := by rw [hn]; exact h00
    rw [← hn]
    clear h00
    have HN : Hid (n = L.length) := hn
    clear hn
    go_enter Tryz.func25, Tryz.ntmps25
    go_wp2
    go_loopw [2] (fun i wr => ∃ k : Nat, k ≤ n ∧ i = .int .i64 k ∧ (∃ M : List Int, wr.ownsRow B 3 1 (.slice (some ⟨g, 0, none⟩) n cap) n (M.map (Value.int .i64)) ∧ M.length = n) ∧ Hid (Below B w wr) ∧ Hid (Soft B w wr)) (fun i _ => n - (intOf i).toNat)
    case atStart => exact ⟨0, Nat.zero_le _, rfl, ⟨L, h0, HN.out.symm⟩, Below.refl _ _, Soft.refl _ _⟩
    case round =>
      obtain ⟨k, hk, rfl, ⟨M, hM, hlen⟩, HB, HS⟩ := hrel
      clear h0
      by_cases hlt : k < n
      · obtain ⟨x, hx⟩ : ∃ x, x = M.getD k 0 := ⟨_, rfl⟩
        have hc : wr.cell? ⟨g, k, none⟩ = some (.int .i64 x) := by
          rw [hM.cellAt k (by omega), hx, List.getElem?_map, List.getD_eq_getElem?_getD, List.getElem?_eq_getElem (by omega)]
          rfl
        have hf := hM.frozenAt k
        have HM : Hid (wr.ownsRow B 3 1 (.slice (some ⟨g, 0, none⟩) n cap) n (M.map (Value.int .i64))) := hM
        have HL : Hid (M.length = n) := hlen
        clear hM hlen hx
        go_wp2
        go_roundw
        case rel =>
          refine ⟨k + 1, by omega, by go_num, ?_, HB.out.setCell (by exact hb) _, HS.out.set HM.out _ _⟩
          refine Exists.intro (M.set k (wrap64 (-9 - x))) ⟨?_, by rw [List.length_set]; exact HL.out⟩
          rw [List.map_set]
          exact (HM.out.stored k _).1
        case measure => simp [intOf]; omega
      · clear hM hlen
        go_wp2
        go_end0
        exact ⟨rfl, HB.out, HS.out⟩

/-- Each phase has its lanes, and a row of numbers that may be written. -/
def PSoft (B : Nat) (w : World) (n : Nat) (xs : List Value) : Prop := ∀ j, j < n → (∃ l : Int, xs[j * 4]? = some (.int .i64 l)) ∧ ∃ bv M, xs[j * 4 + 1]? = some bv ∧ M.length * 8 ≤ 140737488351232 ∧ Owns B w bv M
theorem POwns.soft {B : Nat} {w : World} {v : Value} {qs : List (Value × Ph)} (h : POwns B w v qs) (hs : PShort (qs.map Prod.snd)) : PSoft B w qs.length (rowC qs) := fun j hj => by
  have hq : qs[j]? = some qs[j] := List.getElem?_eq_getElem hj
  obtain ⟨c0, c1, -, -⟩ := rowC_at qs j _ hq
  refine ⟨⟨_, c0⟩, _, _, c1, ?_, h.2 _ (List.getElem_mem hj)⟩
  exact hs.2 _ (List.mem_map.2 ⟨_, List.getElem_mem hj, rfl⟩)



end Go.Proofs.YtjhjghakfedeeaaGreat
end
