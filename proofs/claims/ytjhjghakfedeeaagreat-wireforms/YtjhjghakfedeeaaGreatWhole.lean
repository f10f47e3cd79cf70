/-
  The small functions of this seat, each by a contract: the mask's byte, whether cells may be, whether data fit, the number of an error. No conditions but those of each statement. A row of bytes in a block of the call's own: what a store, a draw and the two conversions between texts and bytes do to it. No conditions but those of each statement. The functions of this seat that fill a new row of bytes, each by a contract: blank cells, the document's own, a text over and over. No conditions but those of each statement. A program of cells, whole and cut, by the program and by the document's answer: each by a contract. No conditions but those of each statement. An erase of a sector, whole and cut, by the program and by the document's answer: each by a contract. No conditions but those of each statement. The calls of package cell, each by one contract for every argument. Conditions: the texts are no longer than any text may be; the numbers are ints. What a call of the cells answers, told for arguments that it takes, and plain facts on what it leaves. No conditions but those of each statement.
-/
import Derived.Test.YtjhjghakfedeeaaGreatParts
import Derived.WalkKit
import Derived.WalkSpells
import Derived.WalkLawsBesides
import Derived.KernelRfl
import Derived.Deep.Draws
import Derived.Deep.OwnRows
import Derived.Deep.RegionHeld3
import Derived.Deep.DrawnRows
/-! The small functions of this seat, each by a contract: the mask's byte, whether cells may be, whether data fit, the number of an error. No conditions but those of each statement. -/
section
namespace Go.Proofs.YtjhjghakfedeeaaGreat
open Go.RowKit Plain

set_option maxHeartbeats 400000 in
theorem maskByte_any (m : ByteArray) (i : Nat) (w : World) (hm : m.size ≤ maxLen) (hi : i ≤ 4096) :
    Calls Tryz.prog 140 #[.string m, .int .i64 (i : Int)] w fun e w' => e = .returned (.int .u8 ((mb m i).toNat : Int)) ∧ w = w' := by
  unfold maxLen at hm
  by_cases h : m.size = 0
  · have hl : m.toList.isEmpty = true := by rw [isEmpty_iff]; simpa using h
    go_enter Tryz.func140, Tryz.ntmps140
    go_wp2
    go_ret
    exact ⟨ret_int (by rw [mb_zero m i h]; rfl), rfl⟩
  · have hl : m.toList.isEmpty = false := by rw [isEmpty_iff]; simpa using h
    have hp : 0 < m.size := by omega
    have hb := get_ub m
    have hlt : i % m.size < m.size := Nat.mod_lt _ hp
    have H : Hid (mb m i = ub m (i % m.size)) := mb_pos m i hp
    go_enter Tryz.func140, Tryz.ntmps140
    go_wp2
    go_ret
    exact ⟨ret_int (by rw [H.out]), rfl⟩
def mayB (a : ByteArray) : Bool := decide (a.size = 4096)
theorem may_any (a : ByteArray) (w : World) :
    Calls Tryz.prog 89 #[.string a] w fun e w' => e = .returned (.bool (mayB a)) ∧ w = w' := by
  go_enter Tryz.func89, Tryz.ntmps89
  go_wp2
  go_ret
  exact ⟨ret_bool (by unfold mayB; rw [Bool.eq_iff_iff]; simp; omega), rfl⟩
def fitsB (k : Int) (n : Nat) : Bool := decide (0 ≤ k ∧ k + n ≤ 4096)
theorem fits_any (k : Int) (n : Nat) (w : World) (hn : n ≤ maxLen) :
    Calls Tryz.prog 141 #[.int .i64 k, .int .i64 (n : Int)] w fun e w' => e = .returned (.bool (fitsB k n)) ∧ w = w' := by
  unfold maxLen at hn
  by_cases h : 0 ≤ k
  · by_cases h2 : k + n ≤ 4096
    all_goals
      go_enter Tryz.func141, Tryz.ntmps141
      go_wp2
      go_ret
      exact ⟨ret_bool (by unfold fitsB; rw [Bool.eq_iff_iff]; simp; omega), rfl⟩
  · go_enter Tryz.func141, Tryz.ntmps141
    go_wp2
    go_ret
    exact ⟨ret_bool (by unfold fitsB; rw [Bool.eq_iff_iff]; simp; omega), rfl⟩
end Go.Proofs.YtjhjghakfedeeaaGreat
end

/-! A row of bytes in a block of the call's own: what a store, a draw and the two conversions between texts and bytes do to it. No conditions but those of each statement. -/
section
namespace Go.Proofs.YtjhjghakfedeeaaGreat
open Go.RowKit Plain

/-- Block g holds n bytes, the j-th is f j, and they may be written. -/
def Bytes (w : World) (g n : Nat) (f : Nat → UInt8) : Prop :=
  ∀ j, j < n → w.cell? ⟨g, j, none⟩ = some (.int .u8 ((f j).toNat : Int)) ∧ w.frozen? ⟨g, j, none⟩ = false

theorem Bytes.congr {w : World} {g n : Nat} {f f' : Nat → UInt8} (h : Bytes w g n f) (e : ∀ j, j < n → f j = f' j) : Bytes w g n f' :=
  fun j hj => by rw [← e j hj]; exact h j hj
theorem Bytes.cell_is {w : World} {g n : Nat} {f : Nat → UInt8} (h : Bytes w g n f) (j : Nat) (hj : j < n) {x : UInt8} (e : f j = x) : w.cell? ⟨g, j, none⟩ = some (.int .u8 (x.toNat : Int)) := by
  rw [← e]; exact (h j hj).1
theorem Bytes.drewN {w : World} {g n : Nat} {f : Nat → UInt8} (h : Bytes w g n f) (k : Nat) : Bytes (w.drewN k) g n f :=
  fun j hj => by rw [World.cell?_drewN, World.frozen?_drewN]; exact h j hj
theorem Bytes.drew {w : World} {g n : Nat} {f : Nat → UInt8} (h : Bytes w g n f) : Bytes w.drew g n f := h
theorem Bytes.set {w : World} {g n : Nat} {f : Nat → UInt8} (h : Bytes w g n f) (k : Nat) (hk : k < n) (x : UInt8) :
    Bytes (w.setCell ⟨g, k, none⟩ (.int .u8 (x.toNat : Int))) g n (fun j => if j = k then x else f j) := fun j hj => by
  rw [World.frozen?_setCell]
  refine ⟨?_, (h j hj).2⟩
  by_cases e : j = k
  · subst e
    rw [World.cell?_setCell_same w _ _ (h j hj).1]; simp
  · rw [World.cell?_setCell_other w _ _ _ (by intro e'; injection e' with _ e2 _; exact e e2.symm)]
    simpa [e] using (h j hj).1
theorem Bytes.set_is {w : World} {g n : Nat} {f : Nat → UInt8} (h : Bytes w g n f) (k : Nat) (hk : k < n) {x : UInt8} {v : Int} (e : v = (x.toNat : Int)) :
    Bytes (w.setCell ⟨g, k, none⟩ (.int .u8 v)) g n (fun j => if j = k then x else f j) := by
  rw [e]; exact h.set k hk x
theorem Bytes.back {w : World} {g n : Nat} {f : Nat → UInt8} (h : Bytes w g n f) (cap : Nat) :
    (convert 91 9 (.slice (some ⟨g, 0, none⟩) n cap)).run Tryz.prog w = .ok (.string (tab n f)) w := by
  have e := run_convert_bytes_arg (P := Tryz.prog) w 91 5 Tryz.underlying91 Tryz.underlying5 g 0 n cap ((List.range n).map fun j => ((f j).toNat : Int)) (by simp) (fun i hi => by
    rw [Nat.zero_add, (h i hi).1]
    simp [hi]) 9 Tryz.underlying9
  rw [e, strOfNums_tab n f _ (by simp) (fun i hi => by simp [hi])]

/-- .. under a name, so that no step looks into the text. -/
theorem Bytes.back_is {w : World} {g n : Nat} {f f' : Nat → UInt8} (h : Bytes w g n f) (e : ∀ j, j < n → f j = f' j) (cap : Nat) :
    ∃ R : ByteArray, (convert 91 9 (.slice (some ⟨g, 0, none⟩) n cap)).run Tryz.prog w = .ok (.string R) w ∧ Hid (R = tab n f') :=
  ⟨_, h.back cap, tab_congr e⟩

/-- '[]byte(s)': a row of the call's own, the text's bytes in it. -/
theorem to_bytes (w : World) (s : ByteArray) : ∃ W1 cap, (convert 9 91 (.string s)).run Tryz.prog w = .ok (.slice (some ⟨w.heap.size, 0, none⟩) s.size cap) W1 ∧ s.size ≤ cap ∧
    Bytes W1 w.heap.size s.size (ub s) ∧ Below w.heap.size w W1 ∧ w.heap.size < W1.heap.size := by
  refine ⟨_, _, run_bytes_of_string w 9 91 5 s Tryz.underlying9 Tryz.underlying91 Tryz.underlying5, grownCap_ge w s.size 0 5, fun j hj => ?_, ((Below.refl _ _).drew).alloc (Nat.le_refl _) _, ?_⟩
  · have hs : w.heap.size = w.drew.heap.size := rfl
    refine ⟨?_, ?_⟩
    · rw [hs, World.cell?_alloc_mark, bytesRow_at s _ j hj, ub_of s j hj]; rfl
    · rw [hs, World.frozen?_alloc_mark]
      have : (bytesRow s (grownCap w s.size 0 5)).size ≥ s.size := by
        unfold bytesRow
        rw [Array.size_append, Array.size_map]
        exact Nat.le_add_right _ _
      have h2 : ¬ (bytesRow s (grownCap w s.size 0 5)).size ≤ j := by omega
      simp [h2]
  · simp

theorem to_bytes_of (w : World) (s : ByteArray) (n : Nat) (hn : s.size = n) : ∃ W1 cap, (convert 9 91 (.string s)).run Tryz.prog w = .ok (.slice (some ⟨w.heap.size, 0, none⟩) n cap) W1 ∧ n ≤ cap ∧
    Bytes W1 w.heap.size n (ub s) ∧ Below w.heap.size w W1 ∧ w.heap.size < W1.heap.size := by
  subst hn
  exact to_bytes w s

/-- 'make([]byte, n)': a row of the call's own, zeros in it. -/
theorem make_bytes (w : World) (n : Nat) (hn : n ≤ 281474976710656) : ∃ W1, (Instr.makeSlice 91 (.int .i64 (n : Int)) (.int .i64 (n : Int))).run Tryz.prog w = .ok (.slice (some ⟨w.heap.size, 0, none⟩) n n) W1 ∧
    Bytes W1 w.heap.size n (fun _ => 0) ∧ Below w.heap.size w W1 ∧ w.heap.size < W1.heap.size := by
  have hinfo : (Tryz.prog.info? 5).map (fun i => (i.zero, i.size, i.bytes)) = some (some (.int .u8 0), 1, 1) := by kernel_rfl
  refine ⟨_, run_make_row' (P := Tryz.prog) 91 5 (.int .u8 0) 1 Tryz.underlying91 hinfo rfl .i64 .i64 n (by omega) (by omega) w, fun j hj => ⟨?_, ?_⟩, (Below.refl _ _).alloc (Nat.le_refl _) _, by simp⟩
  · rw [World.cell?_alloc_mark, ← Array.getElem?_toList, toList_madeCells_one]
    simp [hj]
  · rw [World.frozen?_alloc_mark]; simp
end Go.Proofs.YtjhjghakfedeeaaGreat
end

/-! The functions of this seat that fill a new row of bytes, each by a contract: blank cells, the document's own, a text over and over. No conditions but those of each statement. -/
section
namespace Go.Proofs.YtjhjghakfedeeaaGreat
open Go.RowKit Plain

theorem ret_string {a b : ByteArray} (h : a = b) : Ending.returned (.string a) = .returned (.string b) := by rw [h]

theorem step255 (k j : Nat) : (if j = k then (255 : UInt8) else if j < k then 255 else 0) = if j < k + 1 then 255 else 0 := by
  by_cases h : j < k
  · rw [if_pos h, if_pos (show j < k + 1 by omega)]; split <;> rfl
  · by_cases e : j = k
    · rw [if_pos e, if_pos (by omega)]
    · rw [if_neg e, if_neg h, if_neg (by omega)]

set_option maxRecDepth 100000 in
set_option maxHeartbeats 400000 in
theorem full_any (w : World) :
    Calls Tryz.prog 88 #[.int .i64 4096] w fun e w' => e = .returned (.string (full 4096)) ∧ Below w.heap.size w w' := by
  obtain ⟨W1, hmk, hb0, hbel, hsz⟩ := make_bytes w 4096 (by omega)
  have hmk' : (Instr.makeSlice 91 (.int .i64 4096) (.int .i64 4096)).run Tryz.prog w = .ok (.slice (some ⟨w.heap.size, 0, none⟩) 4096 4096) W1 := hmk
  clear hmk
  go_enter Tryz.func88, Tryz.ntmps88
  go_wp2
  go_loopw [4] (fun i wr => ∃ k : Nat, k ≤ 4096 ∧ i = .int .i64 k ∧ Bytes wr w.heap.size 4096 (fun j => if j < k then 255 else 0) ∧ Below w.heap.size w wr) (fun i _ => 4096 - (intOf i).toNat)
  case atStart => exact ⟨0, Nat.zero_le _, rfl, hb0.congr (fun j _ => by simp), hbel⟩
  case round =>
    obtain ⟨k, hk, rfl, hb, hbl⟩ := hrel
    clear hmk' hb0 hbel
    by_cases hlt : k < 4096
    · have hc := (hb k hlt).1
      have hf := (hb k hlt).2
      go_wp2
      go_roundw
      case rel => exact ⟨k + 1, by omega, by go_num, (hb.set k hlt 255).congr (fun j _ => step255 k j), hbl.setCell (Nat.le_refl _) _⟩
      case measure => simp [intOf]; omega
    · have hk' : k = 4096 := by omega
      obtain ⟨R, hbk, HR⟩ := hb.back_is (f' := fun _ => 255) (fun j hj => by rw [if_pos (by omega)]) 4096
      clear hb
      go_wp2
      go_ret
      exact ⟨ret_string HR.out, hbl⟩

set_option maxHeartbeats 400000 in
theorem refBlank_any (w : World) :
    Calls Tryz.prog 51 #[] w fun e w' => e = .returned (.string (full 4096)) ∧ Below w.heap.size w w' := by
  go_enter Tryz.func51, Tryz.ntmps51
  go_wp2_with (go_at_call 88; refine (full_any _).mono ?_; rintro e w' ⟨rfl, hb⟩)
  go_ret
  exact ⟨rfl, by assumption⟩

theorem refBlank_is (w : World) :
    Calls Tryz.prog 51 #[] w fun e w' => ∃ F : ByteArray, e = .returned (.string F) ∧ Hid (F = full 4096) ∧ Below w.heap.size w w' :=
  (refBlank_any w).mono fun _ _ ⟨he, hb⟩ => ⟨_, he, rfl, hb⟩

theorem full_size {F : ByteArray} (h : F = full 4096) : F.size = 4096 := by rw [h]; exact tab_size _ _
theorem full_ub {F : ByteArray} (h : F = full 4096) {j : Nat} (hj : j < 4096) : ub F j = 255 := by rw [h]; exact ub_tab _ _ _ hj
theorem wide_empty (s : ByteArray) (h : s.size = 0) : wide s = full 4096 := tab_congr fun i _ => by rw [if_pos h]
theorem wide_step (s : ByteArray) (k j : Nat) : (if j = k then ub s (k % s.size) else if j < k then ub s (j % s.size) else 255) = if j < k + 1 then ub s (j % s.size) else 255 := by
  by_cases h : j < k
  · rw [if_pos h, if_pos (show j < k + 1 by omega), if_neg (by omega)]
  · by_cases e : j = k
    · rw [if_pos e, if_pos (by omega), e]
    · rw [if_neg e, if_neg h, if_neg (by omega)]

end Go.Proofs.YtjhjghakfedeeaaGreat
end

/-! A program of cells, whole and cut, by the program and by the document's answer: each by a contract. No conditions but those of each statement. -/
section
namespace Go.Proofs.YtjhjghakfedeeaaGreat
open Go.RowKit Plain
attribute [local go_sem ↓] Go.wp_at_zero Go.wp_at_succ

theorem prog_of {a d m R : ByteArray} {A : Nat} (ha : a.size = 4096) (h : R = tab 4096 fun j => if A ≤ j ∧ j < A + d.size then pb (ub a j) (ub d (j - A)) (mb m (j - A)) else ub a j) : R = prog a A d m := by
  rw [h]; unfold prog; rw [ha]

set_option maxRecDepth 100000 in
set_option maxHeartbeats 1000000 in
theorem programCut_yes (a : ByteArray) (A : Nat) (d m : ByteArray) (w : World) (ha : a.size = 4096) (hA : A + d.size ≤ 4096) (hm : m.size ≤ maxLen) :
    Calls Tryz.prog 114 #[.string a, .int .i64 (A : Int), .string d, .string m] w fun e w' => ∃ R, e = .returned (.tuple #[.string R, .int .i64 0]) ∧ Hid (R = prog a A d m) ∧ Below w.heap.size w w' := by
  have h1 : mayB a = true := by simp [mayB, ha]
  have h2 : fitsB (A : Int) d.size = true := by simp [fitsB]; omega
  have hget := get_ub d
  obtain ⟨W1, cap, hcv, hcap, hby, hbel, hsz⟩ := to_bytes_of w a 4096 ha
  go_enter Tryz.func114, Tryz.ntmps114
  go_wp2_with (first | (go_at_call 89; refine (may_any _ _).mono ?_; rintro e w' ⟨rfl, rfl⟩) | (go_at_call 141; refine (fits_any _ _ _ (by unfold maxLen; omega)).mono ?_; rintro e w' ⟨rfl, rfl⟩))
  go_loopw [26] (fun i wr => ∃ k : Nat, k ≤ d.size ∧ i = .int .i64 k ∧ Bytes wr w.heap.size 4096 (fun j => if A ≤ j ∧ j < A + k then pb (ub a j) (ub d (j - A)) (mb m (j - A)) else ub a j) ∧ Below w.heap.size w wr) (fun i _ => d.size - (intOf i).toNat)
  case atStart => exact ⟨0, Nat.zero_le _, rfl, hby.congr (fun j hj => by rw [if_neg (by omega)]), hbel⟩
  case round =>
    obtain ⟨k, hk, rfl, hbb, hbl⟩ := hrel
    clear hcv hby hbel
    by_cases hlt : k < d.size
    · have hc : wr.cell? ⟨w.heap.size, A + k, none⟩ = some (.int .u8 ((ub a (A + k)).toNat : Int)) := hbb.cell_is (A + k) (by omega) (if_neg (by omega))
      have hf := (hbb (A + k) (by omega)).2
      have i1 : (0 : Int) ≤ (A : Int) + (k : Int) := by omega
      have i2 : (A : Int) + (k : Int) < 4096 := by omega
      have i3 : IntKind.i64.wrap ((A : Int) + (k : Int)) = (A : Int) + (k : Int) := IntWalk.i64_in _ (by omega)
      have i4 : ((A : Int) + (k : Int)).toNat = A + k := by omega
      have HB : Hid (Bytes wr w.heap.size 4096 _) := hbb
      have HL : Hid (Below w.heap.size w wr) := hbl
      clear hbb hbl
      go_wp2
      go_region_with (go_at_call 140; refine (maskByte_any _ _ _ hm (by omega)).mono ?_; rintro e w' ⟨rfl, rfl⟩)
      all_goals
        go_wp2
        go_roundw
        case rel => exact ⟨k + 1, by omega, by go_num, (HB.out.set_is (A + k) (by omega) (pb_walk (ub a (A + k)) (ub d k) (mb m k))).congr (fun j _ => prog_step a d m A k j), (HL.out.setCell (Nat.le_refl _) _).drew⟩
        case measure => simp [intOf]; omega
    · obtain ⟨R, hbk, HR⟩ := hbb.back_is (f' := fun j => if A ≤ j ∧ j < A + d.size then pb (ub a j) (ub d (j - A)) (mb m (j - A)) else ub a j) (fun j hj => by rw [show k = d.size by omega]) cap
      clear hbb
      go_wp2
      go_ret2
      exact ⟨R, rfl, prog_of ha HR.out, hbl⟩
end Go.Proofs.YtjhjghakfedeeaaGreat
end

/-! An erase of a sector, whole and cut, by the program and by the document's answer: each by a contract. No conditions but those of each statement. -/
section
namespace Go.Proofs.YtjhjghakfedeeaaGreat
open Go.RowKit Plain
attribute [local go_sem ↓] Go.wp_at_zero Go.wp_at_succ

theorem erase_of {a m R : ByteArray} {S : Nat} (ha : a.size = 4096) (h : R = tab 4096 fun j => if S * 512 ≤ j ∧ j < S * 512 + 512 then eb (ub a j) (mb m (j - S * 512)) else ub a j) : R = erase a S m := by
  rw [h]; unfold erase; rw [ha]

set_option maxRecDepth 100000 in
set_option maxHeartbeats 1000000 in
theorem eraseCut_yes (a : ByteArray) (S : Nat) (m : ByteArray) (w : World) (ha : a.size = 4096) (hS : S < 8) (hm : m.size ≤ maxLen) :
    Calls Tryz.prog 113 #[.string a, .int .i64 (S : Int), .string m] w fun e w' => ∃ R, e = .returned (.tuple #[.string R, .int .i64 0]) ∧ Hid (R = erase a S m) ∧ Below w.heap.size w w' := by
  have h1 : mayB a = true := by simp [mayB, ha]
  obtain ⟨W1, cap, hcv, hcap, hby, hbel, hsz⟩ := to_bytes_of w a 4096 ha
  go_enter Tryz.func113, Tryz.ntmps113
  go_wp2_with (go_at_call 89; refine (may_any _ _).mono ?_; rintro e w' ⟨rfl, rfl⟩)
  go_loopw [26] (fun i wr => ∃ k : Nat, k ≤ 512 ∧ i = .int .i64 k ∧ Bytes wr w.heap.size 4096 (fun j => if S * 512 ≤ j ∧ j < S * 512 + k then eb (ub a j) (mb m (j - S * 512)) else ub a j) ∧ Below w.heap.size w wr) (fun i _ => 512 - (intOf i).toNat)
  case atStart => exact ⟨0, Nat.zero_le _, rfl, hby.congr (fun j hj => by rw [if_neg (by omega)]), hbel⟩
  case round =>
    obtain ⟨k, hk, rfl, hbb, hbl⟩ := hrel
    clear hcv hby hbel
    by_cases hlt : k < 512
    · have hc : wr.cell? ⟨w.heap.size, S * 512 + k, none⟩ = some (.int .u8 ((ub a (S * 512 + k)).toNat : Int)) := hbb.cell_is (S * 512 + k) (by omega) (if_neg (by omega))
      have hf := (hbb (S * 512 + k) (by omega)).2
      have i1 : (0 : Int) ≤ (S : Int) * 512 + (k : Int) := by omega
      have i2 : (S : Int) * 512 + (k : Int) < 4096 := by omega
      have i3 : IntKind.i64.wrap ((S : Int) * 512 + (k : Int)) = (S : Int) * 512 + (k : Int) := IntWalk.i64_in _ (by omega)
      have i4 : ((S : Int) * 512 + (k : Int)).toNat = S * 512 + k := by omega
      have HB : Hid (Bytes wr w.heap.size 4096 _) := hbb
      have HL : Hid (Below w.heap.size w wr) := hbl
      clear hbb hbl
      go_wp2
      go_region_with (go_at_call 140; refine (maskByte_any _ _ _ hm (by omega)).mono ?_; rintro e w' ⟨rfl, rfl⟩)
      all_goals
        go_wp2
        go_roundw
        case rel => exact ⟨k + 1, by omega, by go_num, (HB.out.set_is (S * 512 + k) (by omega) (eb_walk (ub a (S * 512 + k)) (mb m k))).congr (fun j _ => erase_step a m (S * 512) k j), (HL.out.setCell (Nat.le_refl _) _).drew⟩
        case measure => simp [intOf]; omega
    · obtain ⟨R, hbk, HR⟩ := hbb.back_is (f' := fun j => if S * 512 ≤ j ∧ j < S * 512 + 512 then eb (ub a j) (mb m (j - S * 512)) else ub a j) (fun j hj => by rw [show k = 512 by omega]) cap
      clear hbb
      go_wp2
      go_ret2
      exact ⟨R, rfl, erase_of ha HR.out, hbl⟩
end Go.Proofs.YtjhjghakfedeeaaGreat
end

/-! The calls of package cell, each by one contract for every argument. Conditions: the texts are no longer than any text may be; the numbers are ints. -/
section
namespace Go.Proofs.YtjhjghakfedeeaaGreat
open Go.RowKit Plain
set_option linter.unusedVariables false

def pcB (a : ByteArray) (k : Int) (n : Nat) : Bool := mayB a && fitsB k n
def pcS (a : ByteArray) (k : Int) (d m : ByteArray) : ByteArray := if pcB a k d.size then prog a k.toNat d m else ⟨#[]⟩
def pcN (a : ByteArray) (k : Int) (n : Nat) : Int := if pcB a k n then 0 else 100
def ecB (a : ByteArray) (s : Int) : Bool := mayB a && decide (0 ≤ s ∧ s < 8)
def ecS (a : ByteArray) (s : Int) (m : ByteArray) : ByteArray := if ecB a s then erase a s.toNat m else ⟨#[]⟩
def ecN (a : ByteArray) (s : Int) : Int := if ecB a s then 0 else 100

/-- What a call of the cells answers: a text and a number. -/
def Answers (w : World) (S : ByteArray) (N : Int) (e : Ending) (w' : World) : Prop :=
  ∃ R n, e = .returned (.tuple #[.string R, .int .i64 n]) ∧ Hid (R = S) ∧ Hid (n = N) ∧ Below w.heap.size w w'

set_option maxHeartbeats 400000 in
theorem programCut_no (a : ByteArray) (k : Int) (d m : ByteArray) (w : World) (hd : d.size ≤ maxLen) (h : pcB a k d.size = false) :
    Calls Tryz.prog 114 #[.string a, .int .i64 k, .string d, .string m] w fun e w' => e = .returned (.tuple #[.string ⟨#[]⟩, .int .i64 100]) ∧ w = w' := by
  unfold pcB at h
  cases h1 : mayB a with
  | false =>
    clear h
    go_enter Tryz.func114, Tryz.ntmps114
    go_wp2_with (go_at_call 89; refine (may_any _ _).mono ?_; rintro e w' ⟨rfl, rfl⟩)
    go_ret2
    exact ⟨rfl, rfl⟩
  | true =>
    have h2 : fitsB k d.size = false := by simpa [h1] using h
    clear h
    go_enter Tryz.func114, Tryz.ntmps114
    go_wp2_with (first | (go_at_call 89; refine (may_any _ _).mono ?_; rintro e w' ⟨rfl, rfl⟩) | (go_at_call 141; refine (fits_any _ _ _ hd).mono ?_; rintro e w' ⟨rfl, rfl⟩))
    go_ret2
    exact ⟨rfl, rfl⟩

set_option maxHeartbeats 400000 in
theorem eraseCut_no (a : ByteArray) (s : Int) (m : ByteArray) (w : World) (h : ecB a s = false) :
    Calls Tryz.prog 113 #[.string a, .int .i64 s, .string m] w fun e w' => e = .returned (.tuple #[.string ⟨#[]⟩, .int .i64 100]) ∧ w = w' := by
  unfold ecB at h
  cases h1 : mayB a with
  | false =>
    clear h
    go_enter Tryz.func113, Tryz.ntmps113
    go_wp2_with (go_at_call 89; refine (may_any _ _).mono ?_; rintro e w' ⟨rfl, rfl⟩)
    go_ret2
    exact ⟨rfl, rfl⟩
  | true =>
    have h3 : ¬ (0 ≤ s ∧ s < 8) := by simpa [h1] using h
    clear h
    by_cases c1 : s < 0
    · clear h3
      go_enter Tryz.func113, Tryz.ntmps113
      go_wp2_with (go_at_call 89; refine (may_any _ _).mono ?_; rintro e w' ⟨rfl, rfl⟩)
      go_ret2
      exact ⟨rfl, rfl⟩
    · have c2 : 8 ≤ s := by omega
      clear h3
      go_enter Tryz.func113, Tryz.ntmps113
      go_wp2_with (go_at_call 89; refine (may_any _ _).mono ?_; rintro e w' ⟨rfl, rfl⟩)
      go_ret2
      exact ⟨rfl, rfl⟩

theorem pcB_true {a : ByteArray} {k : Int} {n : Nat} (h : pcB a k n = true) : a.size = 4096 ∧ 0 ≤ k ∧ k + n ≤ 4096 := by
  simpa [pcB, mayB, fitsB] using h
theorem ecB_true {a : ByteArray} {s : Int} (h : ecB a s = true) : a.size = 4096 ∧ 0 ≤ s ∧ s < 8 := by
  simpa [ecB, mayB] using h

theorem programCut_any (a : ByteArray) (k : Int) (d m : ByteArray) (w : World) (hd : d.size ≤ maxLen) (hm : m.size ≤ maxLen) :
    Calls Tryz.prog 114 #[.string a, .int .i64 k, .string d, .string m] w (Answers w (pcS a k d m) (pcN a k d.size)) := by
  cases h : pcB a k d.size with
  | false => exact (programCut_no a k d m w hd h).mono fun e w' ⟨he, hw⟩ => ⟨_, _, he, by unfold pcS; rw [h]; rfl, by unfold pcN; rw [h]; rfl, hw ▸ Below.refl _ _⟩
  | true =>
    obtain ⟨ha, h0, h1⟩ := pcB_true h
    obtain ⟨A, rfl⟩ := Int.eq_ofNat_of_zero_le h0
    exact (programCut_yes a A d m w ha (by omega) hm).mono fun e w' ⟨R, he, hR, hb⟩ => ⟨R, _, he, by unfold pcS; rw [h]; exact hR, by unfold pcN; rw [h]; rfl, hb⟩
theorem eraseCut_any (a : ByteArray) (s : Int) (m : ByteArray) (w : World) (hm : m.size ≤ maxLen) :
    Calls Tryz.prog 113 #[.string a, .int .i64 s, .string m] w (Answers w (ecS a s m) (ecN a s)) := by
  cases h : ecB a s with
  | false => exact (eraseCut_no a s m w h).mono fun e w' ⟨he, hw⟩ => ⟨_, _, he, by unfold ecS; rw [h]; rfl, by unfold ecN; rw [h]; rfl, hw ▸ Below.refl _ _⟩
  | true =>
    obtain ⟨ha, h0, h1⟩ := ecB_true h
    obtain ⟨A, rfl⟩ := Int.eq_ofNat_of_zero_le h0
    exact (eraseCut_yes a A m w ha (by omega) hm).mono fun e w' ⟨R, he, hR, hb⟩ => ⟨R, _, he, by unfold ecS; rw [h]; exact hR, by unfold ecN; rw [h]; rfl, hb⟩
theorem ff_size : (⟨#[255]⟩ : ByteArray).size ≤ maxLen := by unfold maxLen; decide

end Go.Proofs.YtjhjghakfedeeaaGreat
end

/-! What a call of the cells answers, told for arguments that it takes, and plain facts on what it leaves. No conditions but those of each statement. -/
section
namespace Go.Proofs.YtjhjghakfedeeaaGreat
open Go.RowKit Plain
set_option linter.unusedVariables false

theorem pcS_yes {a d m : ByteArray} {A : Nat} (ha : a.size = 4096) (hA : A + d.size ≤ 4096) : pcS a (A : Int) d m = prog a A d m := by
  unfold pcS
  rw [if_pos (by simp [pcB, mayB, fitsB, ha]; omega)]
  simp
theorem pcN_yes {a : ByteArray} {k : Int} {n : Nat} (ha : a.size = 4096) (h0 : 0 ≤ k) (hA : k + n ≤ 4096) : pcN a k n = 0 := by
  unfold pcN
  rw [if_pos (by simp [pcB, mayB, fitsB, ha]; omega)]
theorem pcN_no {a : ByteArray} {k : Int} {n : Nat} (h : a.size ≠ 4096 ∨ k < 0 ∨ 4096 < k + n) : pcN a k n = 100 := by
  unfold pcN
  rw [if_neg (by simp [pcB, mayB, fitsB]; omega)]
theorem ecS_yes {a m : ByteArray} {S : Nat} (ha : a.size = 4096) (hS : S < 8) : ecS a (S : Int) m = erase a S m := by
  unfold ecS
  rw [if_pos (by simp [ecB, mayB, ha]; omega)]
  simp
theorem ecN_yes {a : ByteArray} {s : Int} (ha : a.size = 4096) (h0 : 0 ≤ s) (h8 : s < 8) : ecN a s = 0 := by
  unfold ecN
  rw [if_pos (by simp [ecB, mayB, ha]; omega)]
theorem ecN_no {a : ByteArray} {s : Int} (h : a.size ≠ 4096 ∨ s < 0 ∨ 8 ≤ s) : ecN a s = 100 := by
  unfold ecN
  rw [if_neg (by simp [ecB, mayB]; omega)]
theorem prog_size (a : ByteArray) (A : Nat) (d m : ByteArray) : (prog a A d m).size = a.size := tab_size _ _
theorem erase_size (a : ByteArray) (S : Nat) (m : ByteArray) : (erase a S m).size = a.size := tab_size _ _
theorem prog_ub {a : ByteArray} {A : Nat} {d m : ByteArray} {j : Nat} (hj : j < a.size) : ub (prog a A d m) j = if A ≤ j ∧ j < A + d.size then pb (ub a j) (ub d (j - A)) (mb m (j - A)) else ub a j := ub_tab _ _ _ hj
theorem erase_ub {a : ByteArray} {S : Nat} {m : ByteArray} {j : Nat} (hj : j < a.size) : ub (erase a S m) j = if S * 512 ≤ j ∧ j < S * 512 + 512 then eb (ub a j) (mb m (j - S * 512)) else ub a j := ub_tab _ _ _ hj
theorem one_size (x : UInt8) : (⟨#[x]⟩ : ByteArray).size = 1 := rfl
theorem ub_one (x : UInt8) : ub ⟨#[x]⟩ 0 = x := rfl
theorem mb_one (x : UInt8) (i : Nat) : mb ⟨#[x]⟩ i = x := by
  rw [mb_pos _ _ (by rw [one_size]; omega), one_size, Nat.mod_one]; rfl
set_option maxRecDepth 100000 in
theorem eb_ff (x : UInt8) : eb x 255 = 255 := by
  have : ∀ n : Fin 256, UInt8.ofNat n.val ||| 255 = 255 := by decide
  have h := this ⟨x.toNat, x.toNat_lt⟩
  simpa [eb] using h

/-- What the check's texts are, byte by byte. -/
theorem awake_facts {F b c d x : ByteArray} (hF : F = full 4096) (hb : b = pcS F 512 ⟨#[15]⟩ ⟨#[255]⟩) (hc : c = pcS b 512 ⟨#[0]⟩ ⟨#[3]⟩) (hd : d = ecS c 1 ⟨#[129]⟩) (hx : x = ecS d 1 ⟨#[255]⟩) :
    F.size = 4096 ∧ b.size = 4096 ∧ c.size = 4096 ∧ d.size = 4096 ∧ ((ub b 512).toNat : Int) = 15 ∧ ((ub c 512).toNat : Int) = 12 ∧ ((ub d 512).toNat : Int) = 141 ∧ x = F := by
  have sF : F.size = 4096 := full_size hF
  have hb' : b = prog F 512 ⟨#[15]⟩ ⟨#[255]⟩ := hb.trans (pcS_yes (A := 512) sF (by rw [one_size]; omega))
  have sb : b.size = 4096 := by rw [hb', prog_size, sF]
  have hc' : c = prog b 512 ⟨#[0]⟩ ⟨#[3]⟩ := hc.trans (pcS_yes (A := 512) sb (by rw [one_size]; omega))
  have sc : c.size = 4096 := by rw [hc', prog_size, sb]
  have hd' : d = erase c 1 ⟨#[129]⟩ := hd.trans (ecS_yes (S := 1) sc (by omega))
  have sd : d.size = 4096 := by rw [hd', erase_size, sc]
  have hx' : x = erase d 1 ⟨#[255]⟩ := hx.trans (ecS_yes (S := 1) sd (by omega))
  have ub_b : ub b 512 = 15 := by rw [hb', prog_ub (by omega), one_size, if_pos (by omega), full_ub hF (by omega), mb_one]; rfl
  have ub_c : ub c 512 = 12 := by rw [hc', prog_ub (by omega), one_size, if_pos (by omega), ub_b, mb_one]; rfl
  have ub_d : ub d 512 = 141 := by rw [hd', erase_ub (by omega), if_pos (by omega), ub_c, mb_one]; rfl
  refine ⟨sF, sb, sc, sd, by rw [ub_b]; rfl, by rw [ub_c]; rfl, by rw [ub_d]; rfl, ?_⟩
  refine ext_ub (by rw [hx', erase_size, sd, sF]) fun j hj => ?_
  rw [hx', erase_size, sd] at hj
  rw [hx', erase_ub (by omega), full_ub hF hj]
  by_cases h : 1 * 512 ≤ j ∧ j < 1 * 512 + 512
  · rw [if_pos h, mb_one, eb_ff]
  · rw [if_neg h, hd', erase_ub (by omega), if_neg h, hc', prog_ub (by omega), one_size, if_neg (by omega), hb', prog_ub (by omega), one_size, if_neg (by omega), full_ub hF hj]

theorem one_ok (x : UInt8) : (⟨#[x]⟩ : ByteArray).size ≤ maxLen := by rw [one_size]; unfold maxLen; omega

end Go.Proofs.YtjhjghakfedeeaaGreat
end
