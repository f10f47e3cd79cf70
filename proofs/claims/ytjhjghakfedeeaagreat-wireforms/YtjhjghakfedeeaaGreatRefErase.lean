/-
  The document's own erase of a sector, by a contract. No conditions but those of each statement.
-/

import Derived.Test.YtjhjghakfedeeaaGreatWhole
import Derived.Deep.RegionHeld3
import Derived.Deep.DrawnRows
namespace Go.Proofs.YtjhjghakfedeeaaGreat
open Go.RowKit Plain
attribute [local go_sem ↓] Go.wp_at_zero Go.wp_at_succ

theorem cellsMay_any (a : ByteArray) (w : World) :
    Calls Tryz.prog 90 #[.string a] w fun e w' => e = .returned (.bool (mayB a)) ∧ w = w' := by
  go_enter Tryz.func90, Tryz.ntmps90
  go_wp2
  go_ret
  exact ⟨ret_bool (by unfold mayB; rw [Bool.eq_iff_iff]; simp; omega), rfl⟩
theorem bit_any (m : ByteArray) (i : Nat) (w : World) (hm : m.size ≤ maxLen) (hi : i ≤ 4096) :
    Calls Tryz.prog 115 #[.string m, .int .i64 (i : Int)] w fun e w' => e = .returned (.int .u8 ((mb m i).toNat : Int)) ∧ w = w' := by
  unfold maxLen at hm
  by_cases h : m.size = 0
  · go_enter Tryz.func115, Tryz.ntmps115
    go_wp2
    go_ret
    exact ⟨ret_int (by rw [mb_zero m i h]; rfl), rfl⟩
  · have hp : 0 < m.size := by omega
    have hb := get_ub m
    have hlt : i % m.size < m.size := Nat.mod_lt _ hp
    have H : Hid (mb m i = ub m (i % m.size)) := mb_pos m i hp
    go_enter Tryz.func115, Tryz.ntmps115
    go_wp2
    go_ret
    exact ⟨ret_int (by rw [H.out]), rfl⟩
theorem erase_of_ref {a m R : ByteArray} {S : Nat} (ha : a.size = 4096) (h : R = tab 4096 fun j => if S * 512 ≤ j ∧ j < S * 512 + 512 then eb (ub a j) (mb m (j - S * 512)) else ub a j) : R = erase a S m := by
  rw [h]; unfold erase; rw [ha]

set_option maxRecDepth 100000 in
set_option maxHeartbeats 1000000 in
theorem refEraseCut_yes (a : ByteArray) (S : Nat) (m : ByteArray) (w : World) (ha : a.size = 4096) (hS : S < 8) (hm : m.size ≤ maxLen) :
    Calls Tryz.prog 71 #[.string a, .int .i64 (S : Int), .string m] w fun e w' => ∃ R, e = .returned (.tuple #[.string R, .int .i64 0]) ∧ Hid (R = erase a S m) ∧ Below w.heap.size w w' := by
  have h1 : mayB a = true := by simp [mayB, ha]
  obtain ⟨W1, cap, hcv, hcap, hby, hbel, hsz⟩ := to_bytes_of w a 4096 ha
  go_enter Tryz.func71, Tryz.ntmps71
  go_wp2_with (go_at_call 90; refine (cellsMay_any _ _).mono ?_; rintro e w' ⟨rfl, rfl⟩)
  go_loopw [10] (fun i wr => ∃ k : Nat, k ≤ 512 ∧ i = .int .i64 k ∧ Bytes wr w.heap.size 4096 (fun j => if S * 512 ≤ j ∧ j < S * 512 + k then eb (ub a j) (mb m (j - S * 512)) else ub a j) ∧ Below w.heap.size w wr) (fun i _ => 512 - (intOf i).toNat)
  case atStart => exact ⟨0, Nat.zero_le _, rfl, hby.congr (fun j hj => by rw [if_neg (by omega)]), hbel⟩
  case round =>
    obtain ⟨k, hk, rfl, hbb, hbl⟩ := hrel
    clear hcv hby hbel
    by_cases hlt : k < 512
    · have hc : wr.cell? ⟨w.heap.size, S * 512 + k, none⟩ = some (.int .u8 ((ub a (S * 512 + k)).toNat : Int)) := hbb.cell_is (S * 512 + k) (by omega) (if_neg (by omega))
      have hf := (hbb (S * 512 + k) (by omega)).2
      have i1 : (0 : Int) ≤ (S : Int) * 512 + (k : Int) := by omega
      have i2 : (S : Int) * 512 + (k : Int) < 4096 := by omega
      have i3 : IntKind.i64.wrap ((S : Int) * 512 + (k : Int)) = (S : Int) * 512 + (k : Int) := IntWalk.i64_in _ (by omega)
      have i4 : ((S : Int) * 512 + (k : Int)).toNat = S * 512 + k := by omega
      have HB : Hid (Bytes wr w.heap.size 4096 _) := hbb
      have HL : Hid (Below w.heap.size w wr) := hbl
      clear hbb hbl
      go_wp2
      go_region_with (go_at_call 115; refine (bit_any _ _ _ hm (by omega)).mono ?_; rintro e w' ⟨rfl, rfl⟩)
      all_goals
        go_wp2
        go_roundw
        case rel => exact ⟨k + 1, by omega, by go_num, (HB.out.set_is (S * 512 + k) (by omega) (eb_walk (ub a (S * 512 + k)) (mb m k))).congr (fun j _ => erase_step a m (S * 512) k j), (HL.out.setCell (Nat.le_refl _) _).drew⟩
        case measure => simp [intOf]; omega
    · obtain ⟨R, hbk, HR⟩ := hbb.back_is (f' := fun j => if S * 512 ≤ j ∧ j < S * 512 + 512 then eb (ub a j) (mb m (j - S * 512)) else ub a j) (fun j hj => by rw [show k = 512 by omega]) cap
      clear hbb
      go_wp2
      go_ret2
      exact ⟨R, rfl, erase_of_ref ha HR.out, hbl⟩
theorem refErase_yes (a : ByteArray) (S : Nat) (w : World) (ha : a.size = 4096) (hS : S < 8) :
    Calls Tryz.prog 171 #[.string a, .int .i64 (S : Int)] w fun e w' => ∃ R, e = .returned (.tuple #[.string R, .int .i64 0]) ∧ Hid (R = erase a S ⟨#[255]⟩) ∧ Below w.heap.size w w' := by
  go_enter Tryz.func171, Tryz.ntmps171
  go_wp2_with (go_at_call 71; refine (refEraseCut_yes _ _ _ _ ha hS (by unfold maxLen; decide)).mono ?_; rintro e w' ⟨R, rfl, hR, hb⟩)
  go_ret2
  exact ⟨_, rfl, by assumption, by assumption⟩
theorem prog_of_ref {a d m R : ByteArray} {A : Nat} (ha : a.size = 4096) (h : R = tab 4096 fun j => if A ≤ j ∧ j < A + d.size then pb (ub a j) (ub d (j - A)) (mb m (j - A)) else ub a j) : R = prog a A d m := by
  rw [h]; unfold prog; rw [ha]

set_option maxRecDepth 100000 in
set_option maxHeartbeats 1000000 in
theorem refProgramCut_yes (a : ByteArray) (A : Nat) (d m : ByteArray) (w : World) (ha : a.size = 4096) (hA : A + d.size ≤ 4096) (hm : m.size ≤ maxLen) :
    Calls Tryz.prog 70 #[.string a, .int .i64 (A : Int), .string d, .string m] w fun e w' => ∃ R, e = .returned (.tuple #[.string R, .int .i64 0]) ∧ Hid (R = prog a A d m) ∧ Below w.heap.size w w' := by
  have h1 : mayB a = true := by simp [mayB, ha]
  have h2 : fitsB (A : Int) d.size = true := by simp [fitsB]; omega
  have hget := get_ub d
  obtain ⟨W1, cap, hcv, hcap, hby, hbel, hsz⟩ := to_bytes_of w a 4096 ha
  go_enter Tryz.func70, Tryz.ntmps70
  go_wp2_with (go_at_call 90; refine (cellsMay_any _ _).mono ?_; rintro e w' ⟨rfl, rfl⟩)
  go_loopw [11] (fun i wr => ∃ k : Nat, k ≤ d.size ∧ i = .int .i64 k ∧ Bytes wr w.heap.size 4096 (fun j => if A ≤ j ∧ j < A + k then pb (ub a j) (ub d (j - A)) (mb m (j - A)) else ub a j) ∧ Below w.heap.size w wr) (fun i _ => d.size - (intOf i).toNat)
  case atStart => exact ⟨0, Nat.zero_le _, rfl, hby.congr (fun j hj => by rw [if_neg (by omega)]), hbel⟩
  case round =>
    obtain ⟨k, hk, rfl, hbb, hbl⟩ := hrel
    clear hcv hby hbel
    by_cases hlt : k < d.size
    · have hc : wr.cell? ⟨w.heap.size, A + k, none⟩ = some (.int .u8 ((ub a (A + k)).toNat : Int)) := hbb.cell_is (A + k) (by omega) (if_neg (by omega))
      have hf := (hbb (A + k) (by omega)).2
      have i1 : (0 : Int) ≤ (A : Int) + (k : Int) := by omega
      have i2 : (A : Int) + (k : Int) < 4096 := by omega
      have i3 : IntKind.i64.wrap ((A : Int) + (k : Int)) = (A : Int) + (k : Int) := IntWalk.i64_in _ (by omega)
      have i4 : ((A : Int) + (k : Int)).toNat = A + k := by omega
      have HB : Hid (Bytes wr w.heap.size 4096 _) := hbb
      have HL : Hid (Below w.heap.size w wr) := hbl
      clear hbb hbl
      go_wp2
      go_region_with (go_at_call 115; refine (bit_any _ _ _ hm (by omega)).mono ?_; rintro e w' ⟨rfl, rfl⟩)
      all_goals
        go_wp2
        go_roundw
        case rel => exact ⟨k + 1, by omega, by go_num, (HB.out.set_is (A + k) (by omega) (pb_walk (ub a (A + k)) (ub d k) (mb m k))).congr (fun j _ => prog_step a d m A k j), (HL.out.setCell (Nat.le_refl _) _).drew⟩
        case measure => simp [intOf]; omega
    · obtain ⟨R, hbk, HR⟩ := hbb.back_is (f' := fun j => if A ≤ j ∧ j < A + d.size then pb (ub a j) (ub d (j - A)) (mb m (j - A)) else ub a j) (fun j hj => by rw [show k = d.size by omega]) cap
      clear hbb
      go_wp2
      go_ret2
      exact ⟨R, rfl, prog_of_ref ha HR.out, hbl⟩
set_option maxRecDepth 100000 in
theorem refProgram_yes (a : ByteArray) (A : Nat) (d : ByteArray) (w : World) (ha : a.size = 4096) (hA : A + d.size ≤ 4096) :
    Calls Tryz.prog 170 #[.string a, .int .i64 (A : Int), .string d] w fun e w' => ∃ R, e = .returned (.tuple #[.string R, .int .i64 0]) ∧ Hid (R = prog a A d ⟨#[255]⟩) ∧ Below w.heap.size w w' := by
  go_enter Tryz.func170, Tryz.ntmps170
  go_wp2_with fail
  refine (refProgramCut_yes a A d ⟨#[255]⟩ _ ha hA ff_size).mono ?_
  rintro e w1 ⟨R, rfl, HR, b1⟩
  go_wp2
  go_ret2
  exact ⟨R, rfl, HR, b1⟩
end Go.Proofs.YtjhjghakfedeeaaGreat
