/-
  A program of cells, whole and cut, by the program and by the document's answer: each by a contract. No conditions but those of each statement.
-/
import Derived.Test.YthhchfldgkgfpaaFill
import Derived.Deep.RegionHeld3
import Derived.Deep.DrawnRows
namespace Go.Proofs.Ythhchfldgkgfpaa
open Go.RowKit Plain
attribute [local go_sem ↓] Go.wp_at_zero Go.wp_at_succ

theorem prog_of {a d m R : ByteArray} {A : Nat} (ha : a.size = 4096) (h : R = tab 4096 fun j => if A ≤ j ∧ j < A + d.size then pb (ub a j) (ub d (j - A)) (mb m (j - A)) else ub a j) : R = prog a A d m := by
  rw [h]; unfold prog; rw [ha]

set_option maxRecDepth 100000 in
set_option maxHeartbeats 1000000 in
theorem programCut_yes (a : ByteArray) (A : Nat) (d m : ByteArray) (w : World) (ha : a.size = 4096) (hA : A + d.size ≤ 4096) (hm : m.size ≤ maxLen) :
    Calls Try.prog 54 #[.string a, .int .i64 (A : Int), .string d, .string m] w fun e w' => ∃ R, e = .returned (.tuple #[.string R, .int .i64 0]) ∧ Hid (R = prog a A d m) ∧ Below w.heap.size w w' := by
  have h1 : mayB a = true := by simp [mayB, ha]
  have h2 : fitsB (A : Int) d.size = true := by simp [fitsB]; omega
  have hget := get_ub d
  obtain ⟨W1, cap, hcv, hcap, hby, hbel, hsz⟩ := to_bytes_of w a 4096 ha
  go_enter Try.func54, Try.ntmps54
  go_wp2_with (first | (go_at_call 43; refine (may_any _ _).mono ?_; rintro e w' ⟨rfl, rfl⟩) | (go_at_call 62; refine (fits_any _ _ _ (by unfold maxLen; omega)).mono ?_; rintro e w' ⟨rfl, rfl⟩))
  go_loopw [26] (fun i wr => ∃ k : Nat, k ≤ d.size ∧ i = .int .i64 k ∧ Bytes wr w.heap.size 4096 (fun j => if A ≤ j ∧ j < A + k then pb (ub a j) (ub d (j - A)) (mb m (j - A)) else ub a j) ∧ Below w.heap.size w wr) (fun i _ => d.size - (intOf i).toNat)
  case atStart => exact ⟨0, Nat.zero_le _, rfl, hby.congr (fun j hj => by rw [if_neg (by omega)]), hbel⟩
  case round =>
    obtain ⟨k, hk, rfl, hbb, hbl⟩ := hrel
    clear hcv hby hbel
    by_cases hlt : k < d.size
    · have hc : wr.cell? ⟨w.heap.size, A + k, none⟩ = some (.int .u8 ((ub a (A + k)).toNat : Int)) := hbb.cell_is (A + k) (by omega) (if_neg (by omega))
      have hf := (hbb (A + k) (by omega)).2
      have i1 : (0 : Int) ≤ (A : Int) + (k : Int) := by omega
      have i2 : (A : Int) + (k : Int) < 4096 := by omega
      have i3 : IntKind.i64.wrap ((A : Int) + (k : Int)) = (A : Int) + (k : Int) := IntWalk.i64_in _ (by omega)
      have i4 : ((A : Int) + (k : Int)).toNat = A + k := by omega
      have HB : Hid (Bytes wr w.heap.size 4096 _) := hbb
      have HL : Hid (Below w.heap.size w wr) := hbl
      clear hbb hbl
      go_wp2
      go_region_with (go_at_call 61; refine (maskByte_any _ _ _ hm (by omega)).mono ?_; rintro e w' ⟨rfl, rfl⟩)
      all_goals
        go_wp2
        go_roundw
        case rel => exact ⟨k + 1, by omega, by go_num, (HB.out.set_is (A + k) (by omega) (pb_walk (ub a (A + k)) (ub d k) (mb m k))).congr (fun j _ => prog_step a d m A k j), (HL.out.setCell (Nat.le_refl _) _).drew⟩
        case measure => simp [intOf]; omega
    · obtain ⟨R, hbk, HR⟩ := hbb.back_is (f' := fun j => if A ≤ j ∧ j < A + d.size then pb (ub a j) (ub d (j - A)) (mb m (j - A)) else ub a j) (fun j hj => by rw [show k = d.size by omega]) cap
      clear hbb
      go_wp2
      go_ret2
      exact ⟨R, rfl, prog_of ha HR.out, hbl⟩
end Go.Proofs.Ythhchfldgkgfpaa
