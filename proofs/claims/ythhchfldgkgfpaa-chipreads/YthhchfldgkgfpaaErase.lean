/-
  An erase of a sector, whole and cut, by the program and by the document's answer: each by a contract. No conditions but those of each statement.
-/
import Derived.Test.YthhchfldgkgfpaaFill
import Derived.Deep.RegionHeld3
import Derived.Deep.DrawnRows
namespace Go.Proofs.Ythhchfldgkgfpaa
open Go.RowKit Plain
attribute [local go_sem ↓] Go.wp_at_zero Go.wp_at_succ

theorem erase_of {a m R : ByteArray} {S : Nat} (ha : a.size = 4096) (h : R = tab 4096 fun j => if S * 512 ≤ j ∧ j < S * 512 + 512 then eb (ub a j) (mb m (j - S * 512)) else ub a j) : R = erase a S m := by
  rw [h]; unfold erase; rw [ha]

set_option maxRecDepth 100000 in
set_option maxHeartbeats 1000000 in
theorem eraseCut_yes (a : ByteArray) (S : Nat) (m : ByteArray) (w : World) (ha : a.size = 4096) (hS : S < 8) (hm : m.size ≤ maxLen) :
    Calls Try.prog 53 #[.string a, .int .i64 (S : Int), .string m] w fun e w' => ∃ R, e = .returned (.tuple #[.string R, .int .i64 0]) ∧ Hid (R = erase a S m) ∧ Below w.heap.size w w' := by
  have h1 : mayB a = true := by simp [mayB, ha]
  obtain ⟨W1, cap, hcv, hcap, hby, hbel, hsz⟩ := to_bytes_of w a 4096 ha
  go_enter Try.func53, Try.ntmps53
  go_wp2_with (go_at_call 43; refine (may_any _ _).mono ?_; rintro e w' ⟨rfl, rfl⟩)
  go_loopw [26] (fun i wr => ∃ k : Nat, k ≤ 512 ∧ i = .int .i64 k ∧ Bytes wr w.heap.size 4096 (fun j => if S * 512 ≤ j ∧ j < S * 512 + k then eb (ub a j) (mb m (j - S * 512)) else ub a j) ∧ Below w.heap.size w wr) (fun i _ => 512 - (intOf i).toNat)
  case atStart => exact ⟨0, Nat.zero_le _, rfl, hby.congr (fun j hj => by rw [if_neg (by omega)]), hbel⟩
  case round =>
    obtain ⟨k, hk, rfl, hbb, hbl⟩ := hrel
    clear hcv hby hbel
    by_cases hlt : k < 512
    · have hc : wr.cell? ⟨w.heap.size, S * 512 + k, none⟩ = some (.int .u8 ((ub a (S * 512 + k)).toNat : Int)) := hbb.cell_is (S * 512 + k) (by omega) (if_neg (by omega))
      have hf := (hbb (S * 512 + k) (by omega)).2
      have i1 : (0 : Int) ≤ (S : Int) * 512 + (k : Int) := by omega
      have i2 : (S : Int) * 512 + (k : Int) < 4096 := by omega
      have i3 : IntKind.i64.wrap ((S : Int) * 512 + (k : Int)) = (S : Int) * 512 + (k : Int) := IntWalk.i64_in _ (by omega)
      have i4 : ((S : Int) * 512 + (k : Int)).toNat = S * 512 + k := by omega
      have HB : Hid (Bytes wr w.heap.size 4096 _) := hbb
      have HL : Hid (Below w.heap.size w wr) := hbl
      clear hbb hbl
      go_wp2
      go_region_with (go_at_call 61; refine (maskByte_any _ _ _ hm (by omega)).mono ?_; rintro e w' ⟨rfl, rfl⟩)
      all_goals
        go_wp2
        go_roundw
        case rel => exact ⟨k + 1, by omega, by go_num, (HB.out.set_is (S * 512 + k) (by omega) (eb_walk (ub a (S * 512 + k)) (mb m k))).congr (fun j _ => erase_step a m (S * 512) k j), (HL.out.setCell (Nat.le_refl _) _).drew⟩
        case measure => simp [intOf]; omega
    · obtain ⟨R, hbk, HR⟩ := hbb.back_is (f' := fun j => if S * 512 ≤ j ∧ j < S * 512 + 512 then eb (ub a j) (mb m (j - S * 512)) else ub a j) (fun j hj => by rw [show k = 512 by omega]) cap
      clear hbb
      go_wp2
      go_ret2
      exact ⟨R, rfl, erase_of ha HR.out, hbl⟩
end Go.Proofs.Ythhchfldgkgfpaa
