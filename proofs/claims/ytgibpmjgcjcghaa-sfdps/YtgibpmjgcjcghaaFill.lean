/-
  The function of this seat that fills a new row of bytes with 255, by a contract. No conditions but those of each statement.
-/
import Derived.Test.YtgibpmjgcjcghaaRowsOf
namespace Go.Proofs.Ytgibpmjgcjcghaa
open Go.RowKit Plain

theorem ret_string {a b : ByteArray} (h : a = b) : Ending.returned (.string a) = .returned (.string b) := by rw [h]

theorem step255 (k j : Nat) : (if j = k then (255 : UInt8) else if j < k then 255 else 0) = if j < k + 1 then 255 else 0 := by
  by_cases h : j < k
  · rw [if_pos h, if_pos (show j < k + 1 by omega)]; split <;> rfl
  · by_cases e : j = k
    · rw [if_pos e, if_pos (by omega)]
    · rw [if_neg e, if_neg h, if_neg (by omega)]

set_option maxRecDepth 100000 in
set_option maxHeartbeats 400000 in
theorem full_12 (w : World) :
    Calls Try.prog 18 #[.int .i64 12] w fun e w' => e = .returned (.string (full 12)) ∧ Below w.heap.size w w' := by
  obtain ⟨W1, hmk, hb0, hbel, hsz⟩ := make_bytes w 12 (by omega)
  have hmk' : (Instr.makeSlice 35 (.int .i64 12) (.int .i64 12)).run Try.prog w = .ok (.slice (some ⟨w.heap.size, 0, none⟩) 12 12) W1 := hmk
  clear hmk
  go_enter Try.func18, Try.ntmps18
  go_wp2
  go_loopw [4] (fun i wr => ∃ k : Nat, k ≤ 12 ∧ i = .int .i64 k ∧ Bytes wr w.heap.size 12 (fun j => if j < k then 255 else 0) ∧ Below w.heap.size w wr) (fun i _ => 12 - (intOf i).toNat)
  case atStart => exact ⟨0, Nat.zero_le _, rfl, hb0.congr (fun j _ => by simp), hbel⟩
  case round =>
    obtain ⟨k, hk, rfl, hb, hbl⟩ := hrel
    clear hmk' hb0 hbel
    by_cases hlt : k < 12
    · have hc := (hb k hlt).1
      have hf := (hb k hlt).2
      go_wp2
      go_roundw
      case rel => exact ⟨k + 1, by omega, by go_num, (hb.set k hlt 255).congr (fun j _ => step255 k j), hbl.setCell (Nat.le_refl _) _⟩
      case measure => simp [intOf]; omega
    · have hk' : k = 12 := by omega
      obtain ⟨R, hbk, HR⟩ := hb.back_is (f' := fun _ => 255) (fun j hj => by rw [if_pos (by omega)]) 12
      clear hb
      go_wp2
      go_ret
      exact ⟨ret_string HR.out, hbl⟩
end Go.Proofs.Ytgibpmjgcjcghaa
