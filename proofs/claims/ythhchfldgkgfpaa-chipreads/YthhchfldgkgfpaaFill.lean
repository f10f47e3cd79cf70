/-
  The functions of this seat that fill a new row of bytes, each by a contract: blank cells, the document's own, a text over and over. No conditions but those of each statement.
-/
import Derived.Test.YthhchfldgkgfpaaSmall
import Derived.Test.YthhchfldgkgfpaaRowsOf
namespace Go.Proofs.Ythhchfldgkgfpaa
open Go.RowKit Plain

theorem ret_string {a b : ByteArray} (h : a = b) : Ending.returned (.string a) = .returned (.string b) := by rw [h]

theorem step255 (k j : Nat) : (if j = k then (255 : UInt8) else if j < k then 255 else 0) = if j < k + 1 then 255 else 0 := by
  by_cases h : j < k
  · rw [if_pos h, if_pos (show j < k + 1 by omega)]; split <;> rfl
  · by_cases e : j = k
    · rw [if_pos e, if_pos (by omega)]
    · rw [if_neg e, if_neg h, if_neg (by omega)]

set_option maxRecDepth 100000 in
set_option maxHeartbeats 400000 in
theorem full_any (w : World) :
    Calls Try.prog 44 #[.int .i64 4096] w fun e w' => e = .returned (.string (full 4096)) ∧ Below w.heap.size w w' := by
  obtain ⟨W1, hmk, hb0, hbel, hsz⟩ := make_bytes w 4096 (by omega)
  have hmk' : (Instr.makeSlice 34 (.int .i64 4096) (.int .i64 4096)).run Try.prog w = .ok (.slice (some ⟨w.heap.size, 0, none⟩) 4096 4096) W1 := hmk
  clear hmk
  go_enter Try.func44, Try.ntmps44
  go_wp2
  go_loopw [4] (fun i wr => ∃ k : Nat, k ≤ 4096 ∧ i = .int .i64 k ∧ Bytes wr w.heap.size 4096 (fun j => if j < k then 255 else 0) ∧ Below w.heap.size w wr) (fun i _ => 4096 - (intOf i).toNat)
  case atStart => exact ⟨0, Nat.zero_le _, rfl, hb0.congr (fun j _ => by simp), hbel⟩
  case round =>
    obtain ⟨k, hk, rfl, hb, hbl⟩ := hrel
    clear hmk' hb0 hbel
    by_cases hlt : k < 4096
    · have hc := (hb k hlt).1
      have hf := (hb k hlt).2
      go_wp2
      go_roundw
      case rel => exact ⟨k + 1, by omega, by go_num, (hb.set k hlt 255).congr (fun j _ => step255 k j), hbl.setCell (Nat.le_refl _) _⟩
      case measure => simp [intOf]; omega
    · have hk' : k = 4096 := by omega
      obtain ⟨R, hbk, HR⟩ := hb.back_is (f' := fun _ => 255) (fun j hj => by rw [if_pos (by omega)]) 4096
      clear hb
      go_wp2
      go_ret
      exact ⟨ret_string HR.out, hbl⟩

set_option maxHeartbeats 400000 in
theorem refBlank_any (w : World) :
    Calls Try.prog 29 #[] w fun e w' => e = .returned (.string (full 4096)) ∧ Below w.heap.size w w' := by
  go_enter Try.func29, Try.ntmps29
  go_wp2_with (go_at_call 44; refine (full_any _).mono ?_; rintro e w' ⟨rfl, hb⟩)
  go_ret
  exact ⟨rfl, by assumption⟩

theorem refBlank_is (w : World) :
    Calls Try.prog 29 #[] w fun e w' => ∃ F : ByteArray, e = .returned (.string F) ∧ Hid (F = full 4096) ∧ Below w.heap.size w w' :=
  (refBlank_any w).mono fun _ _ ⟨he, hb⟩ => ⟨_, he, rfl, hb⟩

theorem full_size {F : ByteArray} (h : F = full 4096) : F.size = 4096 := by rw [h]; exact tab_size _ _
theorem full_ub {F : ByteArray} (h : F = full 4096) {j : Nat} (hj : j < 4096) : ub F j = 255 := by rw [h]; exact ub_tab _ _ _ hj
theorem wide_empty (s : ByteArray) (h : s.size = 0) : wide s = full 4096 := tab_congr fun i _ => by rw [if_pos h]
theorem wide_step (s : ByteArray) (k j : Nat) : (if j = k then ub s (k % s.size) else if j < k then ub s (j % s.size) else 255) = if j < k + 1 then ub s (j % s.size) else 255 := by
  by_cases h : j < k
  · rw [if_pos h, if_pos (show j < k + 1 by omega), if_neg (by omega)]
  · by_cases e : j = k
    · rw [if_pos e, if_pos (by omega), e]
    · rw [if_neg e, if_neg h, if_neg (by omega)]

end Go.Proofs.Ythhchfldgkgfpaa
