/-
  The document's own text of what a chip is like, by a contract. No conditions.
-/
import Derived.Test.YtlemmabgbaleiaaGreatWhole
import Derived.Test.YtlemmabgbaleiaaGreatSfdp
namespace Go.Proofs.YtlemmabgbaleiaaGreat
open Go.RowKit Plain
set_option linter.unusedVariables false

set_option maxRecDepth 100000 in
set_option maxHeartbeats 400000 in
theorem full_12 (w : World) :
    Calls Tryz.prog 48 #[.int .i64 12] w fun e w' => e = .returned (.string (full 12)) ∧ Below w.heap.size w w' := by
  obtain ⟨W1, hmk, hb0, hbel, hsz⟩ := make_bytes w 12 (by omega)
  have hmk' : (Instr.makeSlice 62 (.int .i64 12) (.int .i64 12)).run Tryz.prog w = .ok (.slice (some ⟨w.heap.size, 0, none⟩) 12 12) W1 := hmk
  clear hmk
  go_enter Tryz.func48, Tryz.ntmps48
  go_wp2
  go_loopw [4] (fun i wr => ∃ k : Nat, k ≤ 12 ∧ i = .int .i64 k ∧ Bytes wr w.heap.size 12 (fun j => if j < k then 255 else 0) ∧ Below w.heap.size w wr) (fun i _ => 12 - (intOf i).toNat)
  case atStart => exact ⟨0, Nat.zero_le _, rfl, hb0.congr (fun j _ => by simp), hbel⟩
  case round =>
    obtain ⟨k, hk, rfl, hb, hbl⟩ := hrel
    clear hmk' hb0 hbel
    by_cases hlt : k < 12
    · have hc := (hb k hlt).1
      have hf := (hb k hlt).2
      go_wp2
      go_roundw
      case rel => exact ⟨k + 1, by omega, by go_num, (hb.set k hlt 255).congr (fun j _ => step255 k j), hbl.setCell (Nat.le_refl _) _⟩
      case measure => simp [intOf]; omega
    · have hk' : k = 12 := by omega
      obtain ⟨R, hbk, HR⟩ := hb.back_is (f' := fun _ => 255) (fun j hj => by rw [if_pos (by omega)]) 12
      clear hb
      go_wp2
      go_ret
      exact ⟨ret_string HR.out, hbl⟩
theorem lit_text (w : World) (a b c d : UInt8) : (convert 62 9 (.slice (some ⟨w.heap.size, 0, none⟩) 4 4)).run Tryz.prog (w.alloc (.cells #[.int .u8 (a.toNat : Int), .int .u8 (b.toNat : Int), .int .u8 (c.toNat : Int), .int .u8 (d.toNat : Int)] 5)) = .ok (.string ⟨#[a, b, c, d]⟩) (w.alloc (.cells #[.int .u8 (a.toNat : Int), .int .u8 (b.toNat : Int), .int .u8 (c.toNat : Int), .int .u8 (d.toNat : Int)] 5)) := by
  have hb : Bytes (w.alloc (.cells #[.int .u8 (a.toNat : Int), .int .u8 (b.toNat : Int), .int .u8 (c.toNat : Int), .int .u8 (d.toNat : Int)] 5)) w.heap.size 4 (fun j => [a, b, c, d].getD j 0) := fun j hj => by
    rcases (by omega : j = 0 ∨ j = 1 ∨ j = 2 ∨ j = 3) with rfl | rfl | rfl | rfl <;> simp
  have := hb.back 4
  rw [tab_list 4 [a, b, c, d] rfl] at this
  exact this
theorem power_is (n : Nat) (w : World) (h : n = 4096 ∨ n = 512 ∨ n = 32) : Calls Tryz.prog 140 #[.int .i64 (n : Int)] w fun e w' => e = .returned (.bool true) ∧ w = w' := by
  rcases h with rfl | rfl | rfl
  all_goals (
    go_enter Tryz.func140, Tryz.ntmps140
    go_wp2
    go_ret
    exact ⟨rfl, rfl⟩)
theorem four_4096 (w : World) : Calls Tryz.prog 141 #[.int .i64 4096] w fun e w' => e = .returned (.string ⟨#[0, 16, 0, 0]⟩) ∧ Below w.heap.size w w' := by
  have h : (convert 62 9 (.slice (some ⟨w.heap.size, 0, none⟩) 4 4)).run Tryz.prog (w.alloc (.cells #[.int .u8 0, .int .u8 16, .int .u8 0, .int .u8 0] 5)) = .ok (.string ⟨#[0, 16, 0, 0]⟩) (w.alloc (.cells #[.int .u8 0, .int .u8 16, .int .u8 0, .int .u8 0] 5)) := lit_text w 0 16 0 0
  go_enter Tryz.func141, Tryz.ntmps141
  go_wp2
  go_ret
  exact ⟨rfl, below_new _ _⟩
theorem four_512 (w : World) : Calls Tryz.prog 141 #[.int .i64 512] w fun e w' => e = .returned (.string ⟨#[0, 2, 0, 0]⟩) ∧ Below w.heap.size w w' := by
  have h : (convert 62 9 (.slice (some ⟨w.heap.size, 0, none⟩) 4 4)).run Tryz.prog (w.alloc (.cells #[.int .u8 0, .int .u8 2, .int .u8 0, .int .u8 0] 5)) = .ok (.string ⟨#[0, 2, 0, 0]⟩) (w.alloc (.cells #[.int .u8 0, .int .u8 2, .int .u8 0, .int .u8 0] 5)) := lit_text w 0 2 0 0
  go_enter Tryz.func141, Tryz.ntmps141
  go_wp2
  go_ret
  exact ⟨rfl, below_new _ _⟩
theorem four_32 (w : World) : Calls Tryz.prog 141 #[.int .i64 32] w fun e w' => e = .returned (.string ⟨#[32, 0, 0, 0]⟩) ∧ Below w.heap.size w w' := by
  have h : (convert 62 9 (.slice (some ⟨w.heap.size, 0, none⟩) 4 4)).run Tryz.prog (w.alloc (.cells #[.int .u8 32, .int .u8 0, .int .u8 0, .int .u8 0] 5)) = .ok (.string ⟨#[32, 0, 0, 0]⟩) (w.alloc (.cells #[.int .u8 32, .int .u8 0, .int .u8 0, .int .u8 0] 5)) := lit_text w 32 0 0 0
  go_enter Tryz.func141, Tryz.ntmps141
  go_wp2
  go_ret
  exact ⟨rfl, below_new _ _⟩
set_option maxRecDepth 100000 in
set_option maxHeartbeats 1000000 in
theorem refPut_any (w : World) :
    Calls Tryz.prog 135 #[.int .i64 4096, .int .i64 512, .int .i64 32] w fun e w' => e = .returned (.tuple #[.string sfdpT, .int .i64 0]) ∧ Below w.heap.size w w' := by
  go_enter Tryz.func135, Tryz.ntmps135
  go_wp2_with fail
  refine (power_is 4096 _ (by decide)).mono ?_
  rintro e w' ⟨rfl, rfl⟩
  go_wp2_with fail
  refine (power_is 512 _ (by decide)).mono ?_
  rintro e w' ⟨rfl, rfl⟩
  go_wp2_with fail
  refine (power_is 32 _ (by decide)).mono ?_
  rintro e w' ⟨rfl, rfl⟩
  go_wp2_with fail
  refine (four_4096 _).mono ?_
  rintro e w1 ⟨rfl, b1⟩
  go_wp2_with fail
  refine (four_512 _).mono ?_
  rintro e w2 ⟨rfl, b2⟩
  go_wp2_with fail
  refine (four_32 _).mono ?_
  rintro e w3 ⟨rfl, b3⟩
  have HB : Hid (Below w.heap.size w w3) := below_then (below_then b1 b2) b3
  clear b1 b2 b3
  go_wp2_with fail
  refine (full_12 _).mono ?_
  rintro e w4 ⟨rfl, b4⟩
  have HB4 : Hid (Below w.heap.size w w4) := below_then HB.out b4
  obtain ⟨U, HU⟩ : ∃ U, Hid (full 12 = U) := ⟨_, rfl⟩
  rw [HU.out]
  have HT : Hid (({ data := #[83, 70, 68, 80, 6, 1, 0, 255] } ++ { data := #[0, 16, 0, 0] } ++ { data := #[0, 2, 0, 0] } ++ { data := #[32, 0, 0, 0] } : ByteArray) ++ U = sfdpT) := by
    rw [← HU.out]
    show _ = _
    decide +kernel
  have hUs : U.size = 12 := by rw [← HU.out]; exact tab_size _ _
  clear b4
  go_wp2
  go_ret2
  exact ⟨by rw [HT.out]; rfl, HB4.out⟩
end Go.Proofs.YtlemmabgbaleiaaGreat
