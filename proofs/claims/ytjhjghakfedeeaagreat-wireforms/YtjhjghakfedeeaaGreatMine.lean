/-
  Two new chips with the same cells: the laws' own calls; of the document's chip only that it lies apart. Condition: the text is no longer than a text may be.
-/
import Derived.Test.YtjhjghakfedeeaaGreatSolo
import Derived.Test.YtjhjghakfedeeaaGreatRLayout
import Derived.Test.YtjhjghakfedeeaaGreatRefErase
import Derived.Test.YtjhjghakfedeeaaGreatGuard
namespace Go.Proofs.YtjhjghakfedeeaaGreat
open Go.RowKit Plain
set_option linter.unusedVariables false

set_option maxRecDepth 100000 in
set_option maxHeartbeats 1000000 in
theorem refnew_mine (a : ByteArray) (w : World) (ha : a.size = 4096) :
    Calls Tryz.prog 53 #[.string a] w fun e w' => ∃ b, e = .returned (.tuple #[.pointer (some ⟨b, 0, none⟩), .int .i64 0]) ∧ Below w.heap.size w w' := by
  obtain ⟨cs, hmk, Hcs⟩ := make8
  have hm : mayB a = true := by simp [mayB, ha]
  go_enter Tryz.func53, Tryz.ntmps53
  go_wp2_with (go_at_call 90; refine (cellsMay_any _ _).mono ?_; rintro e w' ⟨rfl, rfl⟩; rw [hm])
  go_ret2
  exact ⟨_, rfl, ((Below.refl _ _).alloc (Nat.le_refl _) _).alloc (by simp) _⟩
set_option maxRecDepth 100000 in
set_option maxHeartbeats 4000000 in
theorem twins_mine (a0 : ByteArray) (w : World) (hs : a0.size ≤ maxLen) :
    Calls Tryz.prog 13 #[.string a0] w fun e w' => ∃ bp b, e = .returned (.tuple #[.pointer (some ⟨bp, 0, none⟩), .pointer (some ⟨b, 0, none⟩)]) ∧ w.heap.size ≤ bp ∧ Hid (Lies 0 bp w' (newSt (wide a0))) ∧ Below w.heap.size w w' := by
  unfold maxLen at hs
  have hget := get_ub a0
  go_enter Tryz.func13, Tryz.ntmps13
  go_upto_block 0 with (go_at_call 51; refine (refBlank_is _).mono ?_; rintro e w1 ⟨F, rfl, HF, hb⟩; obtain ⟨W1, cap, hcv, hcap, hby, hbel, hsz⟩ := to_bytes_of w1 F 4096 (full_size HF.out))
  go_cut [5] from 12 to 31 (fun v wc => Hid (Bytes wc w1.heap.size 4096 (fun j => if a0.size = 0 then 255 else ub a0 (j % a0.size))) ∧ Hid (Below w1.heap.size w1 wc))
  case first =>
    go_wp2_with fail
    go_loopw [5] (fun i wr => ∃ k : Nat, k ≤ 4096 ∧ i = .int .i64 k ∧ (0 < k → 0 < a0.size) ∧ Bytes wr w1.heap.size 4096 (fun j => if j < k then ub a0 (j % a0.size) else 255) ∧ Below w1.heap.size w1 wr) (fun i _ => 4096 - (intOf i).toNat)
    case atStart => exact ⟨0, Nat.zero_le _, rfl, fun h => absurd h (by omega), hby.congr (fun j hj => by rw [if_neg (by omega)]; exact full_ub HF.out hj), hbel⟩
    case round =>
      obtain ⟨k, hk, rfl, hpos, hbb, hbl⟩ := hrel
      clear hcv hby hbel
      by_cases hlt : k < 4096 ∧ 0 < a0.size
      · obtain ⟨hlt, hp⟩ := hlt
        have hc := (hbb k hlt).1
        have hf := (hbb k hlt).2
        have hlm : k % a0.size < a0.size := Nat.mod_lt _ hp
        go_wp2
        go_roundw
        case rel => exact ⟨k + 1, by omega, by go_num, fun _ => hp, (hbb.set k hlt _).congr (fun j _ => wide_step a0 k j), hbl.setCell (Nat.le_refl _) _⟩
        case measure => simp [intOf]; omega
      · have HE : Hid (Bytes wr w1.heap.size 4096 (fun j => if a0.size = 0 then 255 else ub a0 (j % a0.size))) := hbb.congr (fun j hj => by
          by_cases h0 : a0.size = 0
          · rw [if_pos h0, if_neg (by omega)]
          · rw [if_neg h0, if_pos (by omega)])
        have HB : Hid (Below w1.heap.size w1 wr) := hbl
        clear hbb hbl
        by_cases h4 : k < 4096
        · have h0 : a0.size = 0 := by omega
          have d1 : decide (0 < a0.size) = false := decide_eq_false (by omega)
          go_wp2_with fail
          go_meet
          case rel => exact ⟨HE, HB⟩
        · have d1 : decide ((k : Int) < 4096) = false := decide_eq_false (by omega)
          go_wp2_with fail
          go_meet
          case rel => exact ⟨HE, HB⟩
  case rest =>
    obtain ⟨HE, HB⟩ := hcut
    have hwc : Below w.heap.size w wc := hb.trans (HB.out.mono hb.size)
    have Hwc : Hid (Below w.heap.size w wc) := hwc
    have hg1 : w1.heap.size < wc.heap.size := bytes_lt' HE.out (by decide)
    obtain ⟨R, hbk, HR⟩ := HE.out.back_is (fun j _ => rfl) cap
    have HR' : Hid (R = wide a0) := HR.out
    clear hcv hby hbel hget HB hwc HR
    go_wp2_with fail
    refine (new_lies 0 R _ (by rw [HR'.out]; exact wide_size a0)).mono ?_
    rintro e w2 ⟨bp, rfl, hbp, hat, b2⟩
    obtain ⟨R2, hbk2, HR2⟩ := (bytes_below' HE.out hg1 b2).back_is (fun j _ => rfl) cap
    have HR2' : Hid (R2 = wide a0) := HR2.out
    clear hbk HE HR2
    go_wp2_with fail
    refine (refnew_mine R2 _ (by rw [HR2'.out]; exact wide_size a0)).mono ?_
    rintro e w3 ⟨b, rfl, b3⟩
    rw [HR'.out] at hat
    have hB : Hid (Lies 0 bp w3 (newSt (wide a0))) := hat.below b3
    have hbl : Below w.heap.size w w3 := below_then (below_then Hwc.out b2) b3
    have hbw : w.heap.size ≤ bp := Nat.le_trans Hwc.out.size hbp
    clear hbk2 hat b2 b3 hbp HR' HR2' Hwc hg1 hb HF hsz hcap
    go_wp2
    go_ret2
    exact ⟨bp, b, rfl, hbw, hB, hbl⟩

set_option maxRecDepth 100000 in
set_option maxHeartbeats 4000000 in
theorem ctwins_mine (a0 : ByteArray) (w : World) (hs : a0.size ≤ maxLen) :
    Calls Tryz.prog 30 #[.string a0] w fun e w' => ∃ bp b, e = .returned (.tuple #[.pointer (some ⟨bp, 0, none⟩), .pointer (some ⟨b, 0, none⟩)]) ∧ w.heap.size ≤ bp ∧ Hid (Lies 0 bp w' (newSt (wide a0))) ∧ Below w.heap.size w w' := by
  unfold maxLen at hs
  have hget := get_ub a0
  go_enter Tryz.func30, Tryz.ntmps30
  go_upto_block 0 with (go_at_call 51; refine (refBlank_is _).mono ?_; rintro e w1 ⟨F, rfl, HF, hb⟩; obtain ⟨W1, cap, hcv, hcap, hby, hbel, hsz⟩ := to_bytes_of w1 F 4096 (full_size HF.out))
  go_cut [5] from 12 to 31 (fun v wc => Hid (Bytes wc w1.heap.size 4096 (fun j => if a0.size = 0 then 255 else ub a0 (j % a0.size))) ∧ Hid (Below w1.heap.size w1 wc))
  case first =>
    go_wp2_with fail
    go_loopw [5] (fun i wr => ∃ k : Nat, k ≤ 4096 ∧ i = .int .i64 k ∧ (0 < k → 0 < a0.size) ∧ Bytes wr w1.heap.size 4096 (fun j => if j < k then ub a0 (j % a0.size) else 255) ∧ Below w1.heap.size w1 wr) (fun i _ => 4096 - (intOf i).toNat)
    case atStart => exact ⟨0, Nat.zero_le _, rfl, fun h => absurd h (by omega), hby.congr (fun j hj => by rw [if_neg (by omega)]; exact full_ub HF.out hj), hbel⟩
    case round =>
      obtain ⟨k, hk, rfl, hpos, hbb, hbl⟩ := hrel
      clear hcv hby hbel
      by_cases hlt : k < 4096 ∧ 0 < a0.size
      · obtain ⟨hlt, hp⟩ := hlt
        have hc := (hbb k hlt).1
        have hf := (hbb k hlt).2
        have hlm : k % a0.size < a0.size := Nat.mod_lt _ hp
        go_wp2
        go_roundw
        case rel => exact ⟨k + 1, by omega, by go_num, fun _ => hp, (hbb.set k hlt _).congr (fun j _ => wide_step a0 k j), hbl.setCell (Nat.le_refl _) _⟩
        case measure => simp [intOf]; omega
      · have HE : Hid (Bytes wr w1.heap.size 4096 (fun j => if a0.size = 0 then 255 else ub a0 (j % a0.size))) := hbb.congr (fun j hj => by
          by_cases h0 : a0.size = 0
          · rw [if_pos h0, if_neg (by omega)]
          · rw [if_neg h0, if_pos (by omega)])
        have HB : Hid (Below w1.heap.size w1 wr) := hbl
        clear hbb hbl
        by_cases h4 : k < 4096
        · have h0 : a0.size = 0 := by omega
          have d1 : decide (0 < a0.size) = false := decide_eq_false (by omega)
          go_wp2_with fail
          go_meet
          case rel => exact ⟨HE, HB⟩
        · have d1 : decide ((k : Int) < 4096) = false := decide_eq_false (by omega)
          go_wp2_with fail
          go_meet
          case rel => exact ⟨HE, HB⟩
  case rest =>
    obtain ⟨HE, HB⟩ := hcut
    have hwc : Below w.heap.size w wc := hb.trans (HB.out.mono hb.size)
    have Hwc : Hid (Below w.heap.size w wc) := hwc
    have hg1 : w1.heap.size < wc.heap.size := bytes_lt' HE.out (by decide)
    obtain ⟨R, hbk, HR⟩ := HE.out.back_is (fun j _ => rfl) cap
    have HR' : Hid (R = wide a0) := HR.out
    clear hcv hby hbel hget HB hwc HR
    go_wp2_with fail
    refine (new_lies 0 R _ (by rw [HR'.out]; exact wide_size a0)).mono ?_
    rintro e w2 ⟨bp, rfl, hbp, hat, b2⟩
    obtain ⟨R2, hbk2, HR2⟩ := (bytes_below' HE.out hg1 b2).back_is (fun j _ => rfl) cap
    have HR2' : Hid (R2 = wide a0) := HR2.out
    clear hbk HE HR2
    go_wp2_with fail
    refine (refnew_mine R2 _ (by rw [HR2'.out]; exact wide_size a0)).mono ?_
    rintro e w3 ⟨b, rfl, b3⟩
    rw [HR'.out] at hat
    have hB : Hid (Lies 0 bp w3 (newSt (wide a0))) := hat.below b3
    have hbl : Below w.heap.size w w3 := below_then (below_then Hwc.out b2) b3
    have hbw : w.heap.size ≤ bp := Nat.le_trans Hwc.out.size hbp
    clear hbk2 hat b2 b3 hbp HR' HR2' Hwc hg1 hb HF hsz hcap
    go_wp2
    go_ret2
    exact ⟨bp, b, rfl, hbw, hB, hbl⟩
end Go.Proofs.YtjhjghakfedeeaaGreat
