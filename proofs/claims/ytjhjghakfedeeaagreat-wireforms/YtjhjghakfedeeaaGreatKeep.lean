/-
  The power is lost; the erases that were begun are told: each by one contract. Conditions: the chip lies in memory as told and is one that may be. A chip that may be stays one, whatever is called; and the calls of a chip by one contract each, its durations with it. Conditions: the chip lies in memory as told and is one that may be.
-/
import Derived.Test.YtjhjghakfedeeaaGreatCalls2
/-! The power is lost; the erases that were begun are told: each by one contract. Conditions: the chip lies in memory as told and is one that may be. -/
section
namespace Go.Proofs.YtjhjghakfedeeaaGreat
open Go.RowKit Plain
set_option linter.unusedVariables false

def wipeL (s : St) : List Int := [s.wipes 0, s.wipes 1, s.wipes 2, s.wipes 3, s.wipes 4, s.wipes 5, s.wipes 6, s.wipes 7]
theorem wipes_any (b : Nat) (s : St) (ds : Value) (w : World) (h : At w b s ds) :
    Calls Tryz.prog 67 #[.pointer (some ⟨b, 0, none⟩)] w fun e w' => ∃ a c, e = .returned (.slice a 8 c) ∧ Owns w.heap.size w' (.slice a 8 c) (wipeL s) ∧ Below w.heap.size w w' := by
  have hr : Reads w (.slice (some ⟨b, 3, none⟩) 8 8) (wipeL s) := ⟨_, 8, rfl, fun _ => ⟨b, 3, rfl, fun j hj => by
    have hj8 : j < 8 := hj
    rw [h.wipe j hj8]
    rcases (by omega : j = 0 ∨ j = 1 ∨ j = 2 ∨ j = 3 ∨ j = 4 ∨ j = 5 ∨ j = 6 ∨ j = 7) with rfl | rfl | rfl | rfl | rfl | rfl | rfl | rfl <;> rfl⟩⟩
  have HC : Hid (Calls Tryz.prog 87 #[.slice (some ⟨b, 3, none⟩) 8 8] w fun e w' => ∃ a c, e = .returned (.slice a 8 c) ∧ Owns w.heap.size w' (.slice a 8 c) (wipeL s) ∧ 8 ≤ c ∧ Below w.heap.size w w') := clone_any _ (wipeL s) w hr (by show 8 * 8 ≤ _; omega)
  clear hr
  go_enter Tryz.func67, Tryz.ntmps67
  go_wp2_with (go_at_call 87; refine HC.out.mono ?_; rintro e w1 ⟨a, c, rfl, ho, hc, b1⟩)
  go_ret
  exact ⟨a, c, rfl, ho, b1⟩

/-- What goes with the power, as it is without. -/
abbrev zeroPow : Array Value := #[.bool false, .bool false, .bool false, .bool false, .slice none 0 0, .int .i64 0, .bool false, .int .i64 0, .string ⟨#[]⟩, .int .i64 0, .int .i64 0, .bool false, .int .i64 0, .int .i64 0, .bool false, .int .i64 0, .int .i64 0, .int .i64 0, .int .i64 0, .int .i64 0, .int .i64 0, .int .u8 0, .int .u8 0, .int .u8 0, .int .u8 0, .int .u8 0, .int .u8 0, .int .u8 0, .int .u8 0, .int .u8 0, .int .u8 0, .int .u8 0, .int .u8 0, .int .u8 0, .int .u8 0, .int .u8 0, .int .u8 0, .int .u8 0, .int .u8 0, .int .u8 0, .int .u8 0, .int .u8 0, .int .u8 0, .int .u8 0, .int .u8 0, .int .u8 0, .int .u8 0, .int .u8 0, .int .u8 0, .int .u8 0, .int .u8 0, .int .u8 0, .int .u8 0, .int .i64 0]
theorem zero77 : zeroPow = (powCells (newSt ⟨#[]⟩) (.slice none 0 0)).toArray := rfl
theorem pow_ones : zeroPow.all (·.oneCell') = true := by
  rw [zero77]
  refine all_oneCell_toArray fun v hv => ?_
  have hk := cmd_ones noCmd
  rw [Array.all_eq_true_iff_forall_mem] at hk
  simp only [powCells, List.mem_append, List.mem_cons, List.not_mem_nil, or_false] at hv
  rcases hv with (rfl | rfl | rfl | rfl | rfl | rfl | rfl | rfl | rfl) | hv
  all_goals first | rfl | (have hv2 : v ∈ cmdCells noCmd := hv; exact hk v (by simpa using hv2))
theorem info77 : (Tryz.prog.info? 128).map (·.size) = some zeroPow.size := by kernel_rfl
theorem loss_cells (s t : St) (ds : Value) (hA : t.A = s.A) (hp : t.prot = s.prot) (hq : t.quad = s.quad) (hw : t.wipes = s.wipes) (hm : t.made = s.made) (hz : powCells t (.slice none 0 0) = zeroPow.toList) :
    (chipCells s ds).take 15 ++ zeroPow.toList ++ (chipCells s ds).drop (15 + zeroPow.toList.length) = chipCells t (.slice none 0 0) := by
  rw [List.drop_of_length_le (by rw [chip_length]; exact Nat.le_refl 69), List.append_nil, ← hz]
  show _ = [Value.string t.A, .bool t.prot, .bool t.quad, .int .i64 (t.wipes 0), .int .i64 (t.wipes 1), .int .i64 (t.wipes 2), .int .i64 (t.wipes 3), .int .i64 (t.wipes 4), .int .i64 (t.wipes 5), .int .i64 (t.wipes 6), .int .i64 (t.wipes 7),
   .int .u32 (oneIf t.made), .int .i32 0, .int .u32 0, .string (likeT t.made)] ++ powCells t (.slice none 0 0)
  rw [hA, hp, hq, hw, hm]
  rfl
/-- The store of what goes with the power. -/
theorem At.lost {w : World} {b : Nat} {s t : St} {ds : Value} (h : At w b s ds) (hA : t.A = s.A) (hp : t.prot = s.prot) (hq : t.quad = s.quad) (hw : t.wipes = s.wipes) (hm : t.made = s.made) (hz : powCells t (.slice none 0 0) = zeroPow.toList) :
    At (w.setCells b 15 zeroPow.toList) b t (.slice none 0 0) := by
  have := Blk.sets h 15 zeroPow.toList (by rw [chip_length]; exact Nat.le_refl 69)
  rw [loss_cells s t ds hA hp hq hw hm hz] at this
  exact this

set_option maxRecDepth 100000 in
set_option maxHeartbeats 1600000 in
theorem loss_any (n b : Nat) (s : St) (ds : Value) (m : ByteArray) (w : World) (h : At w b s ds) (hs : s.Ok n) (hm : m.size ≤ maxLen) :
    Calls Tryz.prog 23 #[.pointer (some ⟨b, 0, none⟩), .string m] w fun e w' => e = .returned (.int .i64 0) ∧ At w' b (s.loss m) (.slice none 0 0) ∧ Only b w w' := by
  have c0 : w.cell? ⟨b, 0, none⟩ = some (.string s.A) := Blk.cell h 0 rfl
  have c20 : w.cell? ⟨b, 20, none⟩ = some (.int .i64 (s.left : Int)) := Blk.cell h 20 rfl
  have c21 : w.cell? ⟨b, 21, none⟩ = some (.bool s.erases) := Blk.cell h 21 rfl
  have c22 : w.cell? ⟨b, 22, none⟩ = some (.int .i64 (s.wat : Int)) := Blk.cell h 22 rfl
  have c23 : w.cell? ⟨b, 23, none⟩ = some (.string s.wdata) := Blk.cell h 23 rfl
  have HI : Hid ((Tryz.prog.info? 128).map (·.size) = some zeroPow.size) := info77
  have HO : Hid (zeroPow.all (·.oneCell') = true) := pow_ones
  have HT : Hid (∀ (u : World) (t : St) (ds : Value), At u b t ds → u.there b 15 zeroPow.size) := fun u t ds hu => Blk.there hu 15 54 (by rw [chip_length]; exact Nat.le_refl 69)
  cases el : decide (0 < s.left) with
  | false =>
    have HA : Hid ((s.loss m).A = s.A) := by show (if 0 < s.left then _ else _) = _; rw [if_neg (of_decide_eq_false el)]
    go_enter Tryz.func23, Tryz.ntmps23
    go_wp2_with (first | (go_at_call 68; refine (goes_any _ _ _ _ _).mono ?_; rintro e w1 ⟨rfl, b1⟩; rw [el]; (have h1 : At w1 b s ds := Blk.below h b1)) | (refine wpList_store_mid rfl 128 _ _ rfl b 15 zeroPow rfl rfl (HT.out _ _ _ h1) HI.out HO.out ?_; generalize hW : w1.setCells b 15 zeroPow.toList = W2))
    go_ret
    rw [← hW]
    exact ⟨rfl, h1.lost HA.out rfl rfl rfl rfl rfl, (Only.of_below b1).sets 15 _⟩
  | true =>
    have HA : Hid ((s.loss m).A = s.on m) := by show (if 0 < s.left then _ else _) = _; rw [if_pos (of_decide_eq_true el)]
    have Hon : Hid (∀ u : World, Calls Tryz.prog 69 #[.agg #[.int .i64 (s.left : Int), .bool s.erases, .int .i64 (s.wat : Int), .string s.wdata], .string s.A, .string m] u fun e w' => ∃ R, e = .returned (.string R) ∧ Hid (R = s.on m) ∧ Below u.heap.size u w') := fun u => on_any s m u hs.A hs.wat hs.wdata hm
    go_enter Tryz.func23, Tryz.ntmps23
    go_wp2_with (first | (go_at_call 68; refine (goes_any _ _ _ _ _).mono ?_; rintro e w1 ⟨rfl, b1⟩; rw [el]; (have h1 : At w1 b s ds := Blk.below h b1)))
    have d0 : w1.cell? ⟨b, 0, none⟩ = some (.string s.A) := Blk.cell h1 0 rfl
    have d20 : w1.cell? ⟨b, 20, none⟩ = some (.int .i64 (s.left : Int)) := Blk.cell h1 20 rfl
    have d21 : w1.cell? ⟨b, 21, none⟩ = some (.bool s.erases) := Blk.cell h1 21 rfl
    have d22 : w1.cell? ⟨b, 22, none⟩ = some (.int .i64 (s.wat : Int)) := Blk.cell h1 22 rfl
    have d23 : w1.cell? ⟨b, 23, none⟩ = some (.string s.wdata) := Blk.cell h1 23 rfl
    go_region_with (go_at_call 69; refine (Hon.out _).mono ?_; rintro e w3 ⟨R, rfl, HR, b3⟩; (have h3 : At w3 b s ds := Blk.below (Blk.drew h1) b3); (have q0 : w3.cell? ⟨b, 0, none⟩ = some (.string s.A) := Blk.cell h3 0 rfl); (have z0 := Blk.frozen h3 0))
    all_goals (
      have h4 : At (w3.setCell ⟨b, 0, none⟩ (.string R)) b { s with A := R } ds := Blk.set h3 0 _
      have o4 : Only b w (w3.setCell ⟨b, 0, none⟩ (.string R)) := ((Only.of_below b1).drew.below b3).set 0 _
      generalize (w3.setCell ⟨b, 0, none⟩ (.string R)) = W4 at h4 o4 ⊢
      clear d0 d20 d21 d22 d23 q0 z0 h3 b3 h1 b1
      go_wp2_with (refine wpList_store_mid rfl 128 _ _ rfl b 15 zeroPow rfl rfl (HT.out _ _ _ h4) HI.out HO.out ?_; generalize hW : W4.setCells b 15 zeroPow.toList = W2)
      go_ret
      rw [← hW]
      exact ⟨rfl, h4.lost (HA.out.trans HR.out.symm) rfl rfl rfl rfl rfl, o4.sets 15 _⟩)
end Go.Proofs.YtjhjghakfedeeaaGreat
end

/-! A chip that may be stays one, whatever is called; and the calls of a chip by one contract each, its durations with it. Conditions: the chip lies in memory as told and is one that may be. -/
section
namespace Go.Proofs.YtjhjghakfedeeaaGreat
open Go.RowKit Plain
set_option linter.unusedVariables false

theorem Cmd.Ok.mono {n m : Nat} {k : Cmd} (h : k.Ok n) (hm : n ≤ m) : k.Ok m := ⟨h.op, h.part, Nat.le_trans h.clocks hm, Nat.le_trans h.count hm, h.adr, h.mode, h.said, h.small, h.bits, h.some, h.data⟩
theorem St.Ok.mono {n m : Nat} {s : St} (h : s.Ok n) (hm : n ≤ m) : s.Ok m := ⟨h.A, h.durs, h.left, h.wat, h.wdata, h.k.mono hm⟩
theorem St.Ok.setK {n m : Nat} {s : St} {k : Cmd} (h : s.Ok n) (hk : k.Ok m) : (s.setK k).Ok m := ⟨h.A, h.durs, h.left, h.wat, h.wdata, hk⟩

theorem over_prod (l m : Nat) (hl : l = 0 ∨ l = 1 ∨ l = 4) : (over l m).1 * (over l m).2 ≤ m := by
  rcases hl with rfl | rfl | rfl <;> simp [over]
  omega
/-- A part has at most 24 bits; but for the address at most 8. -/
theorem split_prod (k : Cmd) (h : k.op.Ok) : k.split.1 * k.split.2 ≤ 24 ∧ (k.part ≠ 1 → k.split.1 * k.split.2 ≤ 8) := by
  have h1 := over_prod k.op.addr 24 h.addr
  have h2 := over_prod k.op.addr 8 h.addr
  have h3 := over_prod k.op.data 8 h.data
  have h4 := h.dummy
  unfold Cmd.split splitO
  split
  · exact ⟨by decide, fun _ => by decide⟩
  · split
    · exact ⟨h1, fun hh => absurd (by assumption) hh⟩
    · split
      · split
        · exact ⟨by omega, fun _ => h2⟩
        · exact ⟨by decide, fun _ => by decide⟩
      · split
        · exact ⟨by show 1 * k.op.dummy ≤ 24; omega, fun _ => by show 1 * k.op.dummy ≤ 8; omega⟩
        · split
          · exact ⟨by omega, fun _ => h3⟩
          · exact ⟨by decide, fun _ => by decide⟩
theorem nextPart_le (o : Op) (p : Nat) : nextPart o p ≤ 5 := by
  unfold nextPart
  repeat' split
  all_goals omega
theorem nextPart_has (o : Op) (p : Nat) (h : nextPart o p ≤ 4) : 0 < (splitO o (nextPart o p)).2 := by
  unfold nextPart at h ⊢
  split
  · rename_i h1; exact h1.2
  · rename_i h0
    rw [if_neg h0] at h
    split
    · rename_i h1; exact h1.2
    · rename_i h0
      rw [if_neg h0] at h
      split
      · rename_i h1; exact h1.2
      · rename_i h0
        rw [if_neg h0] at h
        split
        · rename_i h1; exact h1.2
        · rename_i h0; rw [if_neg h0] at h; omega
theorem turn_ok {n : Nat} {k : Cmd} (ho : k.op.Ok) (hc : k.count ≤ n) (ha : k.adr < 4096) (hm : k.mode < 256) (hs : k.said < 256) : k.turn.Ok n := by
  have hp := nextPart_le k.op k.part
  refine ⟨ho, hp, Nat.zero_le _, hc, ha, hm, hs, by show 0 < _; omega, fun _ => ?_, fun h => ?_, fun h => ?_⟩
  · show 0 < 2 ^ (0 * _); simp
  · exact nextPart_has k.op k.part (by have : nextPart k.op k.part < 4 := h; omega)
  · have h4 : nextPart k.op k.part = 4 := h
    have := nextPart_has k.op k.part (by omega)
    exact ⟨this, this, fun _ => by show 0 < 2 ^ 0; decide⟩
theorem take_k {n : Nat} (s : St) (x : Nat) (ho : s.k.op.Ok) (hc : s.k.count ≤ n) (ha : s.k.adr < 4096) (hm : s.k.mode < 256) (hs : s.k.said < 256) : (Cmd.turn (if s.takes x then { s.k with op := opOf x } else s.k)).Ok n := by
  split
  · exact turn_ok (opOf_ok x) hc ha hm hs
  · exact turn_ok ho hc ha hm hs
theorem take_ok {n : Nat} {s : St} (h : s.Ok n) (x : Nat) : (s.take x).Ok n := h.setK (take_k s x h.k.op h.k.count h.k.adr h.k.mode h.k.said)
/-- The bits that came, with one clock's more. -/
theorem came_bits {n : Nat} {k : Cmd} (h : k.Ok n) (x : Nat) (hb : k.bits < 2 ^ (k.clocks * k.split.1)) : (k.came x).bits < 2 ^ ((k.clocks + 1) * k.split.1) := by
  show k.bits * 2 ^ k.split.1 + x % 2 ^ k.split.1 < _
  have h1 : x % 2 ^ k.split.1 < 2 ^ k.split.1 := Nat.mod_lt _ (Nat.two_pow_pos _)
  rw [Nat.add_mul, Nat.one_mul, Nat.pow_add]
  calc k.bits * 2 ^ k.split.1 + x % 2 ^ k.split.1 < k.bits * 2 ^ k.split.1 + 2 ^ k.split.1 := by omega
    _ = (k.bits + 1) * 2 ^ k.split.1 := by rw [Nat.add_mul, Nat.one_mul]
    _ ≤ 2 ^ (k.clocks * k.split.1) * 2 ^ k.split.1 := Nat.mul_le_mul_right _ hb
theorem pow_le_of {a b : Nat} (h : a ≤ b) : 2 ^ a ≤ 2 ^ b := Nat.pow_le_pow_right (by decide) h
theorem hear_ok {n : Nat} {s : St} (h : s.Ok n) (hq : s.k.speaks = false) (x : Nat) : (s.hear x).Ok (n + 1) := by
  have hk := h.k
  have hn := h.mono (Nat.le_succ n)
  have hp := split_prod s.k hk.op
  have hc1 : s.k.clocks + 1 ≤ n + 1 := by have := hk.clocks; omega
  have hcnt : s.k.count ≤ n + 1 := by have := hk.count; omega
  unfold St.hear
  rcases (by have := hk.part; omega : s.k.part < 4 ∨ s.k.part = 4 ∨ s.k.part = 5) with p | p | p
  · have hb := came_bits hk x (hk.bits p)
    have hlt := hk.some p
    have hmul : (s.k.clocks + 1) * s.k.split.1 ≤ s.k.split.1 * s.k.split.2 := by rw [Nat.mul_comm]; exact Nat.mul_le_mul_left _ hlt
    have hsm : (s.k.came x).bits < 16777216 := Nat.lt_of_lt_of_le hb (pow_le_of (b := 24) (by omega))
    split
    · rename_i e
      have e2 : s.k.split.1 * s.k.split.2 = (s.k.clocks + 1) * s.k.split.1 := by rw [← e, Nat.mul_comm]
      unfold St.complete
      split
      · exact h.setK (take_k (s.setK (s.k.came x)) _ hk.op hcnt hk.adr hk.mode hk.said)
      · split
        · exact h.setK (turn_ok hk.op hcnt (Nat.mod_lt _ (by decide)) hk.mode hk.said)
        · rename_i q1
          have hp8 : (s.k.came x).bits < 256 := Nat.lt_of_lt_of_le hb (pow_le_of (b := 8) (by have := hp.2 q1; omega))
          split
          · exact h.setK (turn_ok hk.op hcnt hk.adr hp8 hk.said)
          · split
            · rename_i q4
              have : s.k.part = 4 := q4
              omega
            · exact h.setK (turn_ok hk.op hcnt hk.adr hk.mode hk.said)
    · rename_i e
      refine hn.setK ⟨hk.op, hk.part, hc1, hcnt, hk.adr, hk.mode, hk.said, hsm, fun _ => hb, fun _ => ?_, fun h4 => ?_⟩
      · show s.k.clocks + 1 < s.k.split.2; omega
      · have : s.k.part = 4 := h4; omega
  · have hi : s.k.op.inn = true := by
      unfold Cmd.speaks at hq
      rw [decide_eq_true p] at hq
      simpa using hq
    obtain ⟨d1, d2, d3⟩ := hk.data p
    have hd := hk.op.inn hi
    have hsp : s.k.split = (1, 8) := by simp [Cmd.split, splitO, p, over, hd]
    have hl1 : s.k.split.1 = 1 := by rw [hsp]
    have hl2 : s.k.split.2 = 8 := by rw [hsp]
    have hb0 := came_bits hk x (by rw [hl1, Nat.mul_one]; exact d3 hi)
    rw [hl1, Nat.mul_one] at hb0
    have hb8 : (s.k.came x).bits < 256 := Nat.lt_of_lt_of_le hb0 (pow_le_of (b := 8) (by omega))
    split
    · rename_i e
      unfold St.complete
      have p' : (s.setK (s.k.came x)).k.part = 4 := p
      rw [if_neg (by omega), if_neg (by omega), if_neg (by omega), if_pos p']
      refine h.setK ⟨hk.op, hk.part, Nat.zero_le _, by show s.k.count + 1 ≤ n + 1; have := hk.count; omega, hk.adr, hk.mode, hk.said, by show 0 < _; omega, fun _ => ?_, fun h4 => ?_, fun _ => ?_⟩
      · show 0 < _; exact Nat.two_pow_pos _
      · have : s.k.part < 4 := h4; omega
      · exact ⟨by show 0 < s.k.split.2; omega, by show 0 < s.k.split.2; omega, fun _ => by show 0 < 2 ^ 0; decide⟩
    · rename_i e
      refine hn.setK ⟨hk.op, hk.part, hc1, hcnt, hk.adr, hk.mode, hk.said, by omega, fun h4 => ?_, fun h4 => ?_, fun _ => ⟨by show s.k.clocks + 1 < s.k.split.2; omega, by show 0 < s.k.split.2; omega, fun _ => hb0⟩⟩
      · have : s.k.part < 4 := h4; omega
      · have : s.k.part < 4 := h4; omega
  · have hsp : s.k.split = (0, 0) := by simp [Cmd.split, splitO, p]
    rw [if_neg (by rw [hsp]; show ¬ s.k.clocks + 1 = 0; omega)]
    have hbits : (s.k.came x).bits = s.k.bits := by
      show s.k.bits * 2 ^ s.k.split.1 + x % 2 ^ s.k.split.1 = _
      rw [hsp]
      show s.k.bits * 1 + x % 1 = _
      omega
    refine hn.setK ⟨hk.op, hk.part, hc1, hcnt, hk.adr, hk.mode, hk.said, by rw [hbits]; exact hk.small, fun h4 => ?_, fun h4 => ?_, fun h4 => ?_⟩
    · have : s.k.part < 4 := h4; omega
    · have : s.k.part < 4 := h4; omega
    · have : s.k.part = 4 := h4; omega
theorem begun_ok {n : Nat} {s : St} (h : s.Ok n) : s.begun.Ok n := by
  unfold St.begun
  split
  · have hl : s.looked.Ok n := by unfold St.looked; split <;> exact ⟨h.A, h.durs, h.left, h.wat, h.wdata, h.k⟩
    exact hl.setK ⟨h.k.op, h.k.part, h.k.clocks, h.k.count, h.k.adr, h.k.mode, dataByte_lt s, h.k.small, h.k.bits, h.k.some, h.k.data⟩
  · exact h
theorem speaks_parts {k : Cmd} (h : k.speaks = true) : k.part = 4 ∧ k.op.inn = false := by
  have h0 : (decide (k.part = 4) && !k.op.inn) = true := h
  rw [Bool.and_eq_true_iff] at h0
  exact ⟨of_decide_eq_true h0.1, by simpa using h0.2⟩
theorem tell_ok {n : Nat} {s : St} (h : s.Ok n) (hq : s.k.speaks = true) : s.tell.1.Ok (n + 1) := by
  obtain ⟨hp, hin⟩ := speaks_parts hq
  have hb := begun_ok h
  have hk := hb.k
  have hp' : s.begun.k.part = 4 := by rw [begun_part]; exact hp
  obtain ⟨d1, d2, d3⟩ := hk.data hp'
  refine hb.setK ?_
  unfold Cmd.told
  have hc1 : s.begun.k.clocks + 1 ≤ n + 1 := by have := hk.clocks; omega
  have hcnt : s.begun.k.count + 1 ≤ n + 1 := by have := hk.count; omega
  have hcnt' : s.begun.k.count ≤ n + 1 := by omega
  split
  · exact ⟨hk.op, hk.part, Nat.zero_le _, hcnt, hk.adr, hk.mode, hk.said, hk.small, fun h4 => absurd h4 (by show ¬ s.begun.k.part < 4; omega), fun h4 => absurd h4 (by show ¬ s.begun.k.part < 4; omega), fun _ => ⟨d2, d2, fun hi => absurd hi (by show ¬ s.begun.k.op.inn = true; rw [begun_op, hin]; decide)⟩⟩
  · exact ⟨hk.op, hk.part, hc1, hcnt', hk.adr, hk.mode, hk.said, hk.small, fun h4 => absurd h4 (by show ¬ s.begun.k.part < 4; omega), fun h4 => absurd h4 (by show ¬ s.begun.k.part < 4; omega), fun _ => ⟨by show s.begun.k.clocks + 1 < s.begun.k.split.2; omega, d2, fun hi => absurd hi (by show ¬ s.begun.k.op.inn = true; rw [begun_op, hin]; decide)⟩⟩

theorem clock_ok {n : Nat} {s : St} (h : s.Ok n) (x : Nat) : (s.clock x).1.Ok (n + 1) := by
  have hc := countDown_ok h
  show (s.countDown.heard x).1.Ok _
  unfold St.heard
  split
  · exact hc.mono (Nat.le_succ n)
  · cases hq : s.countDown.k.speaks with
    | true => exact tell_ok hc hq
    | false => exact hear_ok hc hq x
theorem select_ok {n : Nat} {s : St} (h : s.Ok n) : s.select.Ok n := by
  unfold St.select
  have h1 : ({ s with sel := true } : St).Ok n := ⟨h.A, h.durs, h.left, h.wat, h.wdata, h.k⟩
  split
  · exact take_ok h1 235
  · exact h1
theorem begin_ok {n : Nat} {s : St} (h : s.Ok n) (er : Bool) (a : Nat) (d : ByteArray) (ha : a < 4096) (hd : a + d.size ≤ 4096) : (s.begin er a d).Ok n := by
  unfold St.begin
  split
  · exact h
  · split
    · exact ⟨h.A, h.durs, h.left, h.wat, h.wdata, h.k⟩
    · refine ⟨h.A, fun d hd => h.durs d (List.mem_of_mem_tail hd), ?_, ha, hd, h.k⟩
      show (s.durs.headD 8).toNat ≤ 400
      cases hL : s.durs with
      | nil => decide
      | cons x r => have := (h.durs x (by rw [hL]; simp)).2; show x.toNat ≤ 400; omega
theorem page_size (k : Cmd) : k.page.size = 32 := tab_size _ _
theorem obey_ok {n : Nat} {s : St} (h : s.Ok n) (k : Cmd) (ha : k.adr < 4096) : (s.obey k).Ok n := by
  unfold St.obey
  split
  · exact ⟨h.A, h.durs, h.left, h.wat, h.wdata, h.k⟩
  · split
    · exact ⟨h.A, h.durs, h.left, h.wat, h.wdata, h.k⟩
    · split
      · exact ⟨h.A, h.durs, h.left, h.wat, h.wdata, h.k⟩
      · split
        · exact ⟨h.A, h.durs, h.left, h.wat, h.wdata, h.k⟩
        · split
          · unfold St.putStatus
            split
            · exact ⟨h.A, h.durs, h.left, h.wat, h.wdata, h.k⟩
            · exact h
          · split
            · split
              · exact begin_ok h _ _ _ (by omega) (by rw [page_size]; omega)
              · exact h
            · split
              · exact begin_ok h _ _ _ ha (by show k.adr + 0 ≤ 4096; omega)
              · exact h
theorem ended_ok {n : Nat} {s : St} (h : s.Ok n) (m : Nat) : s.ended.Ok m := ⟨h.A, h.durs, h.left, h.wat, h.wdata, noCmd_ok m⟩
theorem deselect_ok {n : Nat} {s : St} (h : s.Ok n) (m : Nat) : s.deselect.Ok m := by
  unfold St.deselect
  split
  · exact obey_ok (ended_ok h m) _ h.k.adr
  · exact ended_ok h m
theorem next_ok {n : Nat} {s : St} (h : s.Ok n) (L : List Int) (hL : okL L = true) : (s.next L).Ok n := ⟨h.A, ((okL_iff L).1 hL).2, h.left, h.wat, h.wdata, h.k⟩
theorem loss_ok {n : Nat} {s : St} (h : s.Ok n) (m : ByteArray) (j : Nat) : (s.loss m).Ok j := by
  refine ⟨?_, fun d hd => (by cases hd), Nat.zero_le _, by show 0 < 4096; omega, by show 0 + 0 ≤ 4096; omega, noCmd_ok j⟩
  show (if 0 < s.left then s.on m else s.A).size = 4096
  split
  · rw [on_size]; exact h.A
  · exact h.A
theorem new_ok (a : ByteArray) (ha : a.size = 4096) (n : Nat) : (newSt a).Ok n := ⟨ha, fun d hd => (by cases hd), Nat.zero_le _, by show 0 < 4096; omega, by show 0 + 0 ≤ 4096; omega, noCmd_ok n⟩

theorem clock_durs (s : St) (x : Nat) : (s.clock x).1.durs = s.durs := by
  have h1 : s.countDown.durs = s.durs := by unfold St.countDown; split; · split <;> rfl
                                            · rfl
  have h2 : (s.countDown.heard x).1.durs = s.countDown.durs := by
    generalize s.countDown = t
    unfold St.heard
    split
    · rfl
    · split
      · show t.begun.durs = t.durs
        unfold St.begun
        split
        · show t.looked.durs = t.durs
          unfold St.looked; split <;> rfl
        · rfl
      · show (t.hear x).durs = t.durs
        unfold St.hear
        split
        · unfold St.complete
          repeat' split
          all_goals rfl
        · rfl
  exact h2.trans h1
theorem select_durs (s : St) : s.select.durs = s.durs := by unfold St.select; split <;> rfl

theorem nil_durs (w : World) (b : Nat) : Durs w b (.slice none 0 0) [] :=
  ⟨⟨none, 0, rfl, fun h0 => absurd h0 (by decide)⟩, fun g o n c e => (by simp at e), fun a n c e => (by simp at e; omega)⟩
/-- A chip that may be lies in block b. -/
def Lies (n b : Nat) (w : World) (s : St) : Prop := Chip w b s ∧ s.Ok n
theorem Lies.lt {n b : Nat} {w : World} {s : St} (h : Lies n b w s) : b < w.heap.size := h.1.lt
theorem Lies.below {n b : Nat} {w w' : World} {s : St} (h : Lies n b w s) (k : Below w.heap.size w w') : Lies n b w' s := ⟨h.1.below k, h.2⟩

theorem clock_lies (n b : Nat) (s : St) (x : Nat) (w : World) (h : Lies n b w s) (hn : n < 4611686018427387903) (hx : x < 16) :
    Calls Tryz.prog 58 #[.pointer (some ⟨b, 0, none⟩), .int .i64 (x : Int)] w fun e w' => e = .returned (.tuple #[.int .i64 ((s.clock x).2 : Int), .int .i64 0]) ∧ Lies (n + 1) b w' (s.clock x).1 ∧ Only b w w' := by
  obtain ⟨⟨ds, hA, hD⟩, hs⟩ := h
  exact (clock_any n b s ds x w hA hs hn hx).mono fun e w' ⟨h1, h2, h3⟩ => ⟨h1, ⟨⟨ds, h2, by rw [clock_durs]; exact hD.only h3⟩, clock_ok hs x⟩, h3⟩
theorem select_lies (n b : Nat) (s : St) (w : World) (h : Lies n b w s) (hl : s.sel = false) :
    Calls Tryz.prog 57 #[.pointer (some ⟨b, 0, none⟩)] w fun e w' => e = .returned (.int .i64 0) ∧ Lies n b w' s.select ∧ Only b w w' := by
  obtain ⟨⟨ds, hA, hD⟩, hs⟩ := h
  exact (select_any n b s ds w hA hs hl).mono fun e w' ⟨h1, h2, h3⟩ => ⟨h1, ⟨⟨ds, h2, by rw [select_durs]; exact hD.only h3⟩, select_ok hs⟩, h3⟩
theorem deselect_lies (n m b : Nat) (s : St) (w : World) (h : Lies n b w s) (hn : n < 4611686018427387903) (hl : s.sel = true) :
    Calls Tryz.prog 61 #[.pointer (some ⟨b, 0, none⟩)] w fun e w' => e = .returned (.int .i64 0) ∧ Lies m b w' s.deselect ∧ Only b w w' := by
  obtain ⟨⟨ds, hA, hD⟩, hs⟩ := h
  exact (deselect_any n b s ds w hA hD hs hl hn).mono fun e w' ⟨h1, ds', h2, h3, h4, _⟩ => ⟨h1, ⟨⟨ds', h2, h3⟩, deselect_ok hs m⟩, h4⟩
theorem status_lies (n b : Nat) (s : St) (w : World) (h : Lies n b w s) :
    Calls Tryz.prog 65 #[.pointer (some ⟨b, 0, none⟩)] w fun e w' => e = .returned (.tuple #[.int .i64 (s.first : Int), .int .i64 (s.second : Int)]) ∧ Below w.heap.size w w' := by
  obtain ⟨⟨ds, hA, hD⟩, hs⟩ := h
  exact status_any b s ds w hA
theorem cells_lies (n b : Nat) (s : St) (w : World) (h : Lies n b w s) :
    Calls Tryz.prog 27 #[.pointer (some ⟨b, 0, none⟩)] w fun e w' => e = .returned (.string s.A) ∧ w = w' := by
  obtain ⟨⟨ds, hA, hD⟩, hs⟩ := h
  exact cells_any b s ds w hA
theorem loss_lies (n m b : Nat) (s : St) (t : ByteArray) (w : World) (h : Lies n b w s) (ht : t.size ≤ maxLen) :
    Calls Tryz.prog 23 #[.pointer (some ⟨b, 0, none⟩), .string t] w fun e w' => e = .returned (.int .i64 0) ∧ Lies m b w' (s.loss t) ∧ Only b w w' := by
  obtain ⟨⟨ds, hA, hD⟩, hs⟩ := h
  exact (loss_any n b s ds t w hA hs ht).mono fun e w' ⟨h1, h2, h3⟩ => ⟨h1, ⟨⟨_, h2, nil_durs w' b⟩, loss_ok hs t m⟩, h3⟩
theorem wipes_lies (n b : Nat) (s : St) (w : World) (h : Lies n b w s) :
    Calls Tryz.prog 67 #[.pointer (some ⟨b, 0, none⟩)] w fun e w' => ∃ a c, e = .returned (.slice a 8 c) ∧ Owns w.heap.size w' (.slice a 8 c) (wipeL s) ∧ Below w.heap.size w w' := by
  obtain ⟨⟨ds, hA, hD⟩, hs⟩ := h
  exact wipes_any b s ds w hA
theorem new_lies (n : Nat) (a : ByteArray) (w : World) (ha : a.size = 4096) :
    Calls Tryz.prog 52 #[.string a] w fun e w' => ∃ b, e = .returned (.tuple #[.pointer (some ⟨b, 0, none⟩), .int .i64 0]) ∧ w.heap.size ≤ b ∧ Lies n b w' (newSt a) ∧ Below w.heap.size w w' :=
  (new_any a w ha).mono fun e w' ⟨b, h1, h2, h3, h4⟩ => ⟨b, h1, h2, ⟨⟨_, h3, nil_durs w' b⟩, new_ok a ha n⟩, h4⟩
end Go.Proofs.YtjhjghakfedeeaaGreat
end
