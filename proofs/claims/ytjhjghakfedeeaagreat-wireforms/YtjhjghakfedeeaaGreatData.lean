/-
  The data that the chip tells: the byte that begins, and a clock's bits of it: each by a contract. Conditions: the chip lies in memory as told and is one that may be.
-/
import Derived.Test.YtjhjghakfedeeaaGreatOnce
namespace Go.Proofs.YtjhjghakfedeeaaGreat
open Go.RowKit Plain
set_option linter.unusedVariables false

set_option maxRecDepth 100000 in
set_option maxHeartbeats 1600000 in
theorem dataByte_any (n b : Nat) (s : St) (ds : Value) (w : World) (h : At w b s ds) (hA : s.A.size = 4096) (hk : s.k.Ok n) (hn : n < 4611686018427387903) :
    Calls Tryz.prog 127 #[.pointer (some ⟨b, 0, none⟩)] w fun e w' => e = .returned (.int .i64 (s.dataByte : Int)) ∧ At w' b s.looked ds ∧ Only b w w' := by
  have hc : s.k.count < 4611686018427387904 := by have := hk.count; omega
  have ha := hk.adr
  by_cases e159 : s.k.op.byte = 159
  · have e1 : s.dataByte = s.k.around idT := by unfold St.dataByte; rw [if_pos e159]
    have e2 : s.looked = s := by unfold St.looked; rw [if_neg (by omega)]
    rw [e1, e2]
    have hid : Hid (∀ u : World, At u b s ds → Calls Tryz.prog 150 #[.pointer (some ⟨b, 24, none⟩), .string ⟨#[239, 64, 12]⟩] u fun e w' => e = .returned (.int .i64 (s.k.around idT : Int)) ∧ ∃ m, w' = u.drewN m) := fun u hu => around_any b 24 s.k idT u (cmd_at hu) (by decide) (by decide) ha hc
    go_enter Tryz.func127, Tryz.ntmps127
    go_wp2_with (first | (go_at_call 65; refine (status_any b s ds _ h).mono ?_; rintro e w1 ⟨rfl, b1⟩; (have h1 : At w1 b s ds := Blk.below h b1); (have c24 : w1.cell? ⟨b, 24, none⟩ = some (.int .i64 159) := (by rw [Blk.cell h1 24 (show _ = some (Value.int .i64 (s.k.op.byte : Int)) from rfl), e159]; rfl))) | (go_at_call 150; refine (hid.out _ h1).mono ?_; rintro e w2 ⟨rfl, m, rfl⟩))
    go_ret
    exact ⟨rfl, Blk.below h1 (below_drewN (Below.refl _ _) _), (Only.of_below b1).drewN _⟩
  by_cases e5 : s.k.op.byte = 5
  · have e1 : s.dataByte = s.first := by unfold St.dataByte; rw [if_neg e159, if_pos e5]
    have e2 : s.looked = s := by unfold St.looked; rw [if_neg (by omega)]
    rw [e1, e2]
    go_enter Tryz.func127, Tryz.ntmps127
    go_wp2_with (first | (go_at_call 65; refine (status_any b s ds _ h).mono ?_; rintro e w1 ⟨rfl, b1⟩; (have h1 : At w1 b s ds := Blk.below h b1); (have c24 : w1.cell? ⟨b, 24, none⟩ = some (.int .i64 5) := (by rw [Blk.cell h1 24 (show _ = some (Value.int .i64 (s.k.op.byte : Int)) from rfl), e5]; rfl))))
    go_ret
    exact ⟨rfl, h1, Only.of_below b1⟩
  by_cases e53 : s.k.op.byte = 53
  · have e1 : s.dataByte = s.second := by unfold St.dataByte; rw [if_neg e159, if_neg e5, if_pos e53]
    have e2 : s.looked = s := by unfold St.looked; rw [if_neg (by omega)]
    rw [e1, e2]
    go_enter Tryz.func127, Tryz.ntmps127
    go_wp2_with (first | (go_at_call 65; refine (status_any b s ds _ h).mono ?_; rintro e w1 ⟨rfl, b1⟩; (have h1 : At w1 b s ds := Blk.below h b1); (have c24 : w1.cell? ⟨b, 24, none⟩ = some (.int .i64 53) := (by rw [Blk.cell h1 24 (show _ = some (Value.int .i64 (s.k.op.byte : Int)) from rfl), e53]; rfl))))
    go_ret
    exact ⟨rfl, h1, Only.of_below b1⟩
  by_cases e90 : s.k.op.byte = 90
  · have e1 : s.dataByte = s.k.around sfdpT := by unfold St.dataByte; rw [if_neg e159, if_neg e5, if_neg e53, if_pos e90]
    have e2 : s.looked = s.like := by unfold St.looked; rw [if_pos e90]; rfl
    rw [e1, e2]
    obtain ⟨T, HT⟩ : ∃ T : ByteArray, Hid (T = sfdpT) := ⟨_, rfl⟩
    have Hlike : Hid (∀ u : World, At u b s ds → Calls Tryz.prog 151 #[.pointer (some ⟨b, 0, none⟩)] u fun e w' => e = .returned (.string T) ∧ At w' b s.like ds ∧ Only b u w') := fun u hu => by rw [HT.out]; exact like_any b s ds u hu
    have Har : Hid (∀ u : World, At u b s.like ds → Calls Tryz.prog 150 #[.pointer (some ⟨b, 24, none⟩), .string T] u fun e w' => e = .returned (.int .i64 (s.k.around sfdpT : Int)) ∧ ∃ m, w' = u.drewN m) := fun u hu => by rw [HT.out]; exact around_any b 24 s.k sfdpT u (cmd_at (s := s.like) hu) (by decide) (by decide) ha hc
    go_enter Tryz.func127, Tryz.ntmps127
    go_wp2_with (first | (go_at_call 65; refine (status_any b s ds _ h).mono ?_; rintro e w1 ⟨rfl, b1⟩; (have h1 : At w1 b s ds := Blk.below h b1); (have c24 : w1.cell? ⟨b, 24, none⟩ = some (.int .i64 90) := (by rw [Blk.cell h1 24 (show _ = some (Value.int .i64 (s.k.op.byte : Int)) from rfl), e90]; rfl))))
    go_region_with (first | (go_at_call 151; refine (Hlike.out _ (Blk.drew h1)).mono ?_; rintro e w2 ⟨rfl, h2, o2⟩) | (go_at_call 150; refine (Har.out _ h2).mono ?_; rintro e w3 ⟨rfl, m, rfl⟩))
    all_goals (
      go_wp2
      go_ret
      exact ⟨rfl, Blk.below h2 (below_drewN (Below.refl _ _) _), ((Only.of_below b1).drew.trans o2).drewN _⟩)
  · have e1 : s.dataByte = s.k.around s.A := by unfold St.dataByte; rw [if_neg e159, if_neg e5, if_neg e53, if_neg e90]
    have e2 : s.looked = s := by unfold St.looked; rw [if_neg e90]
    have i159 : ((s.k.op.byte : Int) == 159) = false := beq_eq_false_iff_ne.2 (by omega)
    have i5 : ((s.k.op.byte : Int) == 5) = false := beq_eq_false_iff_ne.2 (by omega)
    have i53 : ((s.k.op.byte : Int) == 53) = false := beq_eq_false_iff_ne.2 (by omega)
    have i90 : ((s.k.op.byte : Int) == 90) = false := beq_eq_false_iff_ne.2 (by omega)
    rw [e1, e2]
    have Har : Hid (∀ u : World, At u b s ds → Calls Tryz.prog 150 #[.pointer (some ⟨b, 24, none⟩), .string s.A] u fun e w' => e = .returned (.int .i64 (s.k.around s.A : Int)) ∧ ∃ m, w' = u.drewN m) := fun u hu => around_any b 24 s.k s.A u (cmd_at hu) (by omega) (by omega) ha hc
    clear e159 e5 e53 e90
    go_enter Tryz.func127, Tryz.ntmps127
    go_wp2_with (first | (go_at_call 65; refine (status_any b s ds _ h).mono ?_; rintro e w1 ⟨rfl, b1⟩; (have h1 : At w1 b s ds := Blk.below h b1); (have c24 : w1.cell? ⟨b, 24, none⟩ = some (.int .i64 (s.k.op.byte : Int)) := Blk.cell h1 24 rfl); (have c0 : w1.cell? ⟨b, 0, none⟩ = some (.string s.A) := Blk.cell h1 0 rfl)))
    go_region_with (first | (go_at_call 150; refine (Har.out _ (Blk.drew h1)).mono ?_; rintro e w3 ⟨rfl, m, rfl⟩))
    all_goals (
      go_wp2
      go_ret
      exact ⟨rfl, Blk.below h1 (below_drewN (Below.refl _ _) _), (Only.of_below b1).drewN _⟩)

theorem looked_k (s : St) : s.looked.k = s.k := by unfold St.looked; split <;> rfl
theorem begun_split (s : St) : s.begun.k.split = s.k.split := by unfold St.begun; split <;> rfl
theorem begun_op (s : St) : s.begun.k.op = s.k.op := by unfold St.begun; split <;> rfl
theorem begun_part (s : St) : s.begun.k.part = s.k.part := by unfold St.begun; split <;> rfl
theorem begun_count (s : St) : s.begun.k.count = s.k.count := by unfold St.begun; split <;> rfl
theorem begun_clocks (s : St) : s.begun.k.clocks = s.k.clocks := by unfold St.begun; split <;> rfl


theorem tell_bits (x c l : Nat) (hx : x < 256) (hl : l = 1 ∨ l = 4) : bits .and .i64 ((x : Int) / 2 ^ (8 - l - c * l)) (2 ^ l - 1) = (tellBits x (c + 1) l : Int) := by
  rw [and_mask _ l (by omega)]
  unfold tellBits
  rw [show 8 - (c + 1) * l = 8 - l - c * l by rw [Nat.add_mul]; omega]
  simp
theorem tell_bits_lt (x c : Nat) : tellBits x c 1 < 2 := Nat.mod_lt _ (by decide)
theorem or_13 (o : Nat) (h : o < 2) : bits .or .i64 13 ((o : Int) * 2) = ((13 + 2 * o : Nat) : Int) := by
  rcases (by omega : o = 0 ∨ o = 1) with rfl | rfl <;> rfl

set_option maxRecDepth 100000 in
set_option maxHeartbeats 1600000 in
theorem tell_first_one (n b : Nat) (s : St) (ds : Value) (w : World) (h : At w b s ds) (hA : s.A.size = 4096) (hk : s.k.Ok n) (hz : s.k.clocks = 0) (h1 : s.k.split.1 = 1) (h2 : s.k.split.2 = 8) (h3 : s.k.clocks < 8) (hn : n < 4611686018427387903) (hd : s.begun.k.said < 256) :
    Calls Tryz.prog 97 #[.pointer (some ⟨b, 0, none⟩)] w fun e w' => e = .returned (.int .i64 (s.tell.2 : Int)) ∧ At w' b s.tell.1 ds ∧ Only b w w' := by
  obtain ⟨c, Hc⟩ : ∃ c, Hid (s.k.clocks = c) := ⟨_, rfl⟩
  obtain ⟨x, Hx⟩ : ∃ x, Hid (s.begun.k.said = x) := ⟨_, rfl⟩
  obtain ⟨q, Hq⟩ : ∃ q, Hid (s.begun.k.count = q) := ⟨_, rfl⟩
  have hq : q < 4611686018427387903 := by rw [← Hq.out, begun_count]; have := hk.count; omega
  rw [Hx.out] at hd
  rw [Hc.out] at hz h3
  have c31 : w.cell? ⟨b, 31, none⟩ = some (.int .i64 (c : Int)) := by rw [← Hc.out]; exact Blk.cell h 31 rfl
  have H1 : Hid (s.begun.k.split.1 = 1) := by show _ = _; rw [begun_split]; exact h1
  have H2 : Hid (s.begun.k.split.2 = 8) := by show _ = _; rw [begun_split]; exact h2
  have HC : Hid (s.begun.k.clocks = c) := by show _ = _; rw [begun_clocks]; exact Hc.out
  have Hop : Hid (s.begun.k.op.Ok ∧ s.begun.k.part ≤ 5) := by rw [begun_op, begun_part]; exact ⟨hk.op, hk.part⟩
  have HE : Hid (s.tell = (s.begun.setK (if c + 1 = 8 then { s.begun.k with clocks := 0, count := s.begun.k.count + 1 } else { s.begun.k with clocks := c + 1 }), tellOut (tellBits x (c + 1) 1) 1)) := by
    show _ = _
    unfold St.tell Cmd.told
    rw [H2.out, HC.out, Hc.out, h1, ← Hx.out]
  have HO : Hid (bits .and .i64 ((x : Int) / 2 ^ (7 - c)) 1 = (tellBits x (c + 1) 1 : Int)) := by
    have hb := tell_bits x c 1 hd (by decide)
    show _ = _
    rw [← hb]
    congr 4; omega
  clear h1 h2
  have HB : Hid (s.begun = s.looked.setK { s.k with said := s.dataByte }) := by show _ = _; unfold St.begun; rw [if_pos (Hc.out.trans hz)]
  have hc0 : ((c : Int) == 0) = true := beq_iff_eq.2 (by omega)
  clear hz
  go_enter Tryz.func97, Tryz.ntmps97
  go_wp2_with (first | (go_at_call 127; refine (dataByte_any n b s ds _ h hA hk hn).mono ?_; rintro e w0 ⟨rfl, h0, o0⟩; (have c68 : w0.cell? ⟨b, 68, none⟩ = some (.int .i64 (s.looked.k.said : Int)) := Blk.cell h0 68 rfl); (have f68 := Blk.frozen h0 68)))
  have hT : At (w0.setCell ⟨b, 68, none⟩ (.int .i64 (s.dataByte : Int))) b s.begun ds := by
    rw [HB.out, ← looked_k s]; exact Blk.set h0 68 _
  have oT := o0.set 68 (.int .i64 (s.dataByte : Int))
  clear c68 f68 h0 o0 HB
  generalize (w0.setCell ⟨b, 68, none⟩ (.int .i64 (s.dataByte : Int))) = W0 at hT oT ⊢
  refine (split_any b 24 s.begun.k _ (cmd_at hT) Hop.out.1 Hop.out.2).mono ?_
  rintro e w1 ⟨rfl, b1⟩
  rw [H1.out, H2.out]
  have hU : At w1 b s.begun ds := Blk.below hT b1
  have oU := oT.below b1
  have d31 : w1.cell? ⟨b, 31, none⟩ = some (.int .i64 (c : Int)) := by rw [← HC.out]; exact Blk.cell hU 31 rfl
  have d68 : w1.cell? ⟨b, 68, none⟩ = some (.int .i64 (x : Int)) := by rw [← Hx.out]; exact Blk.cell hU 68 rfl
  have g31 := Blk.frozen hU 31
  clear hT oT c31 hc0 b1
  go_wp2_with fail
  go_quiet (fail)
  rw [HO.out]
  have h5 : At ((w1.setCell ⟨b, 31, none⟩ (.int .i64 ((c : Int) + 1))).drewN nq) b (s.begun.setK { s.begun.k with clocks := c + 1 }) ds := Blk.below (Blk.set hU 31 _) (below_drewN (Below.refl _ _) _)
  have o5 := (oU.set 31 (.int .i64 ((c : Int) + 1))).drewN nq
  generalize ((w1.setCell ⟨b, 31, none⟩ (.int .i64 ((c : Int) + 1))).drewN nq) = W2 at h5 o5 ⊢
  clear d31 d68 g31 hU oU HO
  obtain ⟨o, Ho⟩ : ∃ o, Hid (tellBits x (c + 1) 1 = o) := ⟨_, rfl⟩
  rw [Ho.out]
  have ho : o < 2 := by rw [← Ho.out]; exact tell_bits_lt _ _
  have e31 : W2.cell? ⟨b, 31, none⟩ = some (.int .i64 ((c : Int) + 1)) := Blk.cell h5 31 rfl
  have e35 : W2.cell? ⟨b, 35, none⟩ = some (.int .i64 (q : Int)) := by rw [← Hq.out]; exact Blk.cell h5 35 rfl
  have g31 := Blk.frozen h5 31
  have g35 := Blk.frozen h5 35
  by_cases ec : c + 1 = 8
  · have HE1 : Hid (s.tell = (s.begun.setK { s.begun.k with clocks := 0, count := q + 1 }, tellOut o 1)) := by
      show _ = _; rw [HE.out, if_pos ec, Ho.out, Hq.out]
    have ec1 : (((c : Int) + 1) == 8) = true := beq_iff_eq.2 (by omega)
    clear ec
    go_wp2
    go_ret
    rw [HE1.out]
    exact ⟨ret_int (or_13 o ho), Blk.set (Blk.set h5 31 _) 35 _, (o5.set 31 _).set 35 _⟩
  · have HE1 : Hid (s.tell = (s.begun.setK { s.begun.k with clocks := c + 1 }, tellOut o 1)) := by
      show _ = _; rw [HE.out, if_neg ec, Ho.out]
    have ec1 : (((c : Int) + 1) == 8) = false := beq_eq_false_iff_ne.2 (by omega)
    clear ec
    go_wp2
    go_ret
    rw [HE1.out]
    exact ⟨ret_int (or_13 o ho), h5, o5⟩

set_option maxRecDepth 100000 in
set_option maxHeartbeats 1600000 in
theorem tell_first_four (n b : Nat) (s : St) (ds : Value) (w : World) (h : At w b s ds) (hA : s.A.size = 4096) (hk : s.k.Ok n) (hz : s.k.clocks = 0) (h1 : s.k.split.1 = 4) (h2 : s.k.split.2 = 2) (h3 : s.k.clocks < 2) (hn : n < 4611686018427387903) (hd : s.begun.k.said < 256) :
    Calls Tryz.prog 97 #[.pointer (some ⟨b, 0, none⟩)] w fun e w' => e = .returned (.int .i64 (s.tell.2 : Int)) ∧ At w' b s.tell.1 ds ∧ Only b w w' := by
  obtain ⟨c, Hc⟩ : ∃ c, Hid (s.k.clocks = c) := ⟨_, rfl⟩
  obtain ⟨x, Hx⟩ : ∃ x, Hid (s.begun.k.said = x) := ⟨_, rfl⟩
  obtain ⟨q, Hq⟩ : ∃ q, Hid (s.begun.k.count = q) := ⟨_, rfl⟩
  have hq : q < 4611686018427387903 := by rw [← Hq.out, begun_count]; have := hk.count; omega
  rw [Hx.out] at hd
  rw [Hc.out] at hz h3
  have c31 : w.cell? ⟨b, 31, none⟩ = some (.int .i64 (c : Int)) := by rw [← Hc.out]; exact Blk.cell h 31 rfl
  have H1 : Hid (s.begun.k.split.1 = 4) := by show _ = _; rw [begun_split]; exact h1
  have H2 : Hid (s.begun.k.split.2 = 2) := by show _ = _; rw [begun_split]; exact h2
  have HC : Hid (s.begun.k.clocks = c) := by show _ = _; rw [begun_clocks]; exact Hc.out
  have Hop : Hid (s.begun.k.op.Ok ∧ s.begun.k.part ≤ 5) := by rw [begun_op, begun_part]; exact ⟨hk.op, hk.part⟩
  have HE : Hid (s.tell = (s.begun.setK (if c + 1 = 2 then { s.begun.k with clocks := 0, count := s.begun.k.count + 1 } else { s.begun.k with clocks := c + 1 }), tellOut (tellBits x (c + 1) 4) 4)) := by
    show _ = _
    unfold St.tell Cmd.told
    rw [H2.out, HC.out, Hc.out, h1, ← Hx.out]
  have HO : Hid (bits .and .i64 ((x : Int) / 2 ^ (8 - (c + 1) * 4)) 15 = (tellBits x (c + 1) 4 : Int)) := by
    have hb := tell_bits x c 4 hd (by decide)
    show _ = _
    rw [← hb]
    rw [show 8 - (c + 1) * 4 = 8 - 4 - c * 4 by omega]; rfl
  clear h1 h2
  have HB : Hid (s.begun = s.looked.setK { s.k with said := s.dataByte }) := by show _ = _; unfold St.begun; rw [if_pos (Hc.out.trans hz)]
  have hc0 : ((c : Int) == 0) = true := beq_iff_eq.2 (by omega)
  clear hz
  go_enter Tryz.func97, Tryz.ntmps97
  go_wp2_with (first | (go_at_call 127; refine (dataByte_any n b s ds _ h hA hk hn).mono ?_; rintro e w0 ⟨rfl, h0, o0⟩; (have c68 : w0.cell? ⟨b, 68, none⟩ = some (.int .i64 (s.looked.k.said : Int)) := Blk.cell h0 68 rfl); (have f68 := Blk.frozen h0 68)))
  have hT : At (w0.setCell ⟨b, 68, none⟩ (.int .i64 (s.dataByte : Int))) b s.begun ds := by
    rw [HB.out, ← looked_k s]; exact Blk.set h0 68 _
  have oT := o0.set 68 (.int .i64 (s.dataByte : Int))
  clear c68 f68 h0 o0 HB
  generalize (w0.setCell ⟨b, 68, none⟩ (.int .i64 (s.dataByte : Int))) = W0 at hT oT ⊢
  refine (split_any b 24 s.begun.k _ (cmd_at hT) Hop.out.1 Hop.out.2).mono ?_
  rintro e w1 ⟨rfl, b1⟩
  rw [H1.out, H2.out]
  have hU : At w1 b s.begun ds := Blk.below hT b1
  have oU := oT.below b1
  have d31 : w1.cell? ⟨b, 31, none⟩ = some (.int .i64 (c : Int)) := by rw [← HC.out]; exact Blk.cell hU 31 rfl
  have d68 : w1.cell? ⟨b, 68, none⟩ = some (.int .i64 (x : Int)) := by rw [← Hx.out]; exact Blk.cell hU 68 rfl
  have g31 := Blk.frozen hU 31
  clear hT oT c31 hc0 b1
  go_wp2_with fail
  go_quiet (fail)
  rw [HO.out]
  have h5 : At ((w1.setCell ⟨b, 31, none⟩ (.int .i64 ((c : Int) + 1))).drewN nq) b (s.begun.setK { s.begun.k with clocks := c + 1 }) ds := Blk.below (Blk.set hU 31 _) (below_drewN (Below.refl _ _) _)
  have o5 := (oU.set 31 (.int .i64 ((c : Int) + 1))).drewN nq
  generalize ((w1.setCell ⟨b, 31, none⟩ (.int .i64 ((c : Int) + 1))).drewN nq) = W2 at h5 o5 ⊢
  clear d31 d68 g31 hU oU HO
  obtain ⟨o, Ho⟩ : ∃ o, Hid (tellBits x (c + 1) 4 = o) := ⟨_, rfl⟩
  rw [Ho.out]
  skip
  have e31 : W2.cell? ⟨b, 31, none⟩ = some (.int .i64 ((c : Int) + 1)) := Blk.cell h5 31 rfl
  have e35 : W2.cell? ⟨b, 35, none⟩ = some (.int .i64 (q : Int)) := by rw [← Hq.out]; exact Blk.cell h5 35 rfl
  have g31 := Blk.frozen h5 31
  have g35 := Blk.frozen h5 35
  by_cases ec : c + 1 = 2
  · have HE1 : Hid (s.tell = (s.begun.setK { s.begun.k with clocks := 0, count := q + 1 }, tellOut o 4)) := by
      show _ = _; rw [HE.out, if_pos ec, Ho.out, Hq.out]
    have ec1 : (((c : Int) + 1) == 2) = true := beq_iff_eq.2 (by omega)
    clear ec
    go_wp2
    go_ret
    rw [HE1.out]
    exact ⟨rfl, Blk.set (Blk.set h5 31 _) 35 _, (o5.set 31 _).set 35 _⟩
  · have HE1 : Hid (s.tell = (s.begun.setK { s.begun.k with clocks := c + 1 }, tellOut o 4)) := by
      show _ = _; rw [HE.out, if_neg ec, Ho.out]
    have ec1 : (((c : Int) + 1) == 2) = false := beq_eq_false_iff_ne.2 (by omega)
    clear ec
    go_wp2
    go_ret
    rw [HE1.out]
    exact ⟨rfl, h5, o5⟩

set_option maxRecDepth 100000 in
set_option maxHeartbeats 1600000 in
theorem tell_next_one (n b : Nat) (s : St) (ds : Value) (w : World) (h : At w b s ds) (hk : s.k.Ok n) (hz : 0 < s.k.clocks) (h1 : s.k.split.1 = 1) (h2 : s.k.split.2 = 8) (h3 : s.k.clocks < 8) (hn : n < 4611686018427387903) (hd : s.begun.k.said < 256) :
    Calls Tryz.prog 97 #[.pointer (some ⟨b, 0, none⟩)] w fun e w' => e = .returned (.int .i64 (s.tell.2 : Int)) ∧ At w' b s.tell.1 ds ∧ Only b w w' := by
  obtain ⟨c, Hc⟩ : ∃ c, Hid (s.k.clocks = c) := ⟨_, rfl⟩
  obtain ⟨x, Hx⟩ : ∃ x, Hid (s.begun.k.said = x) := ⟨_, rfl⟩
  obtain ⟨q, Hq⟩ : ∃ q, Hid (s.begun.k.count = q) := ⟨_, rfl⟩
  have hq : q < 4611686018427387903 := by rw [← Hq.out, begun_count]; have := hk.count; omega
  rw [Hx.out] at hd
  rw [Hc.out] at hz h3
  have c31 : w.cell? ⟨b, 31, none⟩ = some (.int .i64 (c : Int)) := by rw [← Hc.out]; exact Blk.cell h 31 rfl
  have H1 : Hid (s.begun.k.split.1 = 1) := by show _ = _; rw [begun_split]; exact h1
  have H2 : Hid (s.begun.k.split.2 = 8) := by show _ = _; rw [begun_split]; exact h2
  have HC : Hid (s.begun.k.clocks = c) := by show _ = _; rw [begun_clocks]; exact Hc.out
  have Hop : Hid (s.begun.k.op.Ok ∧ s.begun.k.part ≤ 5) := by rw [begun_op, begun_part]; exact ⟨hk.op, hk.part⟩
  have HE : Hid (s.tell = (s.begun.setK (if c + 1 = 8 then { s.begun.k with clocks := 0, count := s.begun.k.count + 1 } else { s.begun.k with clocks := c + 1 }), tellOut (tellBits x (c + 1) 1) 1)) := by
    show _ = _
    unfold St.tell Cmd.told
    rw [H2.out, HC.out, Hc.out, h1, ← Hx.out]
  have HO : Hid (bits .and .i64 ((x : Int) / 2 ^ (7 - c)) 1 = (tellBits x (c + 1) 1 : Int)) := by
    have hb := tell_bits x c 1 hd (by decide)
    show _ = _
    rw [← hb]
    congr 4; omega
  clear h1 h2
  have hc0 : ((c : Int) == 0) = false := beq_eq_false_iff_ne.2 (by omega)
  have HB : Hid (s.begun = s) := by show _ = _; unfold St.begun; rw [if_neg (by rw [Hc.out]; omega)]
  have hT : At w b s.begun ds := by rw [HB.out]; exact h
  have oT : Only b w w := Only.refl b w
  clear HB
  go_enter Tryz.func97, Tryz.ntmps97
  go_wp2_with fail
  refine (split_any b 24 s.begun.k _ (cmd_at hT) Hop.out.1 Hop.out.2).mono ?_
  rintro e w1 ⟨rfl, b1⟩
  rw [H1.out, H2.out]
  have hU : At w1 b s.begun ds := Blk.below hT b1
  have oU := oT.below b1
  have d31 : w1.cell? ⟨b, 31, none⟩ = some (.int .i64 (c : Int)) := by rw [← HC.out]; exact Blk.cell hU 31 rfl
  have d68 : w1.cell? ⟨b, 68, none⟩ = some (.int .i64 (x : Int)) := by rw [← Hx.out]; exact Blk.cell hU 68 rfl
  have g31 := Blk.frozen hU 31
  clear hT oT c31 hc0 b1
  go_wp2_with fail
  go_quiet (fail)
  rw [HO.out]
  have h5 : At ((w1.setCell ⟨b, 31, none⟩ (.int .i64 ((c : Int) + 1))).drewN nq) b (s.begun.setK { s.begun.k with clocks := c + 1 }) ds := Blk.below (Blk.set hU 31 _) (below_drewN (Below.refl _ _) _)
  have o5 := (oU.set 31 (.int .i64 ((c : Int) + 1))).drewN nq
  generalize ((w1.setCell ⟨b, 31, none⟩ (.int .i64 ((c : Int) + 1))).drewN nq) = W2 at h5 o5 ⊢
  clear d31 d68 g31 hU oU HO
  obtain ⟨o, Ho⟩ : ∃ o, Hid (tellBits x (c + 1) 1 = o) := ⟨_, rfl⟩
  rw [Ho.out]
  have ho : o < 2 := by rw [← Ho.out]; exact tell_bits_lt _ _
  have e31 : W2.cell? ⟨b, 31, none⟩ = some (.int .i64 ((c : Int) + 1)) := Blk.cell h5 31 rfl
  have e35 : W2.cell? ⟨b, 35, none⟩ = some (.int .i64 (q : Int)) := by rw [← Hq.out]; exact Blk.cell h5 35 rfl
  have g31 := Blk.frozen h5 31
  have g35 := Blk.frozen h5 35
  by_cases ec : c + 1 = 8
  · have HE1 : Hid (s.tell = (s.begun.setK { s.begun.k with clocks := 0, count := q + 1 }, tellOut o 1)) := by
      show _ = _; rw [HE.out, if_pos ec, Ho.out, Hq.out]
    have ec1 : (((c : Int) + 1) == 8) = true := beq_iff_eq.2 (by omega)
    clear ec
    go_wp2
    go_ret
    rw [HE1.out]
    exact ⟨ret_int (or_13 o ho), Blk.set (Blk.set h5 31 _) 35 _, (o5.set 31 _).set 35 _⟩
  · have HE1 : Hid (s.tell = (s.begun.setK { s.begun.k with clocks := c + 1 }, tellOut o 1)) := by
      show _ = _; rw [HE.out, if_neg ec, Ho.out]
    have ec1 : (((c : Int) + 1) == 8) = false := beq_eq_false_iff_ne.2 (by omega)
    clear ec
    go_wp2
    go_ret
    rw [HE1.out]
    exact ⟨ret_int (or_13 o ho), h5, o5⟩

set_option maxRecDepth 100000 in
set_option maxHeartbeats 1600000 in
theorem tell_next_four (n b : Nat) (s : St) (ds : Value) (w : World) (h : At w b s ds) (hk : s.k.Ok n) (hz : 0 < s.k.clocks) (h1 : s.k.split.1 = 4) (h2 : s.k.split.2 = 2) (h3 : s.k.clocks < 2) (hn : n < 4611686018427387903) (hd : s.begun.k.said < 256) :
    Calls Tryz.prog 97 #[.pointer (some ⟨b, 0, none⟩)] w fun e w' => e = .returned (.int .i64 (s.tell.2 : Int)) ∧ At w' b s.tell.1 ds ∧ Only b w w' := by
  obtain ⟨c, Hc⟩ : ∃ c, Hid (s.k.clocks = c) := ⟨_, rfl⟩
  obtain ⟨x, Hx⟩ : ∃ x, Hid (s.begun.k.said = x) := ⟨_, rfl⟩
  obtain ⟨q, Hq⟩ : ∃ q, Hid (s.begun.k.count = q) := ⟨_, rfl⟩
  have hq : q < 4611686018427387903 := by rw [← Hq.out, begun_count]; have := hk.count; omega
  rw [Hx.out] at hd
  rw [Hc.out] at hz h3
  have c31 : w.cell? ⟨b, 31, none⟩ = some (.int .i64 (c : Int)) := by rw [← Hc.out]; exact Blk.cell h 31 rfl
  have H1 : Hid (s.begun.k.split.1 = 4) := by show _ = _; rw [begun_split]; exact h1
  have H2 : Hid (s.begun.k.split.2 = 2) := by show _ = _; rw [begun_split]; exact h2
  have HC : Hid (s.begun.k.clocks = c) := by show _ = _; rw [begun_clocks]; exact Hc.out
  have Hop : Hid (s.begun.k.op.Ok ∧ s.begun.k.part ≤ 5) := by rw [begun_op, begun_part]; exact ⟨hk.op, hk.part⟩
  have HE : Hid (s.tell = (s.begun.setK (if c + 1 = 2 then { s.begun.k with clocks := 0, count := s.begun.k.count + 1 } else { s.begun.k with clocks := c + 1 }), tellOut (tellBits x (c + 1) 4) 4)) := by
    show _ = _
    unfold St.tell Cmd.told
    rw [H2.out, HC.out, Hc.out, h1, ← Hx.out]
  have HO : Hid (bits .and .i64 ((x : Int) / 2 ^ (8 - (c + 1) * 4)) 15 = (tellBits x (c + 1) 4 : Int)) := by
    have hb := tell_bits x c 4 hd (by decide)
    show _ = _
    rw [← hb]
    rw [show 8 - (c + 1) * 4 = 8 - 4 - c * 4 by omega]; rfl
  clear h1 h2
  have hc0 : ((c : Int) == 0) = false := beq_eq_false_iff_ne.2 (by omega)
  have HB : Hid (s.begun = s) := by show _ = _; unfold St.begun; rw [if_neg (by rw [Hc.out]; omega)]
  have hT : At w b s.begun ds := by rw [HB.out]; exact h
  have oT : Only b w w := Only.refl b w
  clear HB
  go_enter Tryz.func97, Tryz.ntmps97
  go_wp2_with fail
  refine (split_any b 24 s.begun.k _ (cmd_at hT) Hop.out.1 Hop.out.2).mono ?_
  rintro e w1 ⟨rfl, b1⟩
  rw [H1.out, H2.out]
  have hU : At w1 b s.begun ds := Blk.below hT b1
  have oU := oT.below b1
  have d31 : w1.cell? ⟨b, 31, none⟩ = some (.int .i64 (c : Int)) := by rw [← HC.out]; exact Blk.cell hU 31 rfl
  have d68 : w1.cell? ⟨b, 68, none⟩ = some (.int .i64 (x : Int)) := by rw [← Hx.out]; exact Blk.cell hU 68 rfl
  have g31 := Blk.frozen hU 31
  clear hT oT c31 hc0 b1
  go_wp2_with fail
  go_quiet (fail)
  rw [HO.out]
  have h5 : At ((w1.setCell ⟨b, 31, none⟩ (.int .i64 ((c : Int) + 1))).drewN nq) b (s.begun.setK { s.begun.k with clocks := c + 1 }) ds := Blk.below (Blk.set hU 31 _) (below_drewN (Below.refl _ _) _)
  have o5 := (oU.set 31 (.int .i64 ((c : Int) + 1))).drewN nq
  generalize ((w1.setCell ⟨b, 31, none⟩ (.int .i64 ((c : Int) + 1))).drewN nq) = W2 at h5 o5 ⊢
  clear d31 d68 g31 hU oU HO
  obtain ⟨o, Ho⟩ : ∃ o, Hid (tellBits x (c + 1) 4 = o) := ⟨_, rfl⟩
  rw [Ho.out]
  skip
  have e31 : W2.cell? ⟨b, 31, none⟩ = some (.int .i64 ((c : Int) + 1)) := Blk.cell h5 31 rfl
  have e35 : W2.cell? ⟨b, 35, none⟩ = some (.int .i64 (q : Int)) := by rw [← Hq.out]; exact Blk.cell h5 35 rfl
  have g31 := Blk.frozen h5 31
  have g35 := Blk.frozen h5 35
  by_cases ec : c + 1 = 2
  · have HE1 : Hid (s.tell = (s.begun.setK { s.begun.k with clocks := 0, count := q + 1 }, tellOut o 4)) := by
      show _ = _; rw [HE.out, if_pos ec, Ho.out, Hq.out]
    have ec1 : (((c : Int) + 1) == 2) = true := beq_iff_eq.2 (by omega)
    clear ec
    go_wp2
    go_ret
    rw [HE1.out]
    exact ⟨rfl, Blk.set (Blk.set h5 31 _) 35 _, (o5.set 31 _).set 35 _⟩
  · have HE1 : Hid (s.tell = (s.begun.setK { s.begun.k with clocks := c + 1 }, tellOut o 4)) := by
      show _ = _; rw [HE.out, if_neg ec, Ho.out]
    have ec1 : (((c : Int) + 1) == 2) = false := beq_eq_false_iff_ne.2 (by omega)
    clear ec
    go_wp2
    go_ret
    rw [HE1.out]
    exact ⟨rfl, h5, o5⟩

/-- What a command tells: on one lane or on four. -/
theorem lanes_of {n : Nat} {k : Cmd} (hk : k.Ok n) (hp : k.part = 4) : k.split.1 = 1 ∧ k.split.2 = 8 ∨ k.split.1 = 4 ∧ k.split.2 = 2 := by
  have h1 := (hk.data hp).2.1
  have e1 : k.split = over k.op.data 8 := by simp [Cmd.split, splitO, hp]
  rcases hk.op.data with e | e | e
  · rw [e1, e] at h1; exact absurd h1 (by decide)
  · left; rw [e1, e]; exact ⟨rfl, rfl⟩
  · right; rw [e1, e]; exact ⟨rfl, rfl⟩
theorem around_lt (k : Cmd) (t : ByteArray) : k.around t < 256 := (ub t _).toNat_lt
theorem bitIf_le (b : Bool) (n : Nat) : bitIf b n ≤ n := by unfold bitIf; split <;> omega
theorem first_lt (s : St) : s.first < 256 := by
  have h1 := bitIf_le s.busy 1
  have h2 := bitIf_le s.en 2
  have h3 := bitIf_le s.prot 4
  unfold St.first; omega
theorem second_lt (s : St) : s.second < 256 := by
  have h1 := bitIf_le s.quad 2
  have h2 := bitIf_le s.sus 128
  unfold St.second; omega
theorem dataByte_lt (s : St) : s.dataByte < 256 := by
  unfold St.dataByte
  repeat' split
  all_goals first | exact around_lt _ _ | exact first_lt _ | exact second_lt _
theorem begun_said {n : Nat} {s : St} (hk : s.k.Ok n) : s.begun.k.said < 256 := by
  unfold St.begun
  split
  · exact dataByte_lt s
  · exact hk.said
theorem tell_any (n b : Nat) (s : St) (ds : Value) (w : World) (h : At w b s ds) (hA : s.A.size = 4096) (hk : s.k.Ok n) (hp : s.k.part = 4) (hn : n < 4611686018427387903) :
    Calls Tryz.prog 97 #[.pointer (some ⟨b, 0, none⟩)] w fun e w' => e = .returned (.int .i64 (s.tell.2 : Int)) ∧ At w' b s.tell.1 ds ∧ Only b w w' := by
  have hd := begun_said hk
  have hlt := (hk.data hp).1
  rcases lanes_of hk hp with ⟨l1, l2⟩ | ⟨l1, l2⟩
  · by_cases hz : s.k.clocks = 0
    · exact tell_first_one n b s ds w h hA hk hz l1 l2 (by omega) hn hd
    · exact tell_next_one n b s ds w h hk (by omega) l1 l2 (by omega) hn hd
  · by_cases hz : s.k.clocks = 0
    · exact tell_first_four n b s ds w h hA hk hz l1 l2 (by omega) hn hd
    · exact tell_next_four n b s ds w h hk (by omega) l1 l2 (by omega) hn hd
end Go.Proofs.YtjhjghakfedeeaaGreat
