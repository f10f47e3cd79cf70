/-
  A clock: the document's chip, by contracts. Conditions: the chip lies in memory as told, and is one that may be.
-/
import Derived.Test.YtlemmabgbaleiaaGreatRIn
import Derived.Test.YtlemmabgbaleiaaGreatRPart
import Derived.Test.YtlemmabgbaleiaaGreatRCommand
import Derived.Test.YtlemmabgbaleiaaGreatROk2
namespace Go.Proofs.YtlemmabgbaleiaaGreat
open Go.RowKit Plain
set_option linter.unusedVariables false

theorem part1_same (r : RSt) (x : Nat) (h : r.part ≠ 4) (h4 : r.part ≤ 4) (h1 : 1 ≤ r.part) : (r.part1 x).2 = 15 ∧ (r.part1 x).1.wiped = r.wiped ∧ (r.part1 x).1.durs = r.durs ∧ (r.part1 x).1.inn = r.inn := by
  unfold RSt.part1
  by_cases p1 : r.part = 1
  · rw [if_pos p1]; refine ⟨rfl, ?_, ?_, ?_⟩ <;> (show _ = _; dsimp only; split <;> rfl)
  · rw [if_neg p1]
    by_cases p2 : r.part = 2
    · rw [if_pos p2]; refine ⟨rfl, ?_, ?_, ?_⟩ <;> (show _ = _; dsimp only; split <;> rfl)
    · rw [if_neg p2]
      by_cases p3 : r.part = 3
      · rw [if_pos p3]; refine ⟨rfl, ?_, ?_, ?_⟩ <;> (show _ = _; dsimp only; split <;> rfl)
      · omega
theorem part1_data (r : RSt) (x : Nat) (h : r.part = 4) : r.part1 x = RSt.data { r with clocks := r.clocks + 1 } x := by
  unfold RSt.part1; rw [if_neg (by omega), if_neg (by omega), if_neg (by omega)]
theorem data_same (r : RSt) (x : Nat) : (r.data x).1.wiped = r.wiped ∧ (r.data x).1.durs = r.durs := by
  unfold RSt.data RSt.began
  repeat' split
  all_goals exact ⟨rfl, rfl⟩
theorem data_inn (r : RSt) (x : Nat) (h : ¬ (r.op.data ≠ 0 ∧ r.op.inn = true ∧ r.bits + 1 = 8)) : (r.data x).1.inn = r.inn := by
  unfold RSt.data
  split
  · rfl
  · rename_i hd
    split
    · rename_i hi
      dsimp only
      split
      · rename_i h8; exact absurd ⟨hd, hi, h8⟩ h
      · rfl
    · unfold RSt.began; split <;> rfl
theorem x_small {n : Nat} {r : RSt} (h : r.Ok n) : r.x < 16777216 := Nat.lt_of_lt_of_le h.x (Nat.le_trans (Nat.pow_le_pow_right (by decide) (Nat.le_of_lt h.bits)) (by decide))

/-- Data, whichever: the whole chip. -/
theorem rdata_run (F : Nat → Prop) (n b : Nat) (u w : World) (r : RSt) (wv dv iv : Value) (c x : Nat) (hA : RAt w b { r with clocks := c } wv dv iv) (hR : Rows3 F u w b r.wiped r.durs r.inn wv dv iv) (ht : Turns F u w) (hm : Own F u b) (hok : r.Ok n) (hc : c ≤ n + 1) (hk : r.known = true) (hp : r.part = 4) (hn : n < 1000000) :
    Calls Tryz.prog 117 #[.pointer (some ⟨b, 0, none⟩), .int .i64 (x : Int)] w fun e w' => e = .returned (.int .i64 ((RSt.data { r with clocks := c } x).2 : Int)) ∧ RRun F (n + 1) b u w' (RSt.data { r with clocks := c } x).1 := by
  have hO := ok_data hok hk hp x c hc
  have h8 := hok.bits8 (.inr hp)
  have hXs := x_small hok
  have hd := hok.op.data
  obtain ⟨s1, s2⟩ := data_same { r with clocks := c } x
  have fin : ∀ (w' : World), RAt w' b (RSt.data { r with clocks := c } x).1 wv dv iv → Only b w w' → (RSt.data { r with clocks := c } x).1.inn = r.inn → RRun F (n + 1) b u w' (RSt.data { r with clocks := c } x).1 := fun w' h1 h2 h3 =>
    ⟨ht.only h2 hm, hm, hO, wv, dv, iv, h1, by rw [s1, s2, h3]; exact hR.only h2⟩
  by_cases d0 : r.op.data = 0
  · exact (rdata_none b _ wv dv iv x w hA d0).mono fun e w' ⟨h1, h2, h3⟩ => ⟨h1, fin w' h2 h3 (data_inn _ x (fun hh => hh.1 d0))⟩
  · cases hi : r.op.inn with
    | true =>
      have d1 := hok.op.inn hi
      by_cases e8 : r.bits + 1 = 8
      · refine (rdata_full F u b _ wv dv iv x w hA d1 hi e8 hXs hR ht hm (by have := hok.count; show r.inn.length ≤ _; omega)).mono ?_
        rintro e w' ⟨iv', h1, h2, h3, h4⟩
        refine ⟨h1, h4, hm, hO, wv, dv, iv', h2, ?_⟩
        have e3 : (RSt.data { r with clocks := c } x).1.inn = r.inn ++ [r.x * 2 + x % 2] := by unfold RSt.data; rw [if_neg d0, if_pos hi]; dsimp only; rw [if_pos e8]
        rw [s1, s2, e3]
        exact h3
      · exact (rdata_more b _ wv dv iv x w hA d1 hi (by show r.bits + 1 < 8; omega) hXs).mono fun e w' ⟨h1, h2, h3⟩ => ⟨h1, fin w' h2 h3 (data_inn _ x (fun hh => e8 hh.2.2))⟩
    | false =>
      have ni : ¬ (r.op.data ≠ 0 ∧ r.op.inn = true ∧ r.bits + 1 = 8) := fun hh => by rw [hi] at hh; exact absurd hh.2.1 (by decide)
      have hm0 := hok.outs hk hp hi d0
      have hbg : RSt.Ok n { r with clocks := 0 } := ⟨hok.A, hok.wiped, hok.durs, hok.kind, hok.left, hok.going, hok.wat, hok.wdata, hok.op, hok.opm, hok.x, hok.x0, hok.bits, hok.bits8, hok.outs, hok.addr1, hok.addr2, hok.part, hok.begun, hok.adr, hok.mode, hok.inn, hok.count, Nat.zero_le _, hok.sent, hok.out⟩
      have ho : (RSt.began { r with clocks := c }).out < 256 := by unfold RSt.began; split; exact byteOut_lt _; exact hok.out
      rcases hd with d | d | d
      · exact absurd d d0
      · by_cases b0 : r.bits = 0
        · exact (rdata_one_first n b _ wv dv iv x w hA d hi b0 (by show r.bits + 1 ≤ 8; omega) hok.A hok.adr hok.sent (by omega) hok.op.byte ho).mono fun e w' ⟨h1, h2, h3⟩ => ⟨h1, fin w' h2 h3 (data_inn _ x ni)⟩
        · exact (rdata_one n b _ wv dv iv x w hA d hi b0 (by show r.bits + 1 ≤ 8; omega) hok.A hok.adr hok.sent (by omega) hok.op.byte ho).mono fun e w' ⟨h1, h2, h3⟩ => ⟨h1, fin w' h2 h3 (data_inn _ x ni)⟩
      · rw [d] at hm0
        by_cases b0 : r.bits = 0
        · exact (rdata_four_first n b _ wv dv iv x w hA d hi b0 (by show r.bits + 4 ≤ 8; omega) hok.A hok.adr hok.sent (by omega) hok.op.byte ho).mono fun e w' ⟨h1, h2, h3⟩ => ⟨h1, fin w' h2 h3 (data_inn _ x ni)⟩
        · exact (rdata_four n b _ wv dv iv x w hA d hi b0 (by show r.bits + 4 ≤ 8; omega) hok.A hok.adr hok.sent (by omega) hok.op.byte ho).mono fun e w' ⟨h1, h2, h3⟩ => ⟨h1, fin w' h2 h3 (data_inn _ x ni)⟩

set_option maxRecDepth 100000 in
set_option maxHeartbeats 2000000 in
theorem rpart_4 (F : Nat → Prop) (n b : Nat) (u w : World) (r : RSt) (x : Nat) (h : RRun F n b u w r) (hk : r.known = true) (hp : r.part = 4) (hn : n < 1000000) :
    Calls Tryz.prog 105 #[.pointer (some ⟨b, 0, none⟩), .int .i64 (x : Int)] w fun e w' => e = .returned (.int .i64 ((r.part1 x).2 : Int)) ∧ RRun F (n + 1) b u w' (r.part1 x).1 := by
  obtain ⟨wv, dv, iv, hA, hR⟩ := h.lies
  have hc := h.ok.clocks
  have c28 : w.cell? ⟨b, 28, none⟩ = some (.int .i64 (r.clocks : Int)) := Blk.cell hA 28 rfl
  have f28 := Blk.frozen hA 28
  have c23 : w.cell? ⟨b, 23, none⟩ = some (.int .i64 4) := by rw [Blk.cell hA 23 rfl, hp]; rfl
  have h1 : RAt (w.setCell ⟨b, 28, none⟩ (.int .i64 ((r.clocks : Int) + 1))) b { r with clocks := r.clocks + 1 } wv dv iv := Blk.set hA 28 _
  have o1 : Only b w (w.setCell ⟨b, 28, none⟩ (.int .i64 ((r.clocks : Int) + 1))) := (Only.refl b w).set 28 _
  have HD := rdata_run F n b u _ r wv dv iv (r.clocks + 1) x h1 (hR.only o1) (h.turns.only o1 h.mine) h.mine h.ok (by omega) hk hp hn
  have HE : Hid (r.part1 x = RSt.data { r with clocks := r.clocks + 1 } x) := part1_data r x hp
  obtain ⟨q, Hq⟩ := hid_is (RSt.data { r with clocks := r.clocks + 1 } x)
  rw [Hq.out] at HD HE
  rw [HE.out]
  have HDD : Hid (Calls Tryz.prog 117 #[.pointer (some ⟨b, 0, none⟩), .int .i64 (x : Int)] (w.setCell ⟨b, 28, none⟩ (.int .i64 ((r.clocks : Int) + 1))) fun e w' => e = .returned (.int .i64 (q.2 : Int)) ∧ RRun F (n + 1) b u w' q.1) := HD
  clear HD hA hR h h1 o1 HE Hq hk
  go_enter Tryz.func105, Tryz.ntmps105
  go_wp2_with fail
  refine HDD.out.mono ?_
  rintro e w2 ⟨rfl, h2⟩
  go_wp2
  go_ret
  exact ⟨rfl, h2⟩
theorem rpart_run (F : Nat → Prop) (n b : Nat) (u w : World) (r : RSt) (x : Nat) (h : RRun F n b u w r) (hk : r.known = true) (hx : x < 16) (hn : n < 1000000) :
    Calls Tryz.prog 105 #[.pointer (some ⟨b, 0, none⟩), .int .i64 (x : Int)] w fun e w' => e = .returned (.int .i64 ((r.part1 x).2 : Int)) ∧ RRun F (n + 1) b u w' (r.part1 x).1 := by
  by_cases p4 : r.part = 4
  · exact rpart_4 F n b u w r x h hk p4 hn
  · have hp := h.ok.part
    have h1 := h.ok.begun hk
    obtain ⟨e1, e2, e3, e4⟩ := part1_same r x p4 hp h1
    have hO := ok_part1 h.ok hk x
    have hc := h.ok.clocks
    have hb := h.ok.bits
    have hX := x_small h.ok
    obtain ⟨wv, dv, iv, hA, hR⟩ := h.lies
    rw [e1]
    have fin : ∀ (e : Ending) (w' : World), e = .returned (.int .i64 15) ∧ RAt w' b (r.part1 x).1 wv dv iv ∧ Only b w w' → e = .returned (.int .i64 ((15 : Nat) : Int)) ∧ RRun F (n + 1) b u w' (r.part1 x).1 := fun e w' ⟨q1, q2, q3⟩ =>
      ⟨q1, h.turns.only q3 h.mine, h.mine, hO, wv, dv, iv, q2, by rw [e2, e3, e4]; exact hR.only q3⟩
    rcases (show r.part = 1 ∨ r.part = 2 ∨ r.part = 3 by omega) with p | p | p
    · rcases (h.ok.addr1 hk p).1 with l | l
      · exact (rpart_1a n b r wv dv iv x w hA p l hx hX hb hc (by omega)).mono fin
      · exact (rpart_1b n b r wv dv iv x w hA p l hx hX hb hc (by omega)).mono fin
    · exact (rpart_2 n b r wv dv iv x w hA p (h.ok.addr2 hk p).1 hx hX hb hc (by omega)).mono fin
    · exact (rpart_3 n b r wv dv iv x w hA p hc (by omega)).mono fin
end Go.Proofs.YtlemmabgbaleiaaGreat
