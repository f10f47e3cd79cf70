/-
  The document's chip stays one that may be, whatever is called. No conditions but those of each statement. The document's chip stays one that may be behind a clock of a command. No conditions but those of each statement.
-/
import Derived.Test.YtlemmabgbaleiaaGreatRLayout
import Derived.Test.YtlemmabgbaleiaaGreatTurn
/-! The document's chip stays one that may be, whatever is called. No conditions but those of each statement. -/
section
namespace Go.Proofs.YtlemmabgbaleiaaGreat
open Go.RowKit Plain
set_option linter.unusedVariables false

theorem opOf_mode4 (x : Nat) : (opOf x).mode = true → (opOf x).addr = 4 := by
  intro h
  have e := (opOf_is x).2.2.1
  rw [h] at e
  have hx : (x : Int) = 235 := by unfold opM at e; simpa using e
  obtain rfl : x = 235 := by omega
  rfl
theorem ub_lt (t : ByteArray) (i : Nat) : (ub t i).toNat < 256 := (ub t i).toNat_lt
theorem RSt.Ok.more {n m : Nat} {r : RSt} (h : r.Ok n) (hm : n ≤ m) : r.Ok m := ⟨h.A, h.wiped, h.durs, h.kind, h.left, h.going, h.wat, h.wdata, h.op, h.opm, h.x, h.x0, h.bits, h.bits8, h.outs, h.addr1, h.addr2, h.part, h.begun, h.adr, h.mode, h.inn, Nat.le_trans h.count hm, Nat.le_trans h.clocks hm, Nat.le_trans h.sent hm, h.out⟩
theorem newR_ok (a : ByteArray) (ha : a.size = 4096) (n : Nat) : (newR a).Ok n :=
  ⟨ha, rfl, ⟨show 0 ≤ 16 by decide, fun d hd => absurd hd (by simp [newR])⟩, .inl rfl, Nat.zero_le _, fun h => absurd rfl h, show 0 < 4096 by decide, fun h => absurd h (show ¬ (0 = 2) by decide), noOp_ok, fun h => absurd h (show ¬ (false = true) by decide), show 0 < 2 ^ 0 by decide, fun h => absurd h (show ¬ (false = true) by decide), show 0 < 24 by decide, fun _ => show 0 < 8 by decide, fun h => absurd h (show ¬ (false = true) by decide), fun h => absurd h (show ¬ (false = true) by decide), fun h => absurd h (show ¬ (false = true) by decide), show 0 ≤ 4 by decide, fun h => absurd h (show ¬ (false = true) by decide), show 0 < 4096 by decide, show 0 < 256 by decide, fun x hx => absurd hx (by simp [newR]), Nat.zero_le _, Nat.zero_le _, Nat.zero_le _, show 0 < 256 by decide⟩
theorem goOn_part (o : Op) (p : Nat) : 1 ≤ goPart o p := by
  unfold goPart
  repeat' split
  all_goals omega
theorem goOn_part4 (o : Op) (p : Nat) : goPart o p ≤ 4 := by
  unfold goPart
  repeat' split
  all_goals omega
theorem goOn_addr {o : Op} {p : Nat} (e : goPart o p = 1) (h : o.Ok) : o.addr = 1 ∨ o.addr = 4 := by
  have h0 : 0 < o.addr := by
    unfold goPart at e
    split at e
    · rename_i hh; exact hh.2
    · split at e
      · omega
      · split at e <;> omega
  have := h.addr
  omega
theorem goOn_mode {o : Op} {p : Nat} (e : goPart o p = 2) : o.mode = true := by
  unfold goPart at e
  split at e
  · omega
  · split at e
    · rename_i hh; exact hh.2
    · split at e <;> omega
theorem ok_goOn {n p : Nat} {r : RSt} (h : r.Ok n) (hp : p ≤ 3) : (r.goOn p).Ok n :=
  ⟨h.A, h.wiped, h.durs, h.kind, h.left, h.going, h.wat, h.wdata, h.op, h.opm, (show 0 < 2 ^ 0 by decide), (fun _ _ _ => rfl), (show 0 < 24 by decide), (fun _ => show 0 < 8 by decide), (fun _ _ _ _ => Nat.zero_mod _), (fun _ e => ⟨goOn_addr e h.op, Nat.zero_mod _⟩), (fun _ e => ⟨h.opm (goOn_mode e), rfl, show 0 < 8 by decide⟩), goOn_part4 _ _, (fun _ => goOn_part _ _), h.adr, h.mode, h.inn, h.count, (Nat.zero_le _), h.sent, h.out⟩
theorem goOn_any (r : RSt) (p q b x : Nat) (k : Bool) : RSt.goOn { r with part := q, bits := b, x := x } p = RSt.goOn r p := rfl
theorem ok_turn {n p : Nat} {r : RSt} (h : RSt.Ok n { r with known := false, part := 0, bits := 0, x := 0 }) (hp : p ≤ 3) : (r.goOn p).Ok n := by
  have h1 := ok_goOn h hp
  exact ⟨h1.A, h1.wiped, h1.durs, h1.kind, h1.left, h1.going, h1.wat, h1.wdata, h1.op, h1.opm, h1.x, (fun _ _ _ => rfl), h1.bits, (fun _ => show 0 < 8 by decide), (fun _ _ _ _ => Nat.zero_mod _), (fun _ e => ⟨goOn_addr e h1.op, Nat.zero_mod _⟩), (fun _ e => ⟨h1.opm (goOn_mode e), rfl, show 0 < 8 by decide⟩), h1.part, (fun _ => goOn_part _ _), h1.adr, h1.mode, h1.inn, h1.count, h1.clocks, h1.sent, h1.out⟩
theorem ok_command {n : Nat} {r : RSt} (h : r.Ok n) (b : Nat) (t : Bool) : (RSt.goOn { r with known := true, op := opOf b, taken := t } 0).Ok n :=
  ok_turn (r := { r with known := true, op := opOf b, taken := t }) ⟨h.A, h.wiped, h.durs, h.kind, h.left, h.going, h.wat, h.wdata, opOf_ok b, opOf_mode4 b, (show 0 < 2 ^ 0 by decide), (fun e => absurd e (show ¬ (false = true) by decide)), (show 0 < 24 by decide), (fun _ => show 0 < 8 by decide), (fun e => absurd e (show ¬ (false = true) by decide)), (fun e => absurd e (show ¬ (false = true) by decide)), (fun e => absurd e (show ¬ (false = true) by decide)), (show 0 ≤ 4 by decide), (fun e => absurd e (show ¬ (false = true) by decide)), h.adr, h.mode, h.inn, h.count, h.clocks, h.sent, h.out⟩ (by omega)
theorem ok_fresh {n : Nat} {r : RSt} (h : r.Ok n) : r.fresh.Ok n :=
  ⟨h.A, h.wiped, h.durs, h.kind, h.left, h.going, h.wat, h.wdata, noOp_ok, (fun h => absurd h (show ¬ (false = true) by decide)), (by show 0 < 2 ^ 0; decide), (fun e => absurd e (by show ¬ (false = true); decide)), (by show 0 < 24; decide), (fun _ => by show 0 < 8; decide), (fun e => absurd e (by show ¬ (false = true); decide)), (fun e => absurd e (by show ¬ (false = true); decide)), (fun e => absurd e (by show ¬ (false = true); decide)), (by show 0 ≤ 4; decide), (fun e => absurd e (by show ¬ (false = true); decide)), h.adr, h.mode, (fun x hx => absurd hx (by simp [RSt.fresh])), (Nat.zero_le _), (Nat.zero_le _), (Nat.zero_le _), h.out⟩
theorem ok_select {n : Nat} {r : RSt} (h : r.Ok n) : r.select.Ok n := by
  unfold RSt.select
  split
  · exact ok_command (ok_fresh h) 235 _
  · exact ok_fresh h
theorem prog_sz (a d m : ByteArray) (k : Nat) : (prog a k d m).size = a.size := tab_size _ _
theorem erase_sz (a m : ByteArray) (k : Nat) : (erase a k m).size = a.size := tab_size _ _
theorem ok_countDown {n : Nat} {r : RSt} (h : r.Ok n) : r.countDown.Ok n := by
  unfold RSt.countDown
  split
  · rename_i hb
    have hk : r.kind ≠ 0 := by unfold RSt.busy at hb; intro e; rw [e] at hb; simp at hb
    have hl := h.going hk
    split
    · unfold RSt.done
      exact ⟨(by show (if r.kind = 2 then _ else _ : ByteArray).size = 4096; split; rw [prog_sz]; exact h.A; rw [erase_sz]; exact h.A), h.wiped, h.durs, (.inl rfl), (by have := h.left; show r.left - 1 ≤ 400; omega), (fun e => absurd rfl e), h.wat, (fun e => absurd e (by show ¬ (0 = 2); decide)), h.op, h.opm, h.x, h.x0, h.bits, h.bits8, h.outs, h.addr1, h.addr2, h.part, h.begun, h.adr, h.mode, h.inn, h.count, h.clocks, h.sent, h.out⟩
    · rename_i hz
      exact ⟨h.A, h.wiped, h.durs, h.kind, (by have := h.left; show r.left - 1 ≤ 400; omega), (fun _ => by show 1 ≤ r.left - 1; omega), h.wat, h.wdata, h.op, h.opm, h.x, h.x0, h.bits, h.bits8, h.outs, h.addr1, h.addr2, h.part, h.begun, h.adr, h.mode, h.inn, h.count, h.clocks, h.sent, h.out⟩
  · exact h
end Go.Proofs.YtlemmabgbaleiaaGreat
end

/-! The document's chip stays one that may be behind a clock of a command. No conditions but those of each statement. -/
section
namespace Go.Proofs.YtlemmabgbaleiaaGreat
open Go.RowKit Plain
set_option linter.unusedVariables false

theorem shl_lt {a B l x : Nat} (h : a < 2 ^ B) : a * 2 ^ l + x % 2 ^ l < 2 ^ (B + l) := by
  have h1 := Nat.mod_lt x (Nat.two_pow_pos l)
  have h2 : (a + 1) * 2 ^ l ≤ 2 ^ B * 2 ^ l := Nat.mul_le_mul_right _ h
  rw [Nat.pow_add]
  rw [Nat.add_mul, Nat.one_mul] at h2
  omega
theorem rfirst_lt (r : RSt) : r.first < 256 := by
  unfold RSt.first bitIf
  repeat' split
  all_goals omega
theorem rsecond_lt (r : RSt) : r.second < 256 := by
  unfold RSt.second bitIf
  repeat' split
  all_goals omega
theorem byteOut_lt (r : RSt) : r.byteOut < 256 := by
  unfold RSt.byteOut
  repeat' split
  all_goals first | exact ub_lt _ _ | exact rfirst_lt r | exact rsecond_lt r
theorem began_lt {n : Nat} {r : RSt} (h : r.Ok n) : r.began.out < 256 := by
  unfold RSt.began
  split
  · exact byteOut_lt r
  · exact h.out
theorem ok_data {n : Nat} {r : RSt} (h : r.Ok n) (hk : r.known = true) (hp : r.part = 4) (x c : Nat) (hc : c ≤ n + 1) : (RSt.data { r with clocks := c } x).1.Ok (n + 1) := by
  unfold RSt.data
  have h8 : r.bits < 8 := h.bits8 (.inr hp)
  split
  · exact ⟨h.A, h.wiped, h.durs, h.kind, h.left, h.going, h.wat, h.wdata, h.op, h.opm, h.x, h.x0, h.bits, h.bits8, h.outs, h.addr1, h.addr2, h.part, h.begun, h.adr, h.mode, h.inn, (Nat.le_succ_of_le h.count), hc, (Nat.le_succ_of_le h.sent), h.out⟩
  · rename_i hd
    replace hd : ¬ r.op.data = 0 := hd
    split
    · rename_i hi
      have hX : r.x * 2 + x % 2 < 2 ^ (r.bits + 1) := by have := shl_lt (l := 1) (x := x) h.x; simpa using this
      show RSt.Ok (n + 1) (if r.bits + 1 = 8 then _ else _ : RSt)
      split
      · rename_i e8
        rw [e8] at hX
        exact ⟨h.A, h.wiped, h.durs, h.kind, h.left, h.going, h.wat, h.wdata, h.op, h.opm, (show 0 < 2 ^ 0 by decide), (fun _ _ _ => rfl), (show 0 < 24 by decide), (fun _ => show 0 < 8 by decide), (fun _ _ _ _ => Nat.zero_mod _), (fun _ e => absurd (hp.symm.trans e) (by decide)), (fun _ e => absurd (hp.symm.trans e) (by decide)), h.part, h.begun, h.adr, h.mode, (fun y hy => by rcases List.mem_append.1 hy with hy | hy; exact h.inn y hy; rw [List.mem_singleton.1 hy]; exact hX), (by show (r.inn ++ [_]).length ≤ n + 1; rw [List.length_append]; have := h.count; show r.inn.length + 1 ≤ n + 1; omega), hc, (Nat.le_succ_of_le h.sent), h.out⟩
      · exact ⟨h.A, h.wiped, h.durs, h.kind, h.left, h.going, h.wat, h.wdata, h.op, h.opm, hX, (fun _ _ e => absurd (hi.symm.trans e) (by decide)), (show r.bits + 1 < 24 by omega), (fun _ => show r.bits + 1 < 8 by omega), (fun _ _ e => absurd (hi.symm.trans e) (by decide)), (fun _ e => absurd (hp.symm.trans e) (by decide)), (fun _ e => absurd (hp.symm.trans e) (by decide)), h.part, h.begun, h.adr, h.mode, h.inn, (Nat.le_succ_of_le h.count), hc, (Nat.le_succ_of_le h.sent), h.out⟩
    · rename_i hi
      have hi' : r.op.inn = false := by cases e : r.op.inn; rfl; exact absurd e hi
      have hm := h.outs hk hp hi' hd
      have hdd : r.op.data = 1 ∨ r.op.data = 4 := by have := h.op.data; omega
      have h2 : r.bits + r.op.data ≤ 8 := by rcases hdd with e | e <;> rw [e] at hm ⊢ <;> omega
      have hb : (if r.bits + r.op.data = 8 then 0 else r.bits + r.op.data) < 8 := by split <;> omega
      have hx0 := h.x0 hk hp hi'
      have hmod : (if r.bits + r.op.data = 8 then 0 else r.bits + r.op.data) % r.op.data = 0 := by
        split
        · exact Nat.zero_mod _
        · rcases hdd with e | e <;> rw [e] at hm ⊢ <;> omega
      show RSt.Ok (n + 1) { RSt.began { r with clocks := c } with bits := (if r.bits + r.op.data = 8 then 0 else r.bits + r.op.data) }
      generalize (if r.bits + r.op.data = 8 then 0 else r.bits + r.op.data) = B at hb hmod
      have hxB : r.x < 2 ^ B := by rw [hx0]; exact Nat.two_pow_pos B
      unfold RSt.began
      split
      · exact ⟨h.A, h.wiped, h.durs, h.kind, h.left, h.going, h.wat, h.wdata, h.op, h.opm, hxB, h.x0, (show B < 24 by omega), (fun _ => hb), (fun _ _ _ _ => hmod), (fun _ e => absurd (hp.symm.trans e) (by decide)), (fun _ e => absurd (hp.symm.trans e) (by decide)), h.part, h.begun, h.adr, h.mode, h.inn, (Nat.le_succ_of_le h.count), hc, (Nat.succ_le_succ h.sent), (byteOut_lt _)⟩
      · exact ⟨h.A, h.wiped, h.durs, h.kind, h.left, h.going, h.wat, h.wdata, h.op, h.opm, hxB, h.x0, (show B < 24 by omega), (fun _ => hb), (fun _ _ _ _ => hmod), (fun _ e => absurd (hp.symm.trans e) (by decide)), (fun _ e => absurd (hp.symm.trans e) (by decide)), h.part, h.begun, h.adr, h.mode, h.inn, (Nat.le_succ_of_le h.count), hc, (Nat.le_succ_of_le h.sent), h.out⟩
theorem ok_part1 {n : Nat} {r : RSt} (h : r.Ok n) (hk : r.known = true) (x : Nat) : (r.part1 x).1.Ok (n + 1) := by
  unfold RSt.part1
  by_cases p1 : r.part = 1
  · rw [if_pos p1]
    obtain ⟨hl, hm⟩ := h.addr1 hk p1
    have hX := shl_lt (l := r.op.addr) (x := x) h.x
    have hb := h.bits
    show RSt.Ok (n + 1) (if r.bits + r.op.addr = 24 then _ else _ : RSt)
    split
    · exact ok_goOn (r := { r with clocks := 0, x := 0, bits := 0, adr := (r.x * 2 ^ r.op.addr + x % 2 ^ r.op.addr) % 4096 }) ⟨h.A, h.wiped, h.durs, h.kind, h.left, h.going, h.wat, h.wdata, h.op, h.opm, (show 0 < 2 ^ 0 by decide), (fun _ _ _ => rfl), (show 0 < 24 by decide), (fun _ => show 0 < 8 by decide), (fun _ _ _ _ => Nat.zero_mod _), (fun _ _ => ⟨hl, Nat.zero_mod _⟩), (fun _ e => absurd (p1.symm.trans e) (by decide)), h.part, h.begun, (Nat.mod_lt _ (by decide)), h.mode, h.inn, (Nat.le_succ_of_le h.count), (Nat.zero_le _), (Nat.le_succ_of_le h.sent), h.out⟩ (by decide)
    · rename_i hne
      exact ⟨h.A, h.wiped, h.durs, h.kind, h.left, h.going, h.wat, h.wdata, h.op, h.opm, hX, (fun _ e => absurd (p1.symm.trans e) (by decide)), (show r.bits + r.op.addr < 24 by rcases hl with e | e <;> rw [e] at hm hne ⊢ <;> omega), (fun e => by rcases e with e | e; exact absurd (hk.symm.trans e) (by decide); exact absurd (p1.symm.trans e) (by decide)), (fun _ e => absurd (p1.symm.trans e) (by decide)), (fun _ _ => ⟨hl, by show (r.bits + r.op.addr) % r.op.addr = 0; rw [Nat.add_mod_right]; exact hm⟩), (fun _ e => absurd (p1.symm.trans e) (by decide)), h.part, h.begun, h.adr, h.mode, h.inn, (Nat.le_succ_of_le h.count), (Nat.succ_le_succ h.clocks), (Nat.le_succ_of_le h.sent), h.out⟩
  · rw [if_neg p1]
    by_cases p2 : r.part = 2
    · rw [if_pos p2]
      obtain ⟨hl, hm, hb8⟩ := h.addr2 hk p2
      have hX := shl_lt (l := r.op.addr) (x := x) h.x
      show RSt.Ok (n + 1) (if r.bits + r.op.addr = 8 then _ else _ : RSt)
      split
      · rename_i e8
        rw [e8] at hX
        exact ok_goOn (r := { r with clocks := 0, x := 0, bits := 0, mode := r.x * 2 ^ r.op.addr + x % 2 ^ r.op.addr, modes := true }) ⟨h.A, h.wiped, h.durs, h.kind, h.left, h.going, h.wat, h.wdata, h.op, h.opm, (show 0 < 2 ^ 0 by decide), (fun _ _ _ => rfl), (show 0 < 24 by decide), (fun _ => show 0 < 8 by decide), (fun _ _ _ _ => Nat.zero_mod _), (fun _ e => absurd (p2.symm.trans e) (by decide)), (fun _ _ => ⟨hl, Nat.zero_mod _, show 0 < 8 by decide⟩), h.part, h.begun, h.adr, hX, h.inn, (Nat.le_succ_of_le h.count), (Nat.zero_le _), (Nat.le_succ_of_le h.sent), h.out⟩ (by decide)
      · rename_i hne
        rw [hl] at hne
        exact ⟨h.A, h.wiped, h.durs, h.kind, h.left, h.going, h.wat, h.wdata, h.op, h.opm, hX, (fun _ e => absurd (p2.symm.trans e) (by decide)), (show r.bits + r.op.addr < 24 by rw [hl]; omega), (fun e => by rcases e with e | e; exact absurd (hk.symm.trans e) (by decide); exact absurd (p2.symm.trans e) (by decide)), (fun _ e => absurd (p2.symm.trans e) (by decide)), (fun _ e => absurd (p2.symm.trans e) (by decide)), (fun _ _ => ⟨hl, by show (r.bits + r.op.addr) % 4 = 0; rw [hl]; omega, by show r.bits + r.op.addr < 8; rw [hl]; omega⟩), h.part, h.begun, h.adr, h.mode, h.inn, (Nat.le_succ_of_le h.count), (Nat.succ_le_succ h.clocks), (Nat.le_succ_of_le h.sent), h.out⟩
    · rw [if_neg p2]
      by_cases p3 : r.part = 3
      · rw [if_pos p3]
        show RSt.Ok (n + 1) (if r.clocks + 1 = r.op.dummy then _ else _ : RSt)
        split
        · exact ok_goOn (r := { r with clocks := 0 }) ⟨h.A, h.wiped, h.durs, h.kind, h.left, h.going, h.wat, h.wdata, h.op, h.opm, h.x, h.x0, h.bits, h.bits8, h.outs, h.addr1, h.addr2, h.part, h.begun, h.adr, h.mode, h.inn, (Nat.le_succ_of_le h.count), (Nat.zero_le _), (Nat.le_succ_of_le h.sent), h.out⟩ (by decide)
        · exact ⟨h.A, h.wiped, h.durs, h.kind, h.left, h.going, h.wat, h.wdata, h.op, h.opm, h.x, h.x0, h.bits, h.bits8, h.outs, h.addr1, h.addr2, h.part, h.begun, h.adr, h.mode, h.inn, (Nat.le_succ_of_le h.count), (Nat.succ_le_succ h.clocks), (Nat.le_succ_of_le h.sent), h.out⟩
      · rw [if_neg p3]
        have p4 : r.part = 4 := by have := h.part; have := h.begun hk; omega
        exact ok_data h hk p4 x _ (Nat.succ_le_succ h.clocks)
theorem ok_heard {n : Nat} {r : RSt} (h : r.Ok n) (x : Nat) : (r.heard x).1.Ok (n + 1) := by
  unfold RSt.heard
  split
  · exact h.more (Nat.le_succ n)
  · split
    · rename_i hk
      have hb := h.bits8 (.inl hk)
      have hX : r.x * 2 + x % 2 < 2 ^ (r.bits + 1) := by have := shl_lt (l := 1) (x := x) h.x; simpa using this
      show RSt.Ok (n + 1) (if r.bits + 1 = 8 then _ else _ : RSt)
      split
      · exact ok_command (r := r) (h.more (Nat.le_succ n)) _ _
      · rename_i hne
        exact ⟨h.A, h.wiped, h.durs, h.kind, h.left, h.going, h.wat, h.wdata, h.op, h.opm, hX, (fun e => absurd (hk.symm.trans e) (by decide)), (show r.bits + 1 < 24 by omega), (fun _ => show r.bits + 1 < 8 by omega), (fun e => absurd (hk.symm.trans e) (by decide)), (fun e => absurd (hk.symm.trans e) (by decide)), (fun e => absurd (hk.symm.trans e) (by decide)), h.part, (fun e => absurd (hk.symm.trans e) (by decide)), h.adr, h.mode, h.inn, (Nat.le_succ_of_le h.count), (Nat.le_succ_of_le h.clocks), (Nat.le_succ_of_le h.sent), h.out⟩
    · split
      · exact h.more (Nat.le_succ n)
      · rename_i hk _
        exact ok_part1 h (by cases e : r.known; exact absurd e hk; rfl) x
theorem ok_clock {n : Nat} {r : RSt} (h : r.Ok n) (x : Nat) : (r.clock x).1.Ok (n + 1) := ok_heard (ok_countDown h) x
end Go.Proofs.YtlemmabgbaleiaaGreat
end
