/-
  The program's chip and the document's, side by side: what both agree in, and that a clock keeps it. No conditions but those of each statement. A clock keeps both chips alike, and both say the same: the parts of a command ahead of its data. No conditions but those of each statement.
-/
import Derived.Test.YtlemmabgbaleiaaGreatROk2
import Derived.Test.YtlemmabgbaleiaaGreatKeep
/-! The program's chip and the document's, side by side: what both agree in, and that a clock keeps it. No conditions but those of each statement. -/
section
namespace Go.Proofs.YtlemmabgbaleiaaGreat
open Go.RowKit Plain
set_option linter.unusedVariables false

/-- A part of a command that was taken, in both chips. -/
def PartSim (k : Cmd) (r : RSt) : Prop :=
  (r.part = 1 ∧ k.part = 1 ∧ k.clocks * r.op.addr = r.bits ∧ k.bits = r.x ∧ k.count = 0 ∧ r.inn = [] ∧ r.sent = 0) ∨
  (r.part = 2 ∧ k.part = 2 ∧ k.clocks * r.op.addr = r.bits ∧ k.bits = r.x ∧ k.count = 0 ∧ r.inn = [] ∧ r.sent = 0) ∨
  (r.part = 3 ∧ k.part = 3 ∧ k.clocks = r.clocks ∧ k.count = 0 ∧ r.inn = [] ∧ r.sent = 0) ∨
  (r.part = 4 ∧ r.op.data = 0 ∧ k.part = 5 ∧ k.clocks = r.clocks) ∨
  (r.part = 4 ∧ r.op.data ≠ 0 ∧ r.op.inn = true ∧ k.part = 4 ∧ k.clocks = r.bits ∧ k.bits = r.x ∧ k.count = r.inn.length ∧ ∀ i, i < r.inn.length → r.inn.length ≤ i + 32 → k.data (i % 32) = UInt8.ofNat (r.inn.getD i 0)) ∨
  (r.part = 4 ∧ r.op.data ≠ 0 ∧ r.op.inn = false ∧ k.part = 4 ∧ k.clocks * r.op.data = r.bits ∧ (k.clocks ≠ 0 → k.said = r.out) ∧ r.sent = k.count + (if k.clocks = 0 then 0 else 1))
/-- What has come of a command, in both chips. -/
inductive CmdSim (k : Cmd) (r : RSt) : Prop
  | byte (hk : r.known = false) (ht : r.taken = false) (ho : k.op = noOp) (hp : k.part = 0) (hc : k.clocks = r.bits) (hb : k.bits = r.x) (ha : k.adr = 0) (hm : k.mode = 0) (hn : k.count = 0) (h8 : r.bits < 8) (hms : r.modes = false) (hi : r.inn = []) (hs : r.sent = 0)
  | none (hk : r.known = true) (ht : r.taken = false) (ho : k.op = noOp) (hp : k.part = 5) (hm : k.mode = 0)
  | taken (hk : r.known = true) (ht : r.taken = true) (ho : k.op = r.op) (hop : ∃ x : Nat, isOp (x : Int) = true ∧ r.op = opOf x) (hm : k.mode = if r.modes then r.mode else 0) (hnm : r.op.mode = false → r.modes = false)
    (ha0 : r.op.addr = 0 → k.adr = 0) (ha : r.part ≠ 1 → 0 < r.op.addr → k.adr = r.adr) (hP : PartSim k r)
/-- Both chips agree. -/
structure Sim (s : St) (r : RSt) : Prop where
  A : s.A = r.A
  prot : s.prot = r.prot
  quad : s.quad = r.quad
  wiped : r.wiped = wipeL s
  sel : s.sel = r.sel
  en : s.en = r.en
  goes : s.goes = r.goes
  sus : s.sus = r.sus
  durs : s.durs = r.durs
  idle : r.kind = 0 → s.left = 0
  work : r.kind ≠ 0 → s.left = r.left ∧ 0 < s.left ∧ s.erases = decide (r.kind = 32) ∧ s.wat = r.wat ∧ (r.kind = 2 → s.wdata = r.wdata)
  sus32 : s.sus = true → r.kind = 32
  go : s.goes = true → s.quad = true ∧ s.busy = false
  rest : s.sel = false → s.k = noCmd
  cmd : s.sel = true → CmdSim s.k r
  gosel : s.sel = true → s.goes = true → r.known = true ∧ r.taken = true ∧ r.op.byte = 235
  held : s.sel = true → r.known = true → r.taken = true → (r.op.byte = 235 → s.quad = true ∧ s.busy = false) ∧ (r.op.byte = 1 ∨ r.op.byte = 2 ∨ r.op.byte = 32 → r.kind = 0)
theorem Sim.busy {s : St} {r : RSt} (h : Sim s r) : s.busy = r.busy := by
  unfold St.busy RSt.busy
  rw [h.sus]
  by_cases e : r.kind = 0
  · rw [h.idle e]; simp [e]
  · rw [decide_eq_true (h.work e).2.1, decide_eq_true e]
theorem Sim.first {s : St} {r : RSt} (h : Sim s r) : s.first = r.first := by unfold St.first RSt.first; rw [h.busy, h.en, h.prot]
theorem Sim.second {s : St} {r : RSt} (h : Sim s r) : s.second = r.second := by unfold St.second RSt.second; rw [h.quad, h.sus]
theorem sim_new (a : ByteArray) : Sim (newSt a) (newR a) :=
  ⟨rfl, rfl, rfl, rfl, rfl, rfl, rfl, rfl, rfl, fun _ => rfl, fun h => absurd rfl h, fun h => absurd h (show ¬ (false = true) by decide), fun h => absurd h (show ¬ (false = true) by decide), fun _ => rfl, fun h => absurd h (show ¬ (false = true) by decide), fun h => absurd h (show ¬ (false = true) by decide), fun h => absurd h (show ¬ (false = true) by decide)⟩
theorem CmdSim.same {k : Cmd} {r r' : RSt} (h : CmdSim k r) (e1 : r'.known = r.known) (e2 : r'.taken = r.taken) (e3 : r'.op = r.op) (e4 : r'.bits = r.bits) (e5 : r'.x = r.x) (e6 : r'.part = r.part) (e7 : r'.adr = r.adr) (e8 : r'.mode = r.mode) (e9 : r'.modes = r.modes) (e10 : r'.inn = r.inn) (e11 : r'.clocks = r.clocks) (e12 : r'.out = r.out) (e13 : r'.sent = r.sent) : CmdSim k r' := by
  cases h with
  | byte hk ht ho hp hc hb ha hm hn h8 hms hi hs => exact .byte (by rw [e1]; exact hk) (by rw [e2]; exact ht) ho hp (by rw [e4]; exact hc) (by rw [e5]; exact hb) ha hm hn (by rw [e4]; exact h8) (by rw [e9]; exact hms) (by rw [e10]; exact hi) (by rw [e13]; exact hs)
  | none hk ht ho hp hm => exact .none (by rw [e1]; exact hk) (by rw [e2]; exact ht) ho hp hm
  | taken hk ht ho hop hm hnm ha0 ha hP =>
    refine .taken (by rw [e1]; exact hk) (by rw [e2]; exact ht) (by rw [e3]; exact ho) (by rw [e3]; exact hop) (by rw [e9, e8]; exact hm) (by rw [e3, e9]; exact hnm) (by rw [e3]; exact ha0) (by rw [e6, e3, e7]; exact ha) ?_
    unfold PartSim at hP ⊢
    rw [e3, e4, e5, e6, e10, e11, e12, e13]
    exact hP
theorem sim_countDown {n : Nat} {s : St} {r : RSt} (h : Sim s r) (ho : r.Ok n) : Sim s.countDown r.countDown := by
  unfold St.countDown RSt.countDown
  rw [h.busy]
  split
  · rename_i hb
    have hk : r.kind ≠ 0 := by unfold RSt.busy at hb; intro e; rw [e] at hb; simp at hb
    have hsu : r.sus = false := by unfold RSt.busy at hb; cases e : r.sus; rfl; rw [e] at hb; simp at hb
    obtain ⟨w1, w2, w3, w4, w5⟩ := h.work hk
    have hgo : s.goes = false := by
      cases e : s.goes
      · rfl
      · have := (h.go e).2; rw [h.busy, hb] at this; cases this
    have hgs : s.sus = false := by rw [h.sus]; exact hsu
    have hbs : s.busy = true := h.busy.trans hb
    have hno : s.sel = true → r.known = true → r.taken = true → r.op.byte = 235 → False := fun q1 q2 q3 q4 => by have := ((h.held q1 q2 q3).1 q4).2; rw [hbs] at this; cases this
    rw [← w1]
    by_cases hl : s.left - 1 = 0
    · rw [if_neg (by omega), if_pos hl]
      refine ⟨?_, h.prot, h.quad, h.wiped, h.sel, rfl, h.goes, h.sus, h.durs, fun _ => rfl, fun e => absurd rfl e, fun e => absurd (hgs.symm.trans e) (by decide), fun e => absurd (hgo.symm.trans e) (by decide), h.rest, fun e => (h.cmd e).same rfl rfl rfl rfl rfl rfl rfl rfl rfl rfl rfl rfl rfl, h.gosel, fun q1 q2 q3 => ⟨fun q4 => (hno q1 q2 q3 q4).elim, fun _ => rfl⟩⟩
      show s.on ⟨#[255]⟩ = if r.kind = 2 then prog r.A r.wat r.wdata ⟨#[255]⟩ else erase r.A (r.wat / 512) ⟨#[255]⟩
      unfold St.on
      rw [w3, w4, h.A]
      rcases ho.kind with e | e | e
      · exact absurd e hk
      · rw [if_neg (by rw [e]; decide), if_pos e, w5 e]
      · rw [if_pos (by rw [e]; decide), if_neg (by omega)]
    · rw [if_pos (by omega), if_neg hl]
      exact ⟨h.A, h.prot, h.quad, h.wiped, h.sel, h.en, h.goes, h.sus, h.durs, fun e => absurd e hk, fun _ => ⟨rfl, by show 0 < s.left - 1; omega, w3, w4, w5⟩, h.sus32, fun e => absurd (hgo.symm.trans e) (by decide), h.rest, fun e => (h.cmd e).same rfl rfl rfl rfl rfl rfl rfl rfl rfl rfl rfl rfl rfl, h.gosel, fun q1 q2 q3 => ⟨fun q4 => (hno q1 q2 q3 q4).elim, fun q4 => absurd ((h.held q1 q2 q3).2 q4) hk⟩⟩
  · exact h

theorem Sim.left {s : St} {r : RSt} (h : Sim s r) : decide (0 < s.left) = decide (r.kind ≠ 0) := by
  by_cases e : r.kind = 0
  · rw [h.idle e]; simp [e]
  · rw [decide_eq_true (h.work e).2.1, decide_eq_true e]
theorem takes_is {s : St} {r : RSt} (h : Sim s r) (x : Nat) : r.taking x = (isOp (x : Int) && s.takes x) := by
  have hb := h.busy
  have hl := h.left
  have hs : r.sus = true → r.kind ≠ 0 := fun e => by have := h.sus32 (h.sus.trans e); omega
  unfold RSt.taking St.takes
  rw [← hb, hl, h.quad]
  cases hi : isOp (x : Int)
  · simp
  · by_cases e1 : x = 5 ∨ x = 53 ∨ x = 117
    · rw [if_pos e1]
      rcases e1 with rfl | rfl | rfl <;> simp
    · rw [if_neg e1]
      have n5 : x ≠ 5 := fun e => e1 (.inl e)
      have n53 : x ≠ 53 := fun e => e1 (.inr (.inl e))
      have n117 : x ≠ 117 := fun e => e1 (.inr (.inr e))
      by_cases e2 : x = 1 ∨ x = 2 ∨ x = 32
      · rw [if_pos e2]
        have hbs : s.busy = (decide (r.kind ≠ 0) && !r.sus) := by rw [hb]; rfl
        have n107 : x ≠ 107 := by omega
        have n235 : x ≠ 235 := by omega
        have e2d : (decide (x = 1) || decide (x = 2) || decide (x = 32)) = true := by rcases e2 with e | e | e <;> simp [e]
        rw [e2d, hbs, decide_eq_true n5, decide_eq_true n53, decide_eq_true n117, decide_eq_true n107, decide_eq_true n235]
        cases hk : decide (r.kind ≠ 0) <;> cases hs' : r.sus <;> simp_all
      · rw [if_neg e2]
        have e2d : (decide (x = 1) || decide (x = 2) || decide (x = 32)) = false := by
          have a1 : x ≠ 1 := fun e => e2 (.inl e)
          have a2 : x ≠ 2 := fun e => e2 (.inr (.inl e))
          have a3 : x ≠ 32 := fun e => e2 (.inr (.inr e))
          simp [a1, a2, a3]
        rw [e2d, decide_eq_true n5, decide_eq_true n53, decide_eq_true n117]
        by_cases e3 : x = 107 ∨ x = 235
        · rw [if_pos e3]
          rcases e3 with rfl | rfl <;> simp
        · rw [if_neg e3]
          have n107 : x ≠ 107 := fun e => e3 (.inl e)
          have n235 : x ≠ 235 := fun e => e3 (.inr e)
          rw [decide_eq_true n107, decide_eq_true n235]
          simp
theorem opOf_not {x : Nat} (h : isOp (x : Int) = false) : opOf x = noOp := by
  have hn : ∀ n : Nat, isOp (n : Int) = true → x ≠ n := fun n hn e => by rw [e, hn] at h; cases h
  have n1 : x ≠ 1 := hn 1 rfl
  have n2 : x ≠ 2 := hn 2 rfl
  have n3 : x ≠ 3 := hn 3 rfl
  have n4 : x ≠ 4 := hn 4 rfl
  have n5 : x ≠ 5 := hn 5 rfl
  have n6 : x ≠ 6 := hn 6 rfl
  have n32 : x ≠ 32 := hn 32 rfl
  have n53 : x ≠ 53 := hn 53 rfl
  have n90 : x ≠ 90 := hn 90 rfl
  have n107 : x ≠ 107 := hn 107 rfl
  have n117 : x ≠ 117 := hn 117 rfl
  have n122 : x ≠ 122 := hn 122 rfl
  have n159 : x ≠ 159 := hn 159 rfl
  have n235 : x ≠ 235 := hn 235 rfl
  simp [opOf, n1, n2, n3, n4, n5, n6, n32, n53, n90, n107, n117, n122, n159, n235]
/-- The fourteen commands. -/
theorem op_cases {o : Op} (h : ∃ x : Nat, isOp (x : Int) = true ∧ o = opOf x) : o ∈ [opOf 1, opOf 2, opOf 3, opOf 4, opOf 5, opOf 6, opOf 32, opOf 53, opOf 90, opOf 107, opOf 117, opOf 122, opOf 159, opOf 235] := by
  obtain ⟨x, hx, rfl⟩ := h
  rcases (isOp_iff _).1 hx with e | e | e | e | e | e | e | e | e | e | e | e | e | e <;> (have e' := Int.ofNat.inj e; subst e'; simp)
/-- Where a part begins: the program's parts, and the document's. -/
theorem next_go {o : Op} (h : ∃ x : Nat, isOp (x : Int) = true ∧ o = opOf x) (p : Nat) (hp : p < 4) : nextPart o p = if goPart o p = 4 ∧ o.data = 0 then 5 else goPart o p := by
  have hc := op_cases h
  simp only [List.mem_cons, List.not_mem_nil, or_false] at hc
  rcases (show p = 0 ∨ p = 1 ∨ p = 2 ∨ p = 3 by omega) with rfl | rfl | rfl | rfl <;> rcases hc with rfl | rfl | rfl | rfl | rfl | rfl | rfl | rfl | rfl | rfl | rfl | rfl | rfl | rfl <;> decide
end Go.Proofs.YtlemmabgbaleiaaGreat
end

/-! A clock keeps both chips alike, and both say the same: the parts of a command ahead of its data. No conditions but those of each statement. -/
section
namespace Go.Proofs.YtlemmabgbaleiaaGreat
open Go.RowKit Plain
set_option linter.unusedVariables false

/-- What a command's clocks do not turn. -/
def RSt.core (r : RSt) : ByteArray × Bool × Bool × List Int × Bool × Bool × Bool × Bool × List Int × Nat × Nat × Nat × ByteArray := (r.A, r.prot, r.quad, r.wiped, r.sel, r.en, r.goes, r.sus, r.durs, r.kind, r.left, r.wat, r.wdata)
theorem Sim.step {s : St} {r r' : RSt} {k' : Cmd} (h : Sim s r) (e : r'.core = r.core) (hs : s.sel = true) (hc : CmdSim k' r') (hg : s.goes = true → r'.known = true ∧ r'.taken = true ∧ r'.op.byte = 235)
    (hh : r'.known = true → r'.taken = true → (r'.op.byte = 235 → s.quad = true ∧ s.busy = false) ∧ (r'.op.byte = 1 ∨ r'.op.byte = 2 ∨ r'.op.byte = 32 → r'.kind = 0)) : Sim (s.setK k') r' := by
  simp only [RSt.core, Prod.mk.injEq] at e
  obtain ⟨a1, a2, a3, a4, a5, a6, a7, a8, a9, a10, a11, a12, a13⟩ := e
  exact ⟨h.A.trans a1.symm, h.prot.trans a2.symm, h.quad.trans a3.symm, a4.trans h.wiped, h.sel.trans a5.symm, h.en.trans a6.symm, h.goes.trans a7.symm, h.sus.trans a8.symm, h.durs.trans a9.symm, fun q => h.idle (a10.symm.trans q), fun q => by rw [a10, a11, a12, a13]; exact h.work (a10 ▸ q), fun q => a10.trans (h.sus32 q), h.go, fun q => absurd (hs.symm.trans q) (by decide), fun _ => hc, fun _ q => hg q, fun _ => hh⟩
theorem Sim.made {s : St} {r : RSt} (h : Sim s r) (m : Bool) : Sim { s with made := m } r :=
  ⟨h.A, h.prot, h.quad, h.wiped, h.sel, h.en, h.goes, h.sus, h.durs, h.idle, h.work, h.sus32, h.go, h.rest, h.cmd, h.gosel, h.held⟩
theorem part_turn {k : Cmd} {r : RSt} {p : Nat} (ho : k.op = r.op) (hop : ∃ x : Nat, isOp (x : Int) = true ∧ r.op = opOf x) (hp : k.part = p) (h4 : p < 4) (hc : k.count = 0) (hi : r.inn = []) (hs : r.sent = 0) : PartSim k.turn (r.goOn p) := by
  have hn := next_go hop p h4
  have e : k.turn.part = nextPart r.op p := by show nextPart k.op k.part = _; rw [ho, hp]
  have hg1 := goOn_part r.op p
  have hg4 := goOn_part4 r.op p
  unfold PartSim
  rcases (show goPart r.op p = 1 ∨ goPart r.op p = 2 ∨ goPart r.op p = 3 ∨ goPart r.op p = 4 by omega) with g | g | g | g
  · left
    refine ⟨g, ?_, Nat.zero_mul _, rfl, hc, hi, hs⟩
    rw [e, hn, g]; rfl
  · right; left
    refine ⟨g, ?_, Nat.zero_mul _, rfl, hc, hi, hs⟩
    rw [e, hn, g]; rfl
  · right; right; left
    refine ⟨g, ?_, rfl, hc, hi, hs⟩
    rw [e, hn, g]; rfl
  · right; right; right
    by_cases d0 : r.op.data = 0
    · left
      refine ⟨g, d0, ?_, rfl⟩
      rw [e, hn, g, if_pos ⟨rfl, d0⟩]
    · right
      have e4 : k.turn.part = 4 := by rw [e, hn, g, if_neg (fun q => d0 q.2)]
      cases hin : r.op.inn
      · right
        refine ⟨g, d0, hin, e4, Nat.zero_mul _, fun q => absurd rfl q, ?_⟩
        show r.sent = k.count + (if 0 = 0 then 0 else 1)
        rw [hs, hc]; rfl
      · left
        refine ⟨g, d0, hin, e4, rfl, rfl, ?_, fun i hl => ?_⟩
        · show k.count = r.inn.length
          rw [hc, hi]; rfl
        · have hl' : i < r.inn.length := hl
          rw [hi] at hl'; exact absurd hl' (Nat.not_lt_zero _)
theorem opOf_byte {x : Nat} (h : isOp (x : Int) = true) : (opOf x).byte = x := by
  rcases (isOp_iff _).1 h with e | e | e | e | e | e | e | e | e | e | e | e | e | e <;> (have e' := Int.ofNat.inj e; subst e'; rfl)
theorem goOn_core (r : RSt) (p : Nat) : (r.goOn p).core = r.core := rfl
theorem turn_none {k : Cmd} (ho : k.op = noOp) (hp : k.part = 0) : k.turn.part = 5 := by
  show nextPart k.op k.part = 5
  rw [ho, hp]; decide

/-- A byte has come: taken by both, or by none. -/
theorem sim_take {s : St} {r : RSt} (h : Sim s r) (hs : s.sel = true) (k : Cmd) (X B Y : Nat) (ho : k.op = noOp) (hp : k.part = 0) (ha : k.adr = 0) (hm : k.mode = 0) (hn : k.count = 0) (hms : r.modes = false) (hi : r.inn = []) (hse : r.sent = 0)
    (hg : s.goes = true → X = 235) : Sim ((s.setK k).take X) (RSt.command { r with x := Y, bits := B } X) := by
  have ht := takes_is h X
  have e1 : (s.setK k).take X = s.setK (Cmd.turn (if s.takes X then { k with op := opOf X } else k)) := rfl
  have e2 : RSt.command { r with x := Y, bits := B } X = RSt.goOn { r with known := true, op := opOf X, taken := r.taking X } 0 := rfl
  rw [e1, e2]
  have hgo : s.goes = true → r.taking X = true ∧ (opOf X).byte = 235 := fun q => by
    have hx := hg q
    subst hx
    obtain ⟨q1, q2⟩ := h.go q
    rw [ht]
    refine ⟨?_, rfl⟩
    show (isOp 235 && (s.quad && !s.busy)) = true
    rw [q1, q2]; rfl
  cases hi0 : isOp (X : Int)
  · have hT : r.taking X = false := by rw [ht, hi0]; rfl
    have hO := opOf_not hi0
    rw [hT, hO]
    have hk : (if s.takes X then { k with op := noOp } else k) = k := by
      split
      · rw [← ho]
      · rfl
    rw [hk]
    exact h.step rfl hs (.none rfl rfl ho (turn_none ho hp) hm) (fun q => absurd (hT.symm.trans (hgo q).1) (by decide)) (fun _ q => absurd (show false = true from q) (by decide))
  · cases hT : s.takes X
    · have hT' : r.taking X = false := by rw [ht, hi0, hT]; rfl
      rw [hT', if_neg (by decide)]
      exact h.step rfl hs (.none rfl rfl ho (turn_none ho hp) hm) (fun q => absurd (hT'.symm.trans (hgo q).1) (by decide)) (fun _ q => absurd (show false = true from q) (by decide))
    · have hT' : r.taking X = true := by rw [ht, hi0, hT]; rfl
      rw [hT', if_pos rfl]
      refine h.step rfl hs (.taken rfl rfl rfl ⟨X, hi0, rfl⟩ ?_ (fun _ => hms) (fun _ => ha) (fun q1 q2 => ?_) (part_turn rfl ⟨X, hi0, rfl⟩ hp (by decide) hn hi hse)) (fun q => ⟨rfl, rfl, (hgo q).2⟩) (fun _ _ => ⟨fun q => ?_, fun q => ?_⟩)
      · show k.mode = if r.modes then r.mode else 0
        rw [hms, hm]; rfl
      · exfalso
        have : goPart (opOf X) 0 = 1 := if_pos ⟨by decide, q2⟩
        exact q1 this
      · have hX : X = 235 := by have := opOf_byte hi0; rw [← this]; exact q
        rw [hX] at hT
        have : (s.quad && !s.busy) = true := hT
        cases e1 : s.quad <;> cases e2 : s.busy <;> rw [e1, e2] at this <;> first | exact ⟨rfl, rfl⟩ | cases this
      · have hX : X = 1 ∨ X = 2 ∨ X = 32 := by have := opOf_byte hi0; rw [← this]; exact q
        have ht2 : (!decide (0 < s.left)) = true := by
          unfold St.takes at hT
          rw [if_neg (by omega), if_pos hX] at hT
          exact hT
        rw [h.left] at ht2
        show r.kind = 0
        by_cases e : r.kind = 0
        · exact e
        · rw [decide_eq_true e] at ht2; cases ht2
end Go.Proofs.YtlemmabgbaleiaaGreat
end
