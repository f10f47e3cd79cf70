/-
  A command goes on to its next part; which commands are taken: each by a contract. Conditions: the chip lies in memory as told, its command is one that may be.
-/
import Derived.Test.YtjhjghakfedeeaaGreatParts
namespace Go.Proofs.YtjhjghakfedeeaaGreat
open Go.RowKit Plain
set_option linter.unusedVariables false

def partIn (w : World) (b : Nat) : Nat := match w.cell? ⟨b, 30, none⟩ with | some (.int _ p) => p.toNat | _ => 0
theorem cmd_at {w : World} {b : Nat} {s : St} {ds : Value} (h : At w b s ds) : w.rangeAt b 24 (cmdCells s.k) := Blk.range h 24 _ rfl

/-- The command at another part, nothing of it come. -/
def Cmd.atPart (k : Cmd) (p : Nat) : Cmd := { k with clocks := 0, bits := 0, part := p }
theorem nextPart_of (o : Op) (q p : Nat) (h1 : q < p) (h2 : p ≤ 4) (h3 : 0 < (splitO o p).2) (h4 : ∀ r, q < r → r < p → (splitO o r).2 = 0) : nextPart o q = p := by
  unfold nextPart
  rcases (by omega : p = 1 ∨ p = 2 ∨ p = 3 ∨ p = 4) with rfl | rfl | rfl | rfl
  · rw [if_pos ⟨h1, h3⟩]
  · rw [if_neg (fun h => by have := h4 1 h.1 (by omega); omega), if_pos ⟨h1, h3⟩]
  · rw [if_neg (fun h => by have := h4 1 h.1 (by omega); omega), if_neg (fun h => by have := h4 2 h.1 (by omega); omega), if_pos ⟨h1, h3⟩]
  · rw [if_neg (fun h => by have := h4 1 h.1 (by omega); omega), if_neg (fun h => by have := h4 2 h.1 (by omega); omega), if_neg (fun h => by have := h4 3 h.1 (by omega); omega), if_pos ⟨h1, h3⟩]
theorem nextPart_end (o : Op) (q : Nat) (h4 : ∀ r, q < r → r < 5 → (splitO o r).2 = 0) : nextPart o q = 5 := by
  unfold nextPart
  rw [if_neg (fun h => by have := h4 1 h.1 (by omega); omega), if_neg (fun h => by have := h4 2 h.1 (by omega); omega), if_neg (fun h => by have := h4 3 h.1 (by omega); omega), if_neg (fun h => by have := h4 4 h.1 (by omega); omega)]

set_option maxRecDepth 100000 in
set_option maxHeartbeats 1000000 in
theorem turn_any (b : Nat) (s : St) (ds : Value) (w : World) (h : At w b s ds) (hk : s.k.op.Ok) (hp : s.k.part ≤ 5) :
    Calls Tryz.prog 126 #[.pointer (some ⟨b, 24, none⟩)] w fun e w' => e = .returned (.tuple #[]) ∧ At w' b (s.setK s.k.turn) ds ∧ Only b w w' := by
  have c31 : w.cell? ⟨b, 31, none⟩ = some (.int .i64 (s.k.clocks : Int)) := Blk.cell h 31 rfl
  have c32 : w.cell? ⟨b, 32, none⟩ = some (.int .i64 (s.k.bits : Int)) := Blk.cell h 32 rfl
  have f31 := Blk.frozen h 31
  have f32 := Blk.frozen h 32
  have h1 : At ((w.setCell ⟨b, 31, none⟩ (.int .i64 0)).setCell ⟨b, 32, none⟩ (.int .i64 0)) b (s.setK (s.k.atPart s.k.part)) ds := Blk.set (Blk.set h 31 _) 32 _
  have o1 : Only b w ((w.setCell ⟨b, 31, none⟩ (.int .i64 0)).setCell ⟨b, 32, none⟩ (.int .i64 0)) := ((Only.refl b w).set 31 _).set 32 _
  go_enter Tryz.func126, Tryz.ntmps126
  go_wp2
  go_loopw [3] (fun u wr => ∃ p : Nat, s.k.part ≤ p ∧ p ≤ 5 ∧ (∀ r, s.k.part < r → r ≤ p → (splitO s.k.op r).2 = 0) ∧ At wr b (s.setK (s.k.atPart p)) ds ∧ Only b w wr) (fun _ wr => 5 - partIn wr b)
  case atStart => exact ⟨s.k.part, Nat.le_refl _, hp, fun r h1 h2 => absurd h1 (by omega), h1, o1⟩
  case round =>
    obtain ⟨p, p1, p2, p3, hA, hO⟩ := hrel
    clear c31 c32 f31 f32 h1 o1
    have c30 : wr.cell? ⟨b, 30, none⟩ = some (.int .i64 (p : Int)) := Blk.cell hA 30 rfl
    have f30 := Blk.frozen hA 30
    have q1 : partIn wr b = p := by unfold partIn; rw [c30]; simp
    by_cases e : p < 5
    · have hA2 : At (wr.setCell ⟨b, 30, none⟩ (.int .i64 ((p : Int) + 1))) b (s.setK (s.k.atPart (p + 1))) ds := Blk.set hA 30 _
      have hO2 := hO.set 30 (.int .i64 ((p : Int) + 1))
      have HS : Hid ((s.k.atPart (p + 1)).split = splitO s.k.op (p + 1)) := rfl
      go_wp2_with (go_at_call 128; refine (split_any b 24 (s.k.atPart (p + 1)) _ (cmd_at hA2) hk (by show p + 1 ≤ 5; omega)).mono ?_; rintro e w2 ⟨rfl, b2⟩; rw [HS.out]; (by_cases ez : 0 < (splitO s.k.op (p + 1)).2); rotate_left; (have ez0 : (splitO s.k.op (p + 1)).2 = 0 := (by omega)); rw [ez0])
      · have hA3 : At w2 b (s.setK (s.k.atPart (p + 1))) ds := Blk.below hA2 b2
        have q2 : partIn w2 b = p + 1 := by
          have c : w2.cell? ⟨b, 30, none⟩ = some (.int .i64 ((p + 1 : Nat) : Int)) := Blk.cell hA3 30 rfl
          unfold partIn; rw [c]; simp
        refine ⟨⟨p + 1, by omega, by omega, fun r r1 r2 => ?_, hA3, hO2.below b2⟩, by omega⟩
        by_cases er : r = p + 1
        · rw [er]; exact ez0
        · exact p3 r r1 (by omega)
      · refine bodyPost_ret (results_none rfl _ _ _) rfl ⟨rfl, ?_, hO2.below b2⟩
        have e4 : p + 1 ≤ 4 := by
          rcases Nat.lt_or_ge p 4 with h4 | h4
          · omega
          · have : p = 4 := by omega
            subst this; exact absurd ez (by simp [splitO])
        have et : s.k.turn = s.k.atPart (p + 1) := by
          unfold Cmd.turn Cmd.atPart
          rw [nextPart_of s.k.op s.k.part (p + 1) (by omega) e4 ez (fun r r1 r2 => p3 r r1 (by omega))]
        rw [et]
        exact Blk.below hA2 b2
    · have e5 : p = 5 := by omega
      have et : s.k.turn = s.k.atPart p := by
        unfold Cmd.turn Cmd.atPart
        rw [nextPart_end s.k.op s.k.part (fun r r1 r2 => p3 r r1 (by omega)), e5]
      rw [← et] at hA
      have ef : decide ((p : Int) < 5) = false := decide_eq_false (by omega)
      go_wp2
      first | go_end0 | refine bodyPost_ret (results_none rfl _ _ _) rfl ?_
      exact ⟨rfl, hA, hO⟩

theorem opOf_is (x : Nat) : opB x = ((opOf x).byte : Int) ∧ opA x = ((opOf x).addr : Int) ∧ opM x = (opOf x).mode ∧ opD x = ((opOf x).dummy : Int) ∧ opN x = ((opOf x).data : Int) ∧ opI x = (opOf x).inn := by
  by_cases h : isOp x = true
  · rcases (isOp_iff _).1 h with e | e | e | e | e | e | e | e | e | e | e | e | e | e <;> (have e' := Int.ofNat.inj e; subst e'; exact ⟨rfl, rfl, rfl, rfl, rfl, rfl⟩)
  · have hn : ∀ n : Nat, isOp (n : Int) = true → x ≠ n := fun n hn e => h (by rw [e]; exact hn)
    have n1 : x ≠ 1 := hn 1 rfl
    have n2 : x ≠ 2 := hn 2 rfl
    have n3 : x ≠ 3 := hn 3 rfl
    have n4 : x ≠ 4 := hn 4 rfl
    have n5 : x ≠ 5 := hn 5 rfl
    have n6 : x ≠ 6 := hn 6 rfl
    have n32 : x ≠ 32 := hn 32 rfl
    have n53 : x ≠ 53 := hn 53 rfl
    have n90 : x ≠ 90 := hn 90 rfl
    have n107 : x ≠ 107 := hn 107 rfl
    have n117 : x ≠ 117 := hn 117 rfl
    have n122 : x ≠ 122 := hn 122 rfl
    have n159 : x ≠ 159 := hn 159 rfl
    have n235 : x ≠ 235 := hn 235 rfl
    have e0 : opOf x = noOp := by simp [opOf, n1, n2, n3, n4, n5, n6, n32, n53, n90, n107, n117, n122, n159, n235]
    have i1 : (x : Int) ≠ 1 := by omega
    have i2 : (x : Int) ≠ 2 := by omega
    have i3 : (x : Int) ≠ 3 := by omega
    have i4 : (x : Int) ≠ 4 := by omega
    have i5 : (x : Int) ≠ 5 := by omega
    have i6 : (x : Int) ≠ 6 := by omega
    have i32 : (x : Int) ≠ 32 := by omega
    have i53 : (x : Int) ≠ 53 := by omega
    have i90 : (x : Int) ≠ 90 := by omega
    have i107 : (x : Int) ≠ 107 := by omega
    have i117 : (x : Int) ≠ 117 := by omega
    have i122 : (x : Int) ≠ 122 := by omega
    have i159 : (x : Int) ≠ 159 := by omega
    have i235 : (x : Int) ≠ 235 := by omega
    rw [e0]
    refine ⟨?_, ?_, ?_, ?_, ?_, ?_⟩
    · unfold opB; rw [if_neg h]; rfl
    · unfold opA; rw [if_neg (by omega), if_neg (by omega)]; rfl
    · exact beq_eq_false_iff_ne.2 i235
    · unfold opD; rw [if_neg (by omega), if_neg (by omega)]; rfl
    · unfold opN; rw [if_neg (by omega), if_neg (by omega)]; rfl
    · unfold opI; rw [beq_eq_false_iff_ne.2 i1, beq_eq_false_iff_ne.2 i2]; rfl
theorem noOp_ok : noOp.Ok := ⟨by decide, by decide, by decide, by decide, by decide⟩
theorem ok_if {c : Prop} [Decidable c] {a b : Op} (h1 : a.Ok) (h2 : b.Ok) : (if c then a else b).Ok := by split <;> assumption
theorem opOf_ok (x : Nat) : (opOf x).Ok := by
  unfold opOf
  repeat' (refine ok_if ?_ ?_)
  all_goals first | exact noOp_ok | exact ⟨by decide, by decide, by decide, by decide, by decide⟩
theorem of_op (x : Nat) (w : World) : Calls Tryz.prog 125 #[.int .i64 (x : Int)] w fun e w' => e = .returned (.tuple #[.agg #[.int .i64 ((opOf x).byte : Int), .int .i64 ((opOf x).addr : Int), .bool (opOf x).mode, .int .i64 ((opOf x).dummy : Int), .int .i64 ((opOf x).data : Int), .bool (opOf x).inn], .int .i64 (opE x)]) ∧ Below w.heap.size w w' :=
  (of_any x w).mono fun e w' ⟨h1, h2⟩ => by
    obtain ⟨e1, e2, e3, e4, e5, e6⟩ := opOf_is x
    rw [e1, e2, e3, e4, e5, e6] at h1
    exact ⟨h1, h2⟩

set_option maxHeartbeats 1000000 in
theorem takes_any (b : Nat) (s : St) (ds : Value) (x : Nat) (w : World) (h : At w b s ds) :
    Calls Tryz.prog 124 #[.pointer (some ⟨b, 0, none⟩), .int .i64 (x : Int)] w fun e w' => e = .returned (.bool (s.takes x)) ∧ Below w.heap.size w w' := by
  have c2 : w.cell? ⟨b, 2, none⟩ = some (.bool s.quad) := Blk.cell h 2 rfl
  have c20 : w.cell? ⟨b, 20, none⟩ = some (.int .i64 (s.left : Int)) := Blk.cell h 20 rfl
  have c21 : w.cell? ⟨b, 21, none⟩ = some (.bool s.erases) := Blk.cell h 21 rfl
  have c22 : w.cell? ⟨b, 22, none⟩ = some (.int .i64 (s.wat : Int)) := Blk.cell h 22 rfl
  have c23 : w.cell? ⟨b, 23, none⟩ = some (.string s.wdata) := Blk.cell h 23 rfl
  by_cases x5 : x = 5
  · subst x5
    have e1 : s.takes 5 = true := rfl
    rw [e1]
    go_enter Tryz.func124, Tryz.ntmps124
    go_wp2
    go_ret
    exact ⟨rfl, Below.refl _ _⟩
  by_cases x53 : x = 53
  · subst x53
    have e1 : s.takes 53 = true := rfl
    rw [e1]
    go_enter Tryz.func124, Tryz.ntmps124
    go_wp2
    go_ret
    exact ⟨rfl, Below.refl _ _⟩
  by_cases x117 : x = 117
  · subst x117
    have e1 : s.takes 117 = true := rfl
    rw [e1]
    go_enter Tryz.func124, Tryz.ntmps124
    go_wp2
    go_ret
    exact ⟨rfl, Below.refl _ _⟩
  by_cases x1 : x = 1
  · subst x1
    have e1 : s.takes 1 = !decide (0 < s.left) := rfl
    rw [e1]
    go_enter Tryz.func124, Tryz.ntmps124
    go_wp2_with (go_at_call 68; refine (goes_any _ _ _ _ _).mono ?_; rintro e w' ⟨rfl, b1⟩)
    go_ret
    exact ⟨ret_bool (by simp), b1⟩
  by_cases x2 : x = 2
  · subst x2
    have e1 : s.takes 2 = !decide (0 < s.left) := rfl
    rw [e1]
    go_enter Tryz.func124, Tryz.ntmps124
    go_wp2_with (go_at_call 68; refine (goes_any _ _ _ _ _).mono ?_; rintro e w' ⟨rfl, b1⟩)
    go_ret
    exact ⟨ret_bool (by simp), b1⟩
  by_cases x32 : x = 32
  · subst x32
    have e1 : s.takes 32 = !decide (0 < s.left) := rfl
    rw [e1]
    go_enter Tryz.func124, Tryz.ntmps124
    go_wp2_with (go_at_call 68; refine (goes_any _ _ _ _ _).mono ?_; rintro e w' ⟨rfl, b1⟩)
    go_ret
    exact ⟨ret_bool (by simp), b1⟩
  by_cases x107 : x = 107
  · subst x107
    have e1 : s.takes 107 = (s.quad && !s.busy) := rfl
    rw [e1]
    cases eq : s.quad with
    | false =>
      rw [eq] at c2
      go_enter Tryz.func124, Tryz.ntmps124
      go_wp2
      go_ret
      exact ⟨rfl, Below.refl _ _⟩
    | true =>
      rw [eq] at c2
      go_enter Tryz.func124, Tryz.ntmps124
      go_wp2_with (go_at_call 108; refine (busy_any b s ds _ h).mono ?_; rintro e w' ⟨rfl, b1⟩)
      go_ret
      exact ⟨rfl, b1⟩
  by_cases x235 : x = 235
  · subst x235
    have e1 : s.takes 235 = (s.quad && !s.busy) := rfl
    rw [e1]
    cases eq : s.quad with
    | false =>
      rw [eq] at c2
      go_enter Tryz.func124, Tryz.ntmps124
      go_wp2
      go_ret
      exact ⟨rfl, Below.refl _ _⟩
    | true =>
      rw [eq] at c2
      go_enter Tryz.func124, Tryz.ntmps124
      go_wp2_with (go_at_call 108; refine (busy_any b s ds _ h).mono ?_; rintro e w' ⟨rfl, b1⟩)
      go_ret
      exact ⟨rfl, b1⟩
  have e1 : s.takes x = !s.busy := by simp [St.takes, x5, x53, x117, x1, x2, x32, x107, x235]
  have i5 : ((x : Int) == 5) = false := beq_eq_false_iff_ne.2 (by omega)
  have i53 : ((x : Int) == 53) = false := beq_eq_false_iff_ne.2 (by omega)
  have i117 : ((x : Int) == 117) = false := beq_eq_false_iff_ne.2 (by omega)
  have i1 : ((x : Int) == 1) = false := beq_eq_false_iff_ne.2 (by omega)
  have i2 : ((x : Int) == 2) = false := beq_eq_false_iff_ne.2 (by omega)
  have i32 : ((x : Int) == 32) = false := beq_eq_false_iff_ne.2 (by omega)
  have i107 : ((x : Int) == 107) = false := beq_eq_false_iff_ne.2 (by omega)
  have i235 : ((x : Int) == 235) = false := beq_eq_false_iff_ne.2 (by omega)
  rw [e1]
  go_enter Tryz.func124, Tryz.ntmps124
  go_wp2_with (go_at_call 108; refine (busy_any b s ds _ h).mono ?_; rintro e w' ⟨rfl, b1⟩)
  go_ret
  exact ⟨rfl, b1⟩

set_option maxRecDepth 100000 in
set_option maxHeartbeats 1000000 in
theorem take_any (b : Nat) (s : St) (ds : Value) (x : Nat) (w : World) (h : At w b s ds) (hk : s.k.op.Ok) (hp : s.k.part ≤ 5) :
    Calls Tryz.prog 94 #[.pointer (some ⟨b, 0, none⟩), .int .i64 (x : Int)] w fun e w' => e = .returned (.tuple #[]) ∧ At w' b (s.take x) ds ∧ Only b w w' := by
  cases et : s.takes x with
  | false =>
    have e1 : s.take x = s.setK s.k.turn := by unfold St.take; rw [et]; rfl
    rw [e1]
    go_enter Tryz.func94, Tryz.ntmps94
    go_wp2_with (first | (go_at_call 124; refine (takes_any b s ds x _ h).mono ?_; rintro e w1 ⟨rfl, b1⟩; rw [et]) | (go_at_call 126; refine (turn_any b s ds _ (Blk.below h b1) hk hp).mono ?_; rintro e w2 ⟨rfl, h2, o2⟩))
    first | go_end0 | refine bodyPost_ret (results_none rfl _ _ _) rfl ?_
    exact ⟨rfl, h2, (Only.of_below b1).trans o2⟩
  | true =>
    have e1 : s.take x = s.setK (Cmd.turn { s.k with op := opOf x }) := by unfold St.take; rw [et]; rfl
    rw [e1]
    go_enter Tryz.func94, Tryz.ntmps94
    go_wp2_with (first | (go_at_call 124; refine (takes_any b s ds x _ h).mono ?_; rintro e w1 ⟨rfl, b1⟩; rw [et]) | (go_at_call 125; refine (of_op x _).mono ?_; rintro e w2 ⟨rfl, b2⟩; (have h2 := Blk.below (Blk.below h b1) b2); (have f24 := Blk.frozen h2 24); (have f25 := Blk.frozen h2 25); (have f26 := Blk.frozen h2 26); (have f27 := Blk.frozen h2 27); (have f28 := Blk.frozen h2 28); (have f29 := Blk.frozen h2 29); (have c24 : w2.cell? ⟨b, 24, none⟩ = some (.int .i64 (s.k.op.byte : Int)) := Blk.cell h2 24 rfl); (have c25 : w2.cell? ⟨b, 25, none⟩ = some (.int .i64 (s.k.op.addr : Int)) := Blk.cell h2 25 rfl); (have c26 : w2.cell? ⟨b, 26, none⟩ = some (.bool s.k.op.mode) := Blk.cell h2 26 rfl); (have c27 : w2.cell? ⟨b, 27, none⟩ = some (.int .i64 (s.k.op.dummy : Int)) := Blk.cell h2 27 rfl); (have c28 : w2.cell? ⟨b, 28, none⟩ = some (.int .i64 (s.k.op.data : Int)) := Blk.cell h2 28 rfl); (have c29 : w2.cell? ⟨b, 29, none⟩ = some (.bool s.k.op.inn) := Blk.cell h2 29 rfl)))
    refine (turn_any b (s.setK { s.k with op := opOf x }) ds _ (by exact Blk.set (Blk.set (Blk.set (Blk.set (Blk.set (Blk.set h2 24 _) 25 _) 26 _) 27 _) 28 _) 29 _) (opOf_ok x) hp).mono ?_
    rintro e w3 ⟨rfl, h3, o3⟩
    have o2 := ((((((Only.of_below (b := b) (below_then b1 b2)).set 24 (.int .i64 ((opOf x).byte : Int))).set 25 (.int .i64 ((opOf x).addr : Int))).set 26 (.bool (opOf x).mode)).set 27 (.int .i64 ((opOf x).dummy : Int))).set 28 (.int .i64 ((opOf x).data : Int))).set 29 (.bool (opOf x).inn)
    clear c24 c25 c26 c27 c28 c29 f24 f25 f26 f27 f28 f29
    go_wp2
    first | go_end0 | refine bodyPost_ret (results_none rfl _ _ _) rfl ?_
    exact ⟨rfl, h3, o2.trans o3⟩
end Go.Proofs.YtjhjghakfedeeaaGreat
