/-
  The small calls of the document's chip, each by a contract. Conditions: the chip lies in memory as told.
-/
import Derived.Test.YtlemmabgbaleiaaGreatRLayout
import Derived.Test.YtlemmabgbaleiaaGreatRefOf
import Derived.Test.YtlemmabgbaleiaaGreatRefErase
import Derived.BigQuiet
import Derived.Deep.QuietTactic
import Derived.Deep.CutRange
import Derived.Deep.RegionHeld3
namespace Go.Proofs.YtlemmabgbaleiaaGreat
open Go.RowKit Plain
set_option linter.unusedVariables false

theorem rbusy_any (b : Nat) (r : RSt) (wv dv iv : Value) (w : World) (h : RAt w b r wv dv iv) :
    Calls Tryz.prog 71 #[.pointer (some ⟨b, 0, none⟩)] w fun e w' => e = .returned (.bool r.busy) ∧ w = w' := by
  have c7 : w.cell? ⟨b, 7, none⟩ = some (.int .i64 (r.kind : Int)) := Blk.cell h 7 rfl
  have c11 : w.cell? ⟨b, 11, none⟩ = some (.bool r.sus) := Blk.cell h 11 rfl
  by_cases e : r.kind = 0
  · have e1 : r.busy = false := by unfold RSt.busy; simp [e]
    rw [e1]
    rw [e] at c7
    go_enter Tryz.func71, Tryz.ntmps71
    go_wp2
    go_ret
    exact ⟨rfl, rfl⟩
  · have e1 : r.busy = !r.sus := by unfold RSt.busy; simp [e]
    have e2 : ((r.kind : Int) != 0) = true := by simp; omega
    rw [e1]
    go_enter Tryz.func71, Tryz.ntmps71
    go_wp2
    go_ret
    exact ⟨rfl, rfl⟩

theorem goPart_1 {o : Op} {p : Nat} (h : p < 1) (h2 : 0 < o.addr) : goPart o p = 1 := if_pos ⟨h, h2⟩
theorem goPart_2 {o : Op} {p : Nat} (h : ¬ (p < 1 ∧ 0 < o.addr)) (h2 : p < 2 ∧ o.mode = true) : goPart o p = 2 := by unfold goPart; rw [if_neg h, if_pos h2]
theorem goPart_3 {o : Op} {p : Nat} (h : ¬ (p < 1 ∧ 0 < o.addr)) (h2 : ¬ (p < 2 ∧ o.mode = true)) (h3 : p < 3 ∧ 0 < o.dummy) : goPart o p = 3 := by unfold goPart; rw [if_neg h, if_neg h2, if_pos h3]
theorem goPart_4 {o : Op} {p : Nat} (h : ¬ (p < 1 ∧ 0 < o.addr)) (h2 : ¬ (p < 2 ∧ o.mode = true)) (h3 : ¬ (p < 3 ∧ 0 < o.dummy)) : goPart o p = 4 := by unfold goPart; rw [if_neg h, if_neg h2, if_neg h3]

set_option maxRecDepth 100000 in
set_option maxHeartbeats 1000000 in
theorem rgoOn_any (b : Nat) (r : RSt) (wv dv iv : Value) (p : Nat) (w : World) (h : RAt w b r wv dv iv) (hp : p ≤ 3) :
    Calls Tryz.prog 90 #[.pointer (some ⟨b, 0, none⟩), .int .i64 (p : Int)] w fun e w' => e = .returned (.tuple #[]) ∧ RAt w' b (r.goOn p) wv dv iv ∧ Only b w w' := by
  have c14 : w.cell? ⟨b, 14, none⟩ = some (.int .i64 (r.op.addr : Int)) := Blk.cell h 14 rfl
  have c15 : w.cell? ⟨b, 15, none⟩ = some (.bool r.op.mode) := Blk.cell h 15 rfl
  have c16 : w.cell? ⟨b, 16, none⟩ = some (.int .i64 (r.op.dummy : Int)) := Blk.cell h 16 rfl
  have f21 := Blk.frozen h 21
  have f22 := Blk.frozen h 22
  have f28 := Blk.frozen h 28
  have f23 := Blk.frozen h 23
  have c21 : w.cell? ⟨b, 21, none⟩ = some (.int .i64 (r.bits : Int)) := Blk.cell h 21 rfl
  have c22 : w.cell? ⟨b, 22, none⟩ = some (.int .i64 (r.x : Int)) := Blk.cell h 22 rfl
  have c23 : w.cell? ⟨b, 23, none⟩ = some (.int .i64 (r.part : Int)) := Blk.cell h 23 rfl
  have c28 : w.cell? ⟨b, 28, none⟩ = some (.int .i64 (r.clocks : Int)) := Blk.cell h 28 rfl
  have HA : Hid (RAt w b r wv dv iv) := h
  have fin : ∀ q : Nat, goPart r.op p = q → RAt ((((w.setCell ⟨b, 21, none⟩ (.int .i64 0)).setCell ⟨b, 22, none⟩ (.int .i64 0)).setCell ⟨b, 28, none⟩ (.int .i64 0)).setCell ⟨b, 23, none⟩ (.int .i64 (q : Int))) b (r.goOn p) wv dv iv ∧ Only b w ((((w.setCell ⟨b, 21, none⟩ (.int .i64 0)).setCell ⟨b, 22, none⟩ (.int .i64 0)).setCell ⟨b, 28, none⟩ (.int .i64 0)).setCell ⟨b, 23, none⟩ (.int .i64 (q : Int))) := fun q hq => by
    subst hq
    exact ⟨Blk.set (Blk.set (Blk.set (Blk.set h 21 _) 22 _) 28 _) 23 _, ((((Only.refl b w).set 21 _).set 22 _).set 28 _).set 23 _⟩
  have FIN : Hid (∀ q : Nat, goPart r.op p = q → RAt ((((w.setCell ⟨b, 21, none⟩ (.int .i64 0)).setCell ⟨b, 22, none⟩ (.int .i64 0)).setCell ⟨b, 28, none⟩ (.int .i64 0)).setCell ⟨b, 23, none⟩ (.int .i64 (q : Int))) b (r.goOn p) wv dv iv ∧ Only b w ((((w.setCell ⟨b, 21, none⟩ (.int .i64 0)).setCell ⟨b, 22, none⟩ (.int .i64 0)).setCell ⟨b, 28, none⟩ (.int .i64 0)).setCell ⟨b, 23, none⟩ (.int .i64 (q : Int)))) := fin
  clear fin h
  rcases (show p = 0 ∨ p = 1 ∨ p = 2 ∨ p = 3 by omega) with rfl | rfl | rfl | rfl
  · by_cases ea : 0 < r.op.addr
    · have eai : (0 : Int) < r.op.addr := by omega
      go_enter Tryz.func90, Tryz.ntmps90
      go_wp2
      first | go_end0 | refine bodyPost_ret (results_none rfl _ _ _) rfl ?_
      exact ⟨rfl, FIN.out 1 (goPart_1 (by omega) ea)⟩
    · have eai : decide ((0 : Int) < r.op.addr) = false := decide_eq_false (by omega)
      cases em : r.op.mode with
      | true =>
        rw [em] at c15
        go_enter Tryz.func90, Tryz.ntmps90
        go_wp2
        first | go_end0 | refine bodyPost_ret (results_none rfl _ _ _) rfl ?_
        exact ⟨rfl, FIN.out 2 (goPart_2 (by omega) ⟨by omega, em⟩)⟩
      | false =>
        rw [em] at c15
        by_cases ed : 0 < r.op.dummy
        · have edi : (0 : Int) < r.op.dummy := by omega
          go_enter Tryz.func90, Tryz.ntmps90
          go_wp2
          first | go_end0 | refine bodyPost_ret (results_none rfl _ _ _) rfl ?_
          exact ⟨rfl, FIN.out 3 (goPart_3 (by omega) (by first | omega | (rw [em]; simp)) ⟨by omega, ed⟩)⟩
        · have edi : decide ((0 : Int) < r.op.dummy) = false := decide_eq_false (by omega)
          go_enter Tryz.func90, Tryz.ntmps90
          go_wp2
          first | go_end0 | refine bodyPost_ret (results_none rfl _ _ _) rfl ?_
          exact ⟨rfl, FIN.out 4 (goPart_4 (by omega) (by first | omega | (rw [em]; simp)) (by omega))⟩
  · skip
    cases em : r.op.mode with
    | true =>
      rw [em] at c15
      go_enter Tryz.func90, Tryz.ntmps90
      go_wp2
      first | go_end0 | refine bodyPost_ret (results_none rfl _ _ _) rfl ?_
      exact ⟨rfl, FIN.out 2 (goPart_2 (by omega) ⟨by omega, em⟩)⟩
    | false =>
      rw [em] at c15
      by_cases ed : 0 < r.op.dummy
      · have edi : (0 : Int) < r.op.dummy := by omega
        go_enter Tryz.func90, Tryz.ntmps90
        go_wp2
        first | go_end0 | refine bodyPost_ret (results_none rfl _ _ _) rfl ?_
        exact ⟨rfl, FIN.out 3 (goPart_3 (by omega) (by first | omega | (rw [em]; simp)) ⟨by omega, ed⟩)⟩
      · have edi : decide ((0 : Int) < r.op.dummy) = false := decide_eq_false (by omega)
        go_enter Tryz.func90, Tryz.ntmps90
        go_wp2
        first | go_end0 | refine bodyPost_ret (results_none rfl _ _ _) rfl ?_
        exact ⟨rfl, FIN.out 4 (goPart_4 (by omega) (by first | omega | (rw [em]; simp)) (by omega))⟩
  · skip
    by_cases ed : 0 < r.op.dummy
    · have edi : (0 : Int) < r.op.dummy := by omega
      go_enter Tryz.func90, Tryz.ntmps90
      go_wp2
      first | go_end0 | refine bodyPost_ret (results_none rfl _ _ _) rfl ?_
      exact ⟨rfl, FIN.out 3 (goPart_3 (by omega) (by first | omega | (rw [em]; simp)) ⟨by omega, ed⟩)⟩
    · have edi : decide ((0 : Int) < r.op.dummy) = false := decide_eq_false (by omega)
      go_enter Tryz.func90, Tryz.ntmps90
      go_wp2
      first | go_end0 | refine bodyPost_ret (results_none rfl _ _ _) rfl ?_
      exact ⟨rfl, FIN.out 4 (goPart_4 (by omega) (by first | omega | (rw [em]; simp)) (by omega))⟩
  · skip
    go_enter Tryz.func90, Tryz.ntmps90
    go_wp2
    first | go_end0 | refine bodyPost_ret (results_none rfl _ _ _) rfl ?_
    exact ⟨rfl, FIN.out 4 (goPart_4 (by omega) (by omega) (by omega))⟩
end Go.Proofs.YtlemmabgbaleiaaGreat
