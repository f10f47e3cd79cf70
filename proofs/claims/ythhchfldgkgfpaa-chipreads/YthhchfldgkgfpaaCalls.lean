/-
  The program's and the document's First, Second, Protected for every argument. No conditions.
-/
import Derived.Test.YthhchfldgkgfpaaInts
namespace Go.Proofs.Ythhchfldgkgfpaa
open Go.RowKit
set_option linter.unusedVariables false

def one (b : Bool) (n : Int) : Int := if b then n else 0
def fst (a b c : Bool) : Int := one a 1 + one b 2 + one c 4
def snd (a b : Bool) : Int := one a 2 + one b 128
def pB (p : Bool) (at' : Int) : Bool := p && decide (0 ≤ at' ∧ at' < 2048)
def pE (at' : Int) : Int := if 0 ≤ at' ∧ at' < 4096 then 0 else 500

theorem when_any (b : Bool) (n : Int) (w : World) :
    Calls Try.prog 46 #[.bool b, .int .i64 n] w fun e w' => e = .returned (.int .i64 (one b n)) ∧ w = w' := by
  cases b
  · go_enter Try.func46, Try.ntmps46
    go_wp2
    go_ret
    exact ⟨rfl, rfl⟩
  · go_enter Try.func46, Try.ntmps46
    go_wp2
    go_ret
    exact ⟨rfl, rfl⟩

theorem sum_three (g : Nat) (a b c : Int) (w : World) (h0 : w.cell? ⟨g, 0, none⟩ = some (.int .i64 a)) (h1 : w.cell? ⟨g, 1, none⟩ = some (.int .i64 b)) (h2 : w.cell? ⟨g, 2, none⟩ = some (.int .i64 c))
    (ha : 0 ≤ a ∧ a < 1000) (hb : 0 ≤ b ∧ b < 1000) (hc : 0 ≤ c ∧ c < 1000) :
    Calls Try.prog 45 #[.slice (some ⟨g, 0, none⟩) 3 3] w fun e w' => e = .returned (.int .i64 (a + b + c)) ∧ w = w' := by
  have e1 : wrap64 (0 + a) = a := by rw [IntWalk.wrap64_in _ (by omega)]; omega
  have e2 : wrap64 (a + b) = a + b := IntWalk.wrap64_in _ (by omega)
  have e3 : wrap64 (a + b + c) = a + b + c := IntWalk.wrap64_in _ (by omega)
  go_enter Try.func45, Try.ntmps45
  go_wp2
  refine wp_loop_rounds 4 ?_
  rw [rounds_succ]
  go_wp2
  rw [rounds_succ]
  go_wp2
  rw [rounds_succ]
  go_wp2
  rw [rounds_succ]
  go_wp2
  go_ret
  exact ⟨rfl, rfl⟩
theorem sum_two (g : Nat) (a b : Int) (w : World) (h0 : w.cell? ⟨g, 0, none⟩ = some (.int .i64 a)) (h1 : w.cell? ⟨g, 1, none⟩ = some (.int .i64 b))
    (ha : 0 ≤ a ∧ a < 1000) (hb : 0 ≤ b ∧ b < 1000) :
    Calls Try.prog 45 #[.slice (some ⟨g, 0, none⟩) 2 2] w fun e w' => e = .returned (.int .i64 (a + b)) ∧ w = w' := by
  have e1 : wrap64 (0 + a) = a := by rw [IntWalk.wrap64_in _ (by omega)]; omega
  have e2 : wrap64 (a + b) = a + b := IntWalk.wrap64_in _ (by omega)
  go_enter Try.func45, Try.ntmps45
  go_wp2
  refine wp_loop_rounds 3 ?_
  rw [rounds_succ]
  go_wp2
  rw [rounds_succ]
  go_wp2
  rw [rounds_succ]
  go_wp2
  go_ret
  exact ⟨rfl, rfl⟩
theorem one_in (b : Bool) (n : Int) (h : 0 ≤ n ∧ n < 1000) : 0 ≤ one b n ∧ one b n < 1000 := by
  unfold one; cases b
  · exact ⟨Int.le_refl _, show (0 : Int) < 1000 by decide⟩
  · exact h
theorem first_any (a b c : Bool) (w : World) :
    Calls Try.prog 31 #[.bool a, .bool b, .bool c] w fun e w' => e = .returned (.int .i64 (fst a b c)) ∧ Below w.heap.size w w' := by
  have ha := one_in a 1 (by decide)
  have hb := one_in b 2 (by decide)
  have hc := one_in c 4 (by decide)
  unfold fst
  go_enter Try.func31, Try.ntmps31
  go_wp2_with (go_at_call 46; refine (when_any _ _ _).mono ?_; rintro e w' ⟨rfl, rfl⟩)
  refine (sum_three _ _ _ _ _ (cell_of_row _ _ 0 _ 3 (0, 0) (heap_alloc_new _ _)) (cell_of_row _ _ 1 _ 3 (0, 0) (heap_alloc_new _ _)) (cell_of_row _ _ 2 _ 3 (0, 0) (heap_alloc_new _ _)) ha hb hc).mono ?_
  rintro e w' ⟨rfl, rfl⟩
  go_wp2
  go_ret
  exact ⟨rfl, below_new _ _⟩
theorem second_any (a b : Bool) (w : World) :
    Calls Try.prog 33 #[.bool a, .bool b] w fun e w' => e = .returned (.int .i64 (snd a b)) ∧ Below w.heap.size w w' := by
  have ha := one_in a 2 (by decide)
  have hb := one_in b 128 (by decide)
  unfold snd
  go_enter Try.func33, Try.ntmps33
  go_wp2_with (go_at_call 46; refine (when_any _ _ _).mono ?_; rintro e w' ⟨rfl, rfl⟩)
  refine (sum_two _ _ _ _ (cell_of_row _ _ 0 _ 3 (0, 0) (heap_alloc_new _ _)) (cell_of_row _ _ 1 _ 3 (0, 0) (heap_alloc_new _ _)) ha hb).mono ?_
  rintro e w' ⟨rfl, rfl⟩
  go_wp2
  go_ret
  exact ⟨rfl, below_new _ _⟩
theorem prot_any (p : Bool) (x : Int) (w : World) :
    Calls Try.prog 63 #[.bool p, .int .i64 x] w fun e w' => e = .returned (.tuple #[.bool (pB p x), .int .i64 (pE x)]) ∧ w = w' := by
  rcases Int.lt_or_le x 0 with h | h
  · have e1 : pB p x = false := by unfold pB; rw [decide_eq_false (by omega), Bool.and_false]
    have e2 : pE x = 500 := if_neg (by omega)
    have t1 : decide (x < 0) = true := decide_eq_true h
    rw [e1, e2]
    go_enter Try.func63, Try.ntmps63
    go_wp2
    go_ret2
    exact ⟨rfl, rfl⟩
  · rcases Int.lt_or_le x 4096 with h2 | h2
    · have e2 : pE x = 0 := if_pos ⟨h, h2⟩
      have e1 : pB p x = (p && decide (x < 2048)) := by unfold pB; congr 1; exact decide_eq_decide.mpr (by omega)
      have t1 : decide (x < 0) = false := decide_eq_false (by omega)
      have t2 : decide (4096 ≤ x) = false := decide_eq_false (by omega)
      rw [e1, e2]
      cases p
      · go_enter Try.func63, Try.ntmps63
        go_wp2
        go_ret2
        exact ⟨rfl, rfl⟩
      · go_enter Try.func63, Try.ntmps63
        go_wp2
        go_ret2
        exact ⟨rfl, rfl⟩
    · have e1 : pB p x = false := by unfold pB; rw [decide_eq_false (by omega), Bool.and_false]
      have e2 : pE x = 500 := if_neg (by omega)
      have t1 : decide (x < 0) = false := decide_eq_false (by omega)
      have t2 : decide (4096 ≤ x) = true := decide_eq_true h2
      rw [e1, e2]
      go_enter Try.func63, Try.ntmps63
      go_wp2
      go_ret2
      exact ⟨rfl, rfl⟩
end Go.Proofs.Ythhchfldgkgfpaa
