/-
  The program's and the document's First, Second, Protected for every argument. No conditions. Two rows of numbers compared, and a row written over, each by a contract. Conditions: the rows are no longer than a row that is read may be.
-/
import Derived.Test.YtjhjghakfedeeaaGreatParts
/-! The program's and the document's First, Second, Protected for every argument. No conditions. -/
section
namespace Go.Proofs.YtjhjghakfedeeaaGreat
open Go.RowKit
set_option linter.unusedVariables false

def one (b : Bool) (n : Int) : Int := if b then n else 0
def fst (a b c : Bool) : Int := one a 1 + one b 2 + one c 4
def snd (a b : Bool) : Int := one a 2 + one b 128
def pB (p : Bool) (at' : Int) : Bool := p && decide (0 ≤ at' ∧ at' < 2048)
def pE (at' : Int) : Int := if 0 ≤ at' ∧ at' < 4096 then 0 else 500

theorem when_any (b : Bool) (n : Int) (w : World) :
    Calls Tryz.prog 139 #[.bool b, .int .i64 n] w fun e w' => e = .returned (.int .i64 (one b n)) ∧ w = w' := by
  cases b
  · go_enter Tryz.func139, Tryz.ntmps139
    go_wp2
    go_ret
    exact ⟨rfl, rfl⟩
  · go_enter Tryz.func139, Tryz.ntmps139
    go_wp2
    go_ret
    exact ⟨rfl, rfl⟩

theorem sum_three (g : Nat) (a b c : Int) (w : World) (h0 : w.cell? ⟨g, 0, none⟩ = some (.int .i64 a)) (h1 : w.cell? ⟨g, 1, none⟩ = some (.int .i64 b)) (h2 : w.cell? ⟨g, 2, none⟩ = some (.int .i64 c))
    (ha : 0 ≤ a ∧ a < 1000) (hb : 0 ≤ b ∧ b < 1000) (hc : 0 ≤ c ∧ c < 1000) :
    Calls Tryz.prog 138 #[.slice (some ⟨g, 0, none⟩) 3 3] w fun e w' => e = .returned (.int .i64 (a + b + c)) ∧ w = w' := by
  have e1 : wrap64 (0 + a) = a := by rw [IntWalk.wrap64_in _ (by omega)]; omega
  have e2 : wrap64 (a + b) = a + b := IntWalk.wrap64_in _ (by omega)
  have e3 : wrap64 (a + b + c) = a + b + c := IntWalk.wrap64_in _ (by omega)
  go_enter Tryz.func138, Tryz.ntmps138
  go_wp2
  refine wp_loop_rounds 4 ?_
  rw [rounds_succ]
  go_wp2
  rw [rounds_succ]
  go_wp2
  rw [rounds_succ]
  go_wp2
  rw [rounds_succ]
  go_wp2
  go_ret
  exact ⟨rfl, rfl⟩
theorem sum_two (g : Nat) (a b : Int) (w : World) (h0 : w.cell? ⟨g, 0, none⟩ = some (.int .i64 a)) (h1 : w.cell? ⟨g, 1, none⟩ = some (.int .i64 b))
    (ha : 0 ≤ a ∧ a < 1000) (hb : 0 ≤ b ∧ b < 1000) :
    Calls Tryz.prog 138 #[.slice (some ⟨g, 0, none⟩) 2 2] w fun e w' => e = .returned (.int .i64 (a + b)) ∧ w = w' := by
  have e1 : wrap64 (0 + a) = a := by rw [IntWalk.wrap64_in _ (by omega)]; omega
  have e2 : wrap64 (a + b) = a + b := IntWalk.wrap64_in _ (by omega)
  go_enter Tryz.func138, Tryz.ntmps138
  go_wp2
  refine wp_loop_rounds 3 ?_
  rw [rounds_succ]
  go_wp2
  rw [rounds_succ]
  go_wp2
  rw [rounds_succ]
  go_wp2
  go_ret
  exact ⟨rfl, rfl⟩
theorem one_in (b : Bool) (n : Int) (h : 0 ≤ n ∧ n < 1000) : 0 ≤ one b n ∧ one b n < 1000 := by
  unfold one; cases b
  · exact ⟨Int.le_refl _, show (0 : Int) < 1000 by decide⟩
  · exact h
theorem first_any (a b c : Bool) (w : World) :
    Calls Tryz.prog 107 #[.bool a, .bool b, .bool c] w fun e w' => e = .returned (.int .i64 (fst a b c)) ∧ Below w.heap.size w w' := by
  have ha := one_in a 1 (by decide)
  have hb := one_in b 2 (by decide)
  have hc := one_in c 4 (by decide)
  unfold fst
  go_enter Tryz.func107, Tryz.ntmps107
  go_wp2_with (go_at_call 139; refine (when_any _ _ _).mono ?_; rintro e w' ⟨rfl, rfl⟩)
  refine (sum_three _ _ _ _ _ (cell_of_row _ _ 0 _ 3 (0, 0) (heap_alloc_new _ _)) (cell_of_row _ _ 1 _ 3 (0, 0) (heap_alloc_new _ _)) (cell_of_row _ _ 2 _ 3 (0, 0) (heap_alloc_new _ _)) ha hb hc).mono ?_
  rintro e w' ⟨rfl, rfl⟩
  go_wp2
  go_ret
  exact ⟨rfl, below_new _ _⟩
theorem second_any (a b : Bool) (w : World) :
    Calls Tryz.prog 109 #[.bool a, .bool b] w fun e w' => e = .returned (.int .i64 (snd a b)) ∧ Below w.heap.size w w' := by
  have ha := one_in a 2 (by decide)
  have hb := one_in b 128 (by decide)
  unfold snd
  go_enter Tryz.func109, Tryz.ntmps109
  go_wp2_with (go_at_call 139; refine (when_any _ _ _).mono ?_; rintro e w' ⟨rfl, rfl⟩)
  refine (sum_two _ _ _ _ (cell_of_row _ _ 0 _ 3 (0, 0) (heap_alloc_new _ _)) (cell_of_row _ _ 1 _ 3 (0, 0) (heap_alloc_new _ _)) ha hb).mono ?_
  rintro e w' ⟨rfl, rfl⟩
  go_wp2
  go_ret
  exact ⟨rfl, below_new _ _⟩
theorem prot_any (p : Bool) (x : Int) (w : World) :
    Calls Tryz.prog 153 #[.bool p, .int .i64 x] w fun e w' => e = .returned (.tuple #[.bool (pB p x), .int .i64 (pE x)]) ∧ w = w' := by
  rcases Int.lt_or_le x 0 with h | h
  · have e1 : pB p x = false := by unfold pB; rw [decide_eq_false (by omega), Bool.and_false]
    have e2 : pE x = 500 := if_neg (by omega)
    have t1 : decide (x < 0) = true := decide_eq_true h
    rw [e1, e2]
    go_enter Tryz.func153, Tryz.ntmps153
    go_wp2
    go_ret2
    exact ⟨rfl, rfl⟩
  · rcases Int.lt_or_le x 4096 with h2 | h2
    · have e2 : pE x = 0 := if_pos ⟨h, h2⟩
      have e1 : pB p x = (p && decide (x < 2048)) := by unfold pB; congr 1; exact decide_eq_decide.mpr (by omega)
      have t1 : decide (x < 0) = false := decide_eq_false (by omega)
      have t2 : decide (4096 ≤ x) = false := decide_eq_false (by omega)
      rw [e1, e2]
      cases p
      · go_enter Tryz.func153, Tryz.ntmps153
        go_wp2
        go_ret2
        exact ⟨rfl, rfl⟩
      · go_enter Tryz.func153, Tryz.ntmps153
        go_wp2
        go_ret2
        exact ⟨rfl, rfl⟩
    · have e1 : pB p x = false := by unfold pB; rw [decide_eq_false (by omega), Bool.and_false]
      have e2 : pE x = 500 := if_neg (by omega)
      have t1 : decide (x < 0) = false := decide_eq_false (by omega)
      have t2 : decide (4096 ≤ x) = true := decide_eq_true h2
      rw [e1, e2]
      go_enter Tryz.func153, Tryz.ntmps153
      go_wp2
      go_ret2
      exact ⟨rfl, rfl⟩
end Go.Proofs.YtjhjghakfedeeaaGreat
end

/-! Two rows of numbers compared, and a row written over, each by a contract. Conditions: the rows are no longer than a row that is read may be. -/
section
namespace Go.Proofs.YtjhjghakfedeeaaGreat
open Go.RowKit
set_option linter.unusedVariables false

set_option maxRecDepth 100000 in
set_option maxHeartbeats 1000000 in
theorem same_any (u v : Value) (L M : List Int) (w : World) (hu : Reads w u L) (hv : Reads w v M) (hl : L.length * 8 ≤ 140737488351232) (hm : M.length * 8 ≤ 140737488351232) :
    Calls Tryz.prog 20 #[u, v] w fun e w' => e = .returned (.bool (decide (L = M))) ∧ Below w.heap.size w w' := by
  obtain ⟨a, c1, rfl, hu⟩ := hu
  obtain ⟨b, c2, rfl, hv⟩ := hv
  obtain ⟨n, hn⟩ : ∃ n, n = L.length := ⟨_, rfl⟩
  obtain ⟨m, hm2⟩ : ∃ m, m = M.length := ⟨_, rfl⟩
  rw [← hn] at hl
  rw [← hm2] at hm
  rw [← hn, ← hm2]
  by_cases hnm : n = m
  · subst hnm
    by_cases h0 : n = 0
    · subst h0
      have hL : L = M := by rw [List.length_eq_zero_iff.1 hn.symm, List.length_eq_zero_iff.1 hm2.symm]
      have HL : Hid (L = M) := hL
      clear hL hu hv hn hm2
      go_enter Tryz.func20, Tryz.ntmps20
      go_wp2
      refine wp_loop_rounds 1 ?_
      rw [rounds_succ]
      go_wp2
      go_ret
      exact ⟨ret_bool (by rw [HL.out]; simp), Below.refl _ _⟩
    · obtain ⟨g, o, rfl, hg⟩ := hu (by omega)
      obtain ⟨g', o', rfl, hg'⟩ := hv (by omega)
      clear hu hv
      go_enter Tryz.func20, Tryz.ntmps20
      go_wp2
      go_loopw [5] (fun i wr => ∃ k : Nat, k ≤ n ∧ i = .int .i64 k ∧ (∀ j, j < k → L.getD j 0 = M.getD j 0) ∧ Below w.heap.size w wr) (fun i _ => n - (intOf i).toNat)
      case atStart => exact ⟨0, Nat.zero_le _, rfl, fun j hj => by omega, Below.refl _ _⟩
      case round =>
        obtain ⟨k, hk, rfl, hs, hb⟩ := hrel
        have HS : Hid (∀ j, j < k → L.getD j 0 = M.getD j 0) := hs
        have HB : Hid (Below w.heap.size w wr) := hb
        by_cases hlt : k < n
        · obtain ⟨x, hx⟩ : ∃ x, x = L.getD k 0 := ⟨_, rfl⟩
          obtain ⟨y, hy⟩ : ∃ y, y = M.getD k 0 := ⟨_, rfl⟩
          have c1 : wr.cell? ⟨g, o + k, none⟩ = some (.int .i64 x) := by rw [hx]; exact (hb.cell (by exact cell_lt (hg k (by omega)))).trans (hg k (by omega))
          have c2 : wr.cell? ⟨g', o' + k, none⟩ = some (.int .i64 y) := by rw [hy]; exact (hb.cell (by exact cell_lt (hg' k (by omega)))).trans (hg' k (by omega))
          have i1 : (0 : Int) ≤ (k : Int) := by omega
          have i2 : (k : Int) < n := by omega
          have HX : Hid (x = L.getD k 0) := hx
          have HY : Hid (y = M.getD k 0) := hy
          have HN : Hid (n = L.length) := hn
          have HM : Hid (n = M.length) := hm2
          clear hs hb hg hg' hx hy hn hm2
          by_cases hxy : x = y
          · have e1 : (x != y) = false := by simpa using hxy
            go_wp2
            go_region
            all_goals go_wp2
            all_goals go_roundw
            case rel => exact ⟨k + 1, by omega, by go_num, fun j hj => by
              rcases Nat.lt_or_eq_of_le (Nat.le_of_lt_succ hj) with h | rfl
              · exact HS.out j h
              · exact HX.out.symm.trans (hxy.trans HY.out), HB.out.drew⟩
            case measure => simp [intOf]; omega
          · have e1 : (x != y) = true := by simpa using hxy
            go_wp2
            go_region
            all_goals go_wp2
            all_goals go_ret
            exact ⟨ret_bool (by
              refine (decide_eq_false fun h => hxy ?_).symm
              rw [HX.out, HY.out, h]), HB.out.drew⟩
        · have HL : Hid (L = M) := list_same (hn.symm.trans hm2) fun j hj => hs j (by omega)
          clear hs hb hg hg' hn hm2
          go_wp2
          go_ret
          exact ⟨ret_bool (by rw [HL.out]; simp), HB.out⟩
  · have HL : Hid (L ≠ M) := fun h => hnm (by rw [hn, hm2, h])
    clear hu hv hn hm2
    go_enter Tryz.func20, Tryz.ntmps20
    go_wp2
    go_ret
    exact ⟨ret_bool (decide_eq_false HL.out).symm, Below.refl _ _⟩

end Go.Proofs.YtjhjghakfedeeaaGreat
end
