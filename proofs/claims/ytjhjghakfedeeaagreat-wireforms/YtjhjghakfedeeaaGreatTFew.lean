/-
  Carried: TFew. Conditions: those of each statement.
-/
import Derived.Test.YtjhjghakfedeeaaGreatCmdA
import Derived.Lib.SliceRun
namespace Go.Proofs.YtjhjghakfedeeaaGreat
open Go.RowKit Plain
set_option linter.unusedVariables false

set_option maxRecDepth 100000 in
set_option maxHeartbeats 1000000 in
theorem tno_byte (x : Int) (w : World) :
    Calls Tryz.prog 158 #[.int .i64 x] w fun e w' => e = .returned (.bool (decide (x < 0 ∨ 256 ≤ x))) ∧ w = w' := by
  by_cases h0 : x < 0
  · go_enter Tryz.func158, Tryz.ntmps158
    go_wp2
    go_ret
    exact ⟨ret_bool (decide_eq_true (Or.inl h0)).symm, rfl⟩
  · by_cases h1 : 256 ≤ x
    · go_enter Tryz.func158, Tryz.ntmps158
      go_wp2
      go_ret
      exact ⟨ret_bool (by first | (simp; done) | (simp; omega)), rfl⟩
    · go_enter Tryz.func158, Tryz.ntmps158
      go_wp2
      go_ret
      exact ⟨ret_bool (by first | (simp; done) | (simp; omega)), rfl⟩

set_option maxRecDepth 100000 in
set_option maxHeartbeats 1000000 in
theorem tindex_any (u : Value) (L : List Int) (w : World) (hu : Reads w u L) (hl : L.length * 8 ≤ 140737488351232) :
    Calls Tryz.prog 149 #[u, .func (.func 158) #[] #[]] w fun e w' => (∃ z : Int, e = .returned (.int .i64 z) ∧ byB L = decide (z < 0)) ∧ Below w.heap.size w w' := by
  obtain ⟨a, c1, rfl, hu⟩ := hu
  obtain ⟨n, hn⟩ : ∃ n, n = L.length := ⟨_, rfl⟩
  rw [← hn] at hl hu
  rw [← hn]
  have HN : Hid (n = L.length) := hn
  clear hn
  by_cases h0 : n = 0
  · subst h0
    have HL : Hid (byB L = true) := byB_to HN.out fun j hj => by omega
    clear hu
    go_enter Tryz.func149, Tryz.ntmps149
    go_wp2
    refine wp_loop_rounds 1 ?_
    rw [rounds_succ]
    go_wp2
    go_ret
    exact ⟨⟨-1, rfl, HL.out⟩, Below.refl _ _⟩
  · obtain ⟨g, o, rfl, hg⟩ := hu (by omega)
    clear hu
    go_enter Tryz.func149, Tryz.ntmps149
    go_wp2
    go_loopw [5, 8] (fun s i wr => ∃ k : Nat, k ≤ n ∧ i = .int .i64 k ∧ (∀ j, j < k → 0 ≤ L.getD j 0 ∧ L.getD j 0 < 256) ∧ Hid (wr = w)) (fun _ i _ => n - (intOf i).toNat)
    case atStart => exact ⟨0, Nat.zero_le _, rfl, fun j hj => by omega, rfl⟩
    case round =>
      obtain ⟨k, hk, rfl, hs, HW⟩ := hrel
      have HS : Hid (∀ j, j < k → 0 ≤ L.getD j 0 ∧ L.getD j 0 < 256) := hs
      by_cases hlt : k < n
      · obtain ⟨x, hx⟩ : ∃ x, x = L.getD k 0 := ⟨_, rfl⟩
        have c1 : wr.cell? ⟨g, o + k, none⟩ = some (.int .i64 x) := by rw [hx, HW.out]; exact hg k (by omega)
        have HX : Hid (x = L.getD k 0) := hx
        clear hs hg hx
        by_cases hb : x < 0 ∨ 256 ≤ x
        · have HB : Hid (x < 0 ∨ 256 ≤ x) := hb
          clear hb
          go_wp2_with fail
          refine (tno_byte x _).mono ?_
          rintro e w' ⟨rfl, rfl⟩
          rw [show decide (x < 0 ∨ 256 ≤ x) = true from decide_eq_true HB.out]
          go_wp2
          go_ret
          exact ⟨⟨k, rfl, by rw [byB_no (by rw [← HN.out]; exact hlt) (by rw [← HX.out]; exact HB.out)]; exact (decide_eq_false (by omega)).symm⟩, by rw [HW.out]; exact Below.refl _ _⟩
        · have HB : Hid (¬ (x < 0 ∨ 256 ≤ x)) := hb
          clear hb
          go_wp2_with fail
          refine (tno_byte x _).mono ?_
          rintro e w' ⟨rfl, rfl⟩
          rw [show decide (x < 0 ∨ 256 ≤ x) = false from decide_eq_false HB.out]
          go_wp2
          go_roundw
          case rel => exact ⟨k + 1, by omega, by go_num, fun j hj => by
            rcases Nat.lt_or_eq_of_le (Nat.le_of_lt_succ hj) with h | rfl
            · exact HS.out j h
            · rw [← HX.out]; have := HB.out; omega, HW⟩
          case measure => simp [intOf]; omega
      · have HL : Hid (byB L = true) := byB_to HN.out fun j hj => hs j (by omega)
        clear hs hg
        go_wp2
        go_ret
        exact ⟨⟨-1, rfl, HL.out⟩, by rw [HW.out]; exact Below.refl _ _⟩

set_option maxRecDepth 100000 in
set_option maxHeartbeats 1000000 in
theorem tcontains_any (u : Value) (L : List Int) (w : World) (hu : Reads w u L) (hl : L.length * 8 ≤ 140737488351232) :
    Calls Tryz.prog 122 #[u, .func (.func 158) #[] #[]] w fun e w' => e = .returned (.bool (!byB L)) ∧ Below w.heap.size w w' := by
  have hu' : Hid (Reads w u L) := hu
  obtain ⟨a, c1, rfl, -⟩ := hu
  go_enter Tryz.func122, Tryz.ntmps122
  go_wp2_with fail
  refine (tindex_any _ L _ hu'.out hl).mono ?_
  rintro e w1 ⟨⟨z, rfl, hz⟩, b1⟩
  have HZ : Hid (byB L = decide (z < 0)) := hz
  clear hz
  by_cases h : z < 0
  · go_wp2
    go_ret
    exact ⟨ret_bool (by rw [HZ.out, decide_eq_true h, decide_eq_false (by omega)]; rfl), b1⟩
  · go_wp2
    go_ret
    exact ⟨ret_bool (by rw [HZ.out]; first | (simp; done) | (simp; omega)), b1⟩

set_option maxRecDepth 100000 in
set_option maxHeartbeats 1000000 in
theorem tonly_any (u : Value) (L : List Int) (w : World) (hu : Reads w u L) (hl : L.length * 8 ≤ 140737488351232) :
    Calls Tryz.prog 144 #[u] w fun e w' => e = .returned (.bool (fewB L)) ∧ Below w.heap.size w w' := by
  have hu' : Hid (Reads w u L) := hu
  obtain ⟨a, c1, rfl, -⟩ := hu
  by_cases h : L.length ≤ 512
  · obtain ⟨x, hx⟩ : ∃ x, byB L = x := ⟨_, rfl⟩
    rw [show fewB L = x by rw [fewB, decide_eq_true h, Bool.true_and, hx]]
    have HX : Hid (byB L = x) := hx
    clear hx
    cases x
    · go_enter Tryz.func144, Tryz.ntmps144
      go_wp2_with fail
      refine (tcontains_any _ L _ hu'.out hl).mono ?_
      rintro e w1 ⟨rfl, b1⟩
      rw [HX.out]
      go_wp2
      go_ret
      exact ⟨rfl, b1⟩
    · go_enter Tryz.func144, Tryz.ntmps144
      go_wp2_with fail
      refine (tcontains_any _ L _ hu'.out hl).mono ?_
      rintro e w1 ⟨rfl, b1⟩
      rw [HX.out]
      go_wp2
      go_ret
      exact ⟨rfl, b1⟩
  · rw [show fewB L = false by rw [fewB, decide_eq_false h, Bool.false_and]]
    go_enter Tryz.func144, Tryz.ntmps144
    go_wp2
    go_ret
    exact ⟨rfl, Below.refl _ _⟩



end Go.Proofs.YtjhjghakfedeeaaGreat
