/-
  Two rows of numbers compared, and a row written over, each by a contract. Conditions: the rows are no longer than a row that is read may be.
-/
import Derived.Test.YtbjaogcejcfpbaaInts
namespace Go.Proofs.Ytbjaogcejcfpbaa
open Go.RowKit
set_option linter.unusedVariables false

set_option maxRecDepth 100000 in
set_option maxHeartbeats 1000000 in
theorem same_any (u v : Value) (L M : List Int) (w : World) (hu : Reads w u L) (hv : Reads w v M) (hl : L.length * 8 ≤ 140737488351232) (hm : M.length * 8 ≤ 140737488351232) :
    Calls Try.prog 19 #[u, v] w fun e w' => e = .returned (.bool (decide (L = M))) ∧ Below w.heap.size w w' := by
  obtain ⟨a, c1, rfl, hu⟩ := hu
  obtain ⟨b, c2, rfl, hv⟩ := hv
  obtain ⟨n, hn⟩ : ∃ n, n = L.length := ⟨_, rfl⟩
  obtain ⟨m, hm2⟩ : ∃ m, m = M.length := ⟨_, rfl⟩
  rw [← hn] at hl
  rw [← hm2] at hm
  rw [← hn, ← hm2]
  by_cases hnm : n = m
  · subst hnm
    by_cases h0 : n = 0
    · subst h0
      have hL : L = M := by rw [List.length_eq_zero_iff.1 hn.symm, List.length_eq_zero_iff.1 hm2.symm]
      have HL : Hid (L = M) := hL
      clear hL hu hv hn hm2
      go_enter Try.func19, Try.ntmps19
      go_wp2
      refine wp_loop_rounds 1 ?_
      rw [rounds_succ]
      go_wp2
      go_ret
      exact ⟨ret_bool (by rw [HL.out]; simp), Below.refl _ _⟩
    · obtain ⟨g, o, rfl, hg⟩ := hu (by omega)
      obtain ⟨g', o', rfl, hg'⟩ := hv (by omega)
      clear hu hv
      go_enter Try.func19, Try.ntmps19
      go_wp2
      go_loopw [5] (fun i wr => ∃ k : Nat, k ≤ n ∧ i = .int .i64 k ∧ (∀ j, j < k → L.getD j 0 = M.getD j 0) ∧ Below w.heap.size w wr) (fun i _ => n - (intOf i).toNat)
      case atStart => exact ⟨0, Nat.zero_le _, rfl, fun j hj => by omega, Below.refl _ _⟩
      case round =>
        obtain ⟨k, hk, rfl, hs, hb⟩ := hrel
        have HS : Hid (∀ j, j < k → L.getD j 0 = M.getD j 0) := hs
        have HB : Hid (Below w.heap.size w wr) := hb
        by_cases hlt : k < n
        · obtain ⟨x, hx⟩ : ∃ x, x = L.getD k 0 := ⟨_, rfl⟩
          obtain ⟨y, hy⟩ : ∃ y, y = M.getD k 0 := ⟨_, rfl⟩
          have c1 : wr.cell? ⟨g, o + k, none⟩ = some (.int .i64 x) := by rw [hx]; exact (hb.cell (by exact cell_lt (hg k (by omega)))).trans (hg k (by omega))
          have c2 : wr.cell? ⟨g', o' + k, none⟩ = some (.int .i64 y) := by rw [hy]; exact (hb.cell (by exact cell_lt (hg' k (by omega)))).trans (hg' k (by omega))
          have i1 : (0 : Int) ≤ (k : Int) := by omega
          have i2 : (k : Int) < n := by omega
          have HX : Hid (x = L.getD k 0) := hx
          have HY : Hid (y = M.getD k 0) := hy
          have HN : Hid (n = L.length) := hn
          have HM : Hid (n = M.length) := hm2
          clear hs hb hg hg' hx hy hn hm2
          by_cases hxy : x = y
          · have e1 : (x != y) = false := by simpa using hxy
            go_wp2
            go_region
            all_goals go_wp2
            all_goals go_roundw
            case rel => exact ⟨k + 1, by omega, by go_num, fun j hj => by
              rcases Nat.lt_or_eq_of_le (Nat.le_of_lt_succ hj) with h | rfl
              · exact HS.out j h
              · exact HX.out.symm.trans (hxy.trans HY.out), HB.out.drew⟩
            case measure => simp [intOf]; omega
          · have e1 : (x != y) = true := by simpa using hxy
            go_wp2
            go_region
            all_goals go_wp2
            all_goals go_ret
            exact ⟨ret_bool (by
              refine (decide_eq_false fun h => hxy ?_).symm
              rw [HX.out, HY.out, h]), HB.out.drew⟩
        · have HL : Hid (L = M) := list_same (hn.symm.trans hm2) fun j hj => hs j (by omega)
          clear hs hb hg hg' hn hm2
          go_wp2
          go_ret
          exact ⟨ret_bool (by rw [HL.out]; simp), HB.out⟩
  · have HL : Hid (L ≠ M) := fun h => hnm (by rw [hn, hm2, h])
    clear hu hv hn hm2
    go_enter Try.func19, Try.ntmps19
    go_wp2
    go_ret
    exact ⟨ret_bool (decide_eq_false HL.out).symm, Below.refl _ _⟩

set_option maxRecDepth 100000 in
set_option maxHeartbeats 1000000 in
theorem spoil_any (B : Nat) (v : Value) (L : List Int) (w : World) (h : Owns B w v L) (hl : L.length * 8 ≤ 140737488351232) :
    Calls Try.prog 28 #[v] w fun e w' => e = .returned (.tuple #[]) ∧ Below B w w' := by
  have h00 := h
  rcases h.2 with ⟨rfl, hn⟩ | ⟨g, cap, cur, rfl, hb, -⟩
  · clear h h00
    go_enter Try.func28, Try.ntmps28
    go_wp2
    refine wp_loop_rounds 1 ?_
    rw [rounds_succ]
    go_wp2
    go_end0
    exact ⟨rfl, Below.refl _ _⟩
  · clear h
    obtain ⟨n, hn⟩ : ∃ n, n = L.length := ⟨_, rfl⟩
    rw [← hn] at hl
    have h0 : w.ownsRow B 3 1 (.slice (some ⟨g, 0, none⟩) n cap) n (L.map (Value.int .i64)) := by rw [hn]; exact h00
    rw [← hn]
    clear h00
    have HN : Hid (n = L.length) := hn
    clear hn
    go_enter Try.func28, Try.ntmps28
    go_wp2
    go_loopw [2] (fun i wr => ∃ k : Nat, k ≤ n ∧ i = .int .i64 k ∧ (∃ M : List Int, wr.ownsRow B 3 1 (.slice (some ⟨g, 0, none⟩) n cap) n (M.map (Value.int .i64)) ∧ M.length = n) ∧ Below B w wr) (fun i _ => n - (intOf i).toNat)
    case atStart => exact ⟨0, Nat.zero_le _, rfl, ⟨L, h0, HN.out.symm⟩, Below.refl _ _⟩
    case round =>
      obtain ⟨k, hk, rfl, ⟨M, hM, hlen⟩, hbl⟩ := hrel
      clear h0
      by_cases hlt : k < n
      · obtain ⟨x, hx⟩ : ∃ x, x = M.getD k 0 := ⟨_, rfl⟩
        have hc : wr.cell? ⟨g, k, none⟩ = some (.int .i64 x) := by
          rw [hM.cellAt k (by omega), hx, List.getElem?_map, List.getD_eq_getElem?_getD, List.getElem?_eq_getElem (by omega)]
          rfl
        have hf := hM.frozenAt k
        have HM : Hid (wr.ownsRow B 3 1 (.slice (some ⟨g, 0, none⟩) n cap) n (M.map (Value.int .i64))) := hM
        have HL : Hid (M.length = n) := hlen
        have HB : Hid (Below B w wr) := hbl
        clear hM hlen hbl hx
        go_wp2
        go_roundw
        case rel =>
          refine ⟨k + 1, by omega, by go_num, ?_, HB.out.setCell (by exact hb) _⟩
          refine Exists.intro (M.set k (wrap64 (-9 - x))) ⟨?_, by rw [List.length_set]; exact HL.out⟩
          rw [List.map_set]
          exact (HM.out.stored k _).1
        case measure => simp [intOf]; omega
      · have HB : Hid (Below B w wr) := hbl
        clear hM hlen hbl
        go_wp2
        go_end0
        exact ⟨rfl, HB.out⟩
end Go.Proofs.Ytbjaogcejcfpbaa
