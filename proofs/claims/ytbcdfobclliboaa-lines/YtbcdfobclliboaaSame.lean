/-
  Rows of numbers and of texts compared, and written over; whole caches so; each by a contract. Conditions: the rows are no longer than a row that is read may be; texts that are written over are short.
-/
import Derived.Test.YtbcdfobclliboaaKeep
namespace Go.Proofs.Ytbcdfobclliboaa
open Go.RowKit Plain
set_option linter.unusedVariables false

theorem list_same {L M : List Int} (hl : L.length = M.length) (h : ∀ j, j < L.length → L.getD j 0 = M.getD j 0) : L = M := by
  refine List.ext_getElem hl fun j h1 h2 => ?_
  have := h j h1
  rwa [List.getD_eq_getElem?_getD, List.getD_eq_getElem?_getD, List.getElem?_eq_getElem h1, List.getElem?_eq_getElem h2] at this
theorem list_same2 {L M : List ByteArray} (hl : L.length = M.length) (h : ∀ j, j < L.length → L.getD j ByteArray.empty = M.getD j ByteArray.empty) : L = M := by
  refine List.ext_getElem hl fun j h1 h2 => ?_
  have := h j h1
  rwa [List.getD_eq_getElem?_getD, List.getD_eq_getElem?_getD, List.getElem?_eq_getElem h1, List.getElem?_eq_getElem h2] at this

set_option maxRecDepth 100000 in
set_option maxHeartbeats 1000000 in
theorem same_any (u v : Value) (L M : List Int) (w : World) (hu : RV w u (ints L)) (hv : RV w v (ints M)) (hl : L.length * 8 ≤ 140737488351232) (hm : M.length * 8 ≤ 140737488351232) :
    Calls Try.prog 27 #[u, v] w fun e w' => e = .returned (.bool (decide (L = M))) ∧ Below w.heap.size w w' := by
  obtain ⟨a, c1, rfl, hu⟩ := hu
  obtain ⟨b, c2, rfl, hv⟩ := hv
  rw [List.length_map] at hu hv ⊢
  rw [List.length_map]
  obtain ⟨n, hn⟩ : ∃ n, n = L.length := ⟨_, rfl⟩
  obtain ⟨m, hm2⟩ : ∃ m, m = M.length := ⟨_, rfl⟩
  rw [← hn] at hl
  rw [← hm2] at hm
  rw [← hn, ← hm2]
  by_cases hnm : n = m
  · subst hnm
    by_cases h0 : n = 0
    · subst h0
      have hL : L = M := by rw [List.length_eq_zero_iff.1 hn.symm, List.length_eq_zero_iff.1 hm2.symm]
      have HL : Hid (L = M) := hL
      clear hL hu hv hn hm2
      go_enter Try.func27, Try.ntmps27
      go_wp2
      refine wp_loop_rounds 1 ?_
      rw [rounds_succ]
      go_wp2
      go_ret
      exact ⟨ret_bool (by rw [HL.out]; simp), Below.refl _ _⟩
    · obtain ⟨g, o, rfl, hg0⟩ := hu (by omega)
      obtain ⟨g', o', rfl, hg1⟩ := hv (by omega)
      have hg : ∀ j, j < n → w.cell? ⟨g, o + j, none⟩ = some (.int .i64 (L.getD j 0)) := fun j hj => hg0 j _ (ints_at (by omega))
      have hg' : ∀ j, j < n → w.cell? ⟨g', o' + j, none⟩ = some (.int .i64 (M.getD j 0)) := fun j hj => hg1 j _ (ints_at (by omega))
      clear hu hv hg0 hg1
      go_enter Try.func27, Try.ntmps27
      go_wp2
      go_loopw [5] (fun i wr => ∃ k : Nat, k ≤ n ∧ i = .int .i64 k ∧ (∀ j, j < k → L.getD j 0 = M.getD j 0) ∧ Below w.heap.size w wr) (fun i _ => n - (intOf i).toNat)
      case atStart => exact ⟨0, Nat.zero_le _, rfl, fun j hj => by omega, Below.refl _ _⟩
      case round =>
        obtain ⟨k, hk, rfl, hs, hb⟩ := hrel
        have HS : Hid (∀ j, j < k → L.getD j 0 = M.getD j 0) := hs
        have HB : Hid (Below w.heap.size w wr) := hb
        by_cases hlt : k < n
        · obtain ⟨x, hx⟩ : ∃ x, x = L.getD k 0 := ⟨_, rfl⟩
          obtain ⟨y, hy⟩ : ∃ y, y = M.getD k 0 := ⟨_, rfl⟩
          have c1 : wr.cell? ⟨g, o + k, none⟩ = some (.int .i64 x) := by rw [hx]; exact (hb.cell (by exact cell_lt (hg k (by omega)))).trans (hg k (by omega))
          have c2 : wr.cell? ⟨g', o' + k, none⟩ = some (.int .i64 y) := by rw [hy]; exact (hb.cell (by exact cell_lt (hg' k (by omega)))).trans (hg' k (by omega))
          have i1 : (0 : Int) ≤ (k : Int) := by omega
          have i2 : (k : Int) < n := by omega
          have HX : Hid (x = L.getD k 0) := hx
          have HY : Hid (y = M.getD k 0) := hy
          have HN : Hid (n = L.length) := hn
          have HM : Hid (n = M.length) := hm2
          clear hs hb hg hg' hx hy hn hm2
          by_cases hxy : x = y
          · have e1 : (x != y) = false := by simpa using hxy
            go_wp2
            go_region
            all_goals go_wp2
            all_goals go_roundw
            case rel => exact ⟨k + 1, by omega, by go_num, fun j hj => by
              rcases Nat.lt_or_eq_of_le (Nat.le_of_lt_succ hj) with h | rfl
              · exact HS.out j h
              · exact HX.out.symm.trans (hxy.trans HY.out), HB.out.drew⟩
            case measure => simp [intOf]; omega
          · have e1 : (x != y) = true := by simpa using hxy
            go_wp2
            go_region
            all_goals go_wp2
            all_goals go_ret
            exact ⟨ret_bool (by
              refine (decide_eq_false fun h => hxy ?_).symm
              rw [HX.out, HY.out, h]), HB.out.drew⟩
        · have HL : Hid (L = M) := list_same (hn.symm.trans hm2) fun j hj => hs j (by omega)
          clear hs hb hg hg' hn hm2
          go_wp2
          go_ret
          exact ⟨ret_bool (by rw [HL.out]; simp), HB.out⟩
  · have HL : Hid (L ≠ M) := fun h => hnm (by rw [hn, hm2, h])
    clear hu hv hn hm2
    go_enter Try.func27, Try.ntmps27
    go_wp2
    go_ret
    exact ⟨ret_bool (decide_eq_false HL.out).symm, Below.refl _ _⟩

set_option maxRecDepth 100000 in
set_option maxHeartbeats 1000000 in
theorem same_texts (u v : Value) (L M : List ByteArray) (w : World) (hu : RV w u (txts L)) (hv : RV w v (txts M)) (hl : L.length * 16 ≤ 140737488351232) (hm : M.length * 16 ≤ 140737488351232) :
    Calls Try.prog 28 #[u, v] w fun e w' => e = .returned (.bool (decide (L = M))) ∧ Below w.heap.size w w' := by
  obtain ⟨a, c1, rfl, hu⟩ := hu
  obtain ⟨b, c2, rfl, hv⟩ := hv
  rw [List.length_map] at hu hv ⊢
  rw [List.length_map]
  obtain ⟨n, hn⟩ : ∃ n, n = L.length := ⟨_, rfl⟩
  obtain ⟨m, hm2⟩ : ∃ m, m = M.length := ⟨_, rfl⟩
  rw [← hn] at hl
  rw [← hm2] at hm
  rw [← hn, ← hm2]
  by_cases hnm : n = m
  · subst hnm
    by_cases h0 : n = 0
    · subst h0
      have hL : L = M := by rw [List.length_eq_zero_iff.1 hn.symm, List.length_eq_zero_iff.1 hm2.symm]
      have HL : Hid (L = M) := hL
      clear hL hu hv hn hm2
      go_enter Try.func28, Try.ntmps28
      go_wp2
      refine wp_loop_rounds 1 ?_
      rw [rounds_succ]
      go_wp2
      go_ret
      exact ⟨ret_bool (by rw [HL.out]; simp), Below.refl _ _⟩
    · obtain ⟨g, o, rfl, hg0⟩ := hu (by omega)
      obtain ⟨g', o', rfl, hg1⟩ := hv (by omega)
      have hg : ∀ j, j < n → w.cell? ⟨g, o + j, none⟩ = some (.string (L.getD j ByteArray.empty)) := fun j hj => hg0 j _ (txts_at (by omega))
      have hg' : ∀ j, j < n → w.cell? ⟨g', o' + j, none⟩ = some (.string (M.getD j ByteArray.empty)) := fun j hj => hg1 j _ (txts_at (by omega))
      clear hu hv hg0 hg1
      go_enter Try.func28, Try.ntmps28
      go_wp2
      go_loopw [5] (fun i wr => ∃ k : Nat, k ≤ n ∧ i = .int .i64 k ∧ (∀ j, j < k → L.getD j ByteArray.empty = M.getD j ByteArray.empty) ∧ Below w.heap.size w wr) (fun i _ => n - (intOf i).toNat)
      case atStart => exact ⟨0, Nat.zero_le _, rfl, fun j hj => by omega, Below.refl _ _⟩
      case round =>
        obtain ⟨k, hk, rfl, hs, hb⟩ := hrel
        have HS : Hid (∀ j, j < k → L.getD j ByteArray.empty = M.getD j ByteArray.empty) := hs
        have HB : Hid (Below w.heap.size w wr) := hb
        by_cases hlt : k < n
        · obtain ⟨x, hx⟩ : ∃ x, x = L.getD k ByteArray.empty := ⟨_, rfl⟩
          obtain ⟨y, hy⟩ : ∃ y, y = M.getD k ByteArray.empty := ⟨_, rfl⟩
          have c1 : wr.cell? ⟨g, o + k, none⟩ = some (.string x) := by rw [hx]; exact (hb.cell (by exact cell_lt (hg k (by omega)))).trans (hg k (by omega))
          have c2 : wr.cell? ⟨g', o' + k, none⟩ = some (.string y) := by rw [hy]; exact (hb.cell (by exact cell_lt (hg' k (by omega)))).trans (hg' k (by omega))
          have i1 : (0 : Int) ≤ (k : Int) := by omega
          have i2 : (k : Int) < n := by omega
          have HX : Hid (x = L.getD k ByteArray.empty) := hx
          have HY : Hid (y = M.getD k ByteArray.empty) := hy
          have HN : Hid (n = L.length) := hn
          have HM : Hid (n = M.length) := hm2
          clear hs hb hg hg' hx hy hn hm2
          by_cases hxy : x = y
          · have e1 : (x.toList == y.toList) = true := by rw [eq_iff]; exact decide_eq_true hxy
            go_wp2
            go_region
            all_goals go_wp2
            all_goals go_roundw
            case rel => exact ⟨k + 1, by omega, by go_num, fun j hj => by
              rcases Nat.lt_or_eq_of_le (Nat.le_of_lt_succ hj) with h | rfl
              · exact HS.out j h
              · exact HX.out.symm.trans (hxy.trans HY.out), HB.out.drew⟩
            case measure => simp [intOf]; omega
          · have e1 : (x.toList == y.toList) = false := by rw [eq_iff]; exact decide_eq_false hxy
            go_wp2
            go_region
            all_goals go_wp2
            all_goals go_ret
            exact ⟨ret_bool (by
              refine (decide_eq_false fun h => hxy ?_).symm
              rw [HX.out, HY.out, h]), HB.out.drew⟩
        · have HL : Hid (L = M) := list_same2 (hn.symm.trans hm2) fun j hj => hs j (by omega)
          clear hs hb hg hg' hn hm2
          go_wp2
          go_ret
          exact ⟨ret_bool (by rw [HL.out]; simp), HB.out⟩
  · have HL : Hid (L ≠ M) := fun h => hnm (by rw [hn, hm2, h])
    clear hu hv hn hm2
    go_enter Try.func28, Try.ntmps28
    go_wp2
    go_ret
    exact ⟨ret_bool (decide_eq_false HL.out).symm, Below.refl _ _⟩

theorem World.grownBy.refl' (w : World) (r : Option Nat) : w.grownBy w r := ⟨rfl, rfl, rfl, Nat.le_refl _, fun _ _ _ => rfl⟩
theorem Only.grown {b : Nat} {w w' : World} (h : Only b w w') : w.grownBy w' (some b) := ⟨h.os, h.tape, h.output, h.size, fun k hk hne => h.block k hk fun e => hne (congrArg some e)⟩

set_option maxRecDepth 100000 in
set_option maxHeartbeats 1000000 in
theorem spoil_any (B : Nat) (v : Value) (L : List Int) (w : World) (h : OV B 3 w v (ints L)) (hl : L.length * 8 ≤ 140737488351232) :
    Calls Try.prog 30 #[v] w fun e w' => e = .returned (.tuple #[]) ∧ w.grownBy w' v.ownBlock := by
  have h00 : w.ownsRow B 3 1 v L.length (ints L) := ov_row h rfl (by rw [List.length_map])
  have h := h00
  rcases h.2 with ⟨rfl, hn⟩ | ⟨g, cap, cur, rfl, hb, -⟩
  · clear h h00
    go_enter Try.func30, Try.ntmps30
    go_wp2
    refine wp_loop_rounds 1 ?_
    rw [rounds_succ]
    go_wp2
    go_end0
    exact ⟨rfl, World.grownBy.refl' _ _⟩
  · clear h
    obtain ⟨n, hn⟩ : ∃ n, n = L.length := ⟨_, rfl⟩
    rw [← hn] at hl
    have h0 : w.ownsRow B 3 1 (.slice (some ⟨g, 0, none⟩) n cap) n (L.map (Value.int .i64)) := by rw [hn]; exact h00
    rw [← hn]
    clear h00
    have HN : Hid (n = L.length) := hn
    clear hn
    go_enter Try.func30, Try.ntmps30
    go_wp2
    go_loopw [2] (fun i wr => ∃ k : Nat, k ≤ n ∧ i = .int .i64 k ∧ (∃ M : List Int, wr.ownsRow B 3 1 (.slice (some ⟨g, 0, none⟩) n cap) n (M.map (Value.int .i64)) ∧ M.length = n) ∧ Only g w wr) (fun i _ => n - (intOf i).toNat)
    case atStart => exact ⟨0, Nat.zero_le _, rfl, ⟨L, h0, HN.out.symm⟩, Only.refl _ _⟩
    case round =>
      obtain ⟨k, hk, rfl, ⟨M, hM, hlen⟩, hbl⟩ := hrel
      clear h0
      by_cases hlt : k < n
      · obtain ⟨x, hx⟩ : ∃ x, x = M.getD k 0 := ⟨_, rfl⟩
        have hc : wr.cell? ⟨g, k, none⟩ = some (.int .i64 x) := by
          rw [hM.cellAt k (by omega), hx, List.getElem?_map, List.getD_eq_getElem?_getD, List.getElem?_eq_getElem (by omega)]
          rfl
        have hf := hM.frozenAt k
        have HM : Hid (wr.ownsRow B 3 1 (.slice (some ⟨g, 0, none⟩) n cap) n (M.map (Value.int .i64))) := hM
        have HL : Hid (M.length = n) := hlen
        have HB : Hid (Only g w wr) := hbl
        clear hM hlen hbl hx
        go_wp2
        go_roundw
        case rel =>
          refine ⟨k + 1, by omega, by go_num, ?_, HB.out.set k _⟩
          refine Exists.intro (M.set k (wrap64 (-9 - x))) ⟨?_, by rw [List.length_set]; exact HL.out⟩
          rw [List.map_set]
          exact (HM.out.stored k _).1
        case measure => simp [intOf]; omega
      · have HB : Hid (Only g w wr) := hbl
        clear hM hlen hbl
        go_wp2
        go_end0
        exact ⟨rfl, HB.out.grown⟩

set_option maxRecDepth 100000 in
set_option maxHeartbeats 1000000 in
theorem spoil_texts (B : Nat) (v : Value) (L : List ByteArray) (w : World) (h : OV B 9 w v (txts L)) (hl : L.length * 16 ≤ 140737488351232) (hs : ∀ t ∈ L, t.size ≤ 16) :
    Calls Try.prog 31 #[v] w fun e w' => e = .returned (.tuple #[]) ∧ w.grownBy w' v.ownBlock := by
  have hs2 : Hid (∀ j, (L.getD j ByteArray.empty).size ≤ 16) := fun j => by
    rw [List.getD_eq_getElem?_getD]
    rcases Nat.lt_or_ge j L.length with hj | hj
    · rw [List.getElem?_eq_getElem hj]; exact hs _ (List.getElem_mem _)
    · rw [List.getElem?_eq_none hj]; decide
  clear hs
  have h00 : w.ownsRow B 9 1 v L.length (txts L) := ov_row h rfl (by rw [List.length_map])
  have h := h00
  rcases h.2 with ⟨rfl, hn⟩ | ⟨g, cap, cur, rfl, hb, -⟩
  · clear h h00
    go_enter Try.func31, Try.ntmps31
    go_wp2
    refine wp_loop_rounds 1 ?_
    rw [rounds_succ]
    go_wp2
    go_end0
    exact ⟨rfl, World.grownBy.refl' _ _⟩
  · clear h
    obtain ⟨n, hn⟩ : ∃ n, n = L.length := ⟨_, rfl⟩
    rw [← hn] at hl
    have h0 : w.ownsRow B 9 1 (.slice (some ⟨g, 0, none⟩) n cap) n (L.map (Value.string)) := by rw [hn]; exact h00
    rw [← hn]
    clear h00
    have HN : Hid (n = L.length) := hn
    clear hn
    go_enter Try.func31, Try.ntmps31
    go_wp2
    go_loopw [2] (fun i wr => ∃ k : Nat, k ≤ n ∧ i = .int .i64 k ∧ (∃ M : List ByteArray, wr.ownsRow B 9 1 (.slice (some ⟨g, 0, none⟩) n cap) n (M.map (Value.string)) ∧ M.length = n ∧ ∀ j, k ≤ j → (M.getD j ByteArray.empty).size ≤ 16) ∧ Only g w wr) (fun i _ => n - (intOf i).toNat)
    case atStart => exact ⟨0, Nat.zero_le _, rfl, ⟨L, h0, HN.out.symm, fun j _ => hs2.out j⟩, Only.refl _ _⟩
    case round =>
      obtain ⟨k, hk, rfl, ⟨M, hM, hlen, hsz⟩, hbl⟩ := hrel
      have HSZ : Hid (∀ j, k ≤ j → (M.getD j ByteArray.empty).size ≤ 16) := hsz
      clear hsz
      clear h0
      by_cases hlt : k < n
      · obtain ⟨x, hx⟩ : ∃ x, x = M.getD k ByteArray.empty := ⟨_, rfl⟩
        have hc : wr.cell? ⟨g, k, none⟩ = some (.string x) := by
          rw [hM.cellAt k (by omega), hx, List.getElem?_map, List.getD_eq_getElem?_getD, List.getElem?_eq_getElem (by omega)]
          rfl
        have hf := hM.frozenAt k
        have hx16 : x.size ≤ 16 := by rw [hx]; exact HSZ.out k (Nat.le_refl _)
        have hx17 : ¬ 9223372036854775807 < 1 + x.size := by omega
        have HM : Hid (wr.ownsRow B 9 1 (.slice (some ⟨g, 0, none⟩) n cap) n (M.map (Value.string))) := hM
        have HL : Hid (M.length = n) := hlen
        have HB : Hid (Only g w wr) := hbl
        clear hM hlen hbl hx
        go_wp2
        go_roundw
        case rel =>
          refine ⟨k + 1, by omega, by go_num, ?_, HB.out.set k _⟩
          refine Exists.intro (M.set k (⟨#[126]⟩ ++ x)) ⟨?_, by rw [List.length_set]; exact HL.out, fun j hj => ?_⟩
          rotate_left
          · rw [List.getD_eq_getElem?_getD, List.getElem?_set_ne (by omega), ← List.getD_eq_getElem?_getD]
            exact HSZ.out j (by omega)
          rw [List.map_set]
          exact (HM.out.stored k _).1
        case measure => simp [intOf]; omega
      · have HB : Hid (Only g w wr) := hbl
        clear hM hlen hbl
        go_wp2
        go_end0
        exact ⟨rfl, HB.out.grown⟩

set_option maxRecDepth 100000 in
set_option maxHeartbeats 1000000 in
theorem spoil_cache (B : Nat) (c : Value) (A : List Int) (T : List ByteArray) (x : Int) (w : World) (h : CO B w c A T x) (hB : B ≤ w.heap.size) (hA : A.length * 8 ≤ 140737488351232) (hT : T.length * 16 ≤ 140737488351232) (hs : ∀ t ∈ T, t.size ≤ 16) :
    Calls Try.prog 19 #[c] w fun e w' => e = .returned (.tuple #[]) ∧ Below B w w' := by
  obtain ⟨a, t, rfl, h1, h2⟩ := h
  obtain ⟨q1, p1, hq1⟩ := h1.form
  obtain ⟨q2, p2, hq2⟩ := h2.form
  generalize (ints A).length = n1 at hq1
  generalize (txts T).length = n2 at hq2
  subst hq1 hq2
  have H1 : Hid (OV B 3 (w.alloc (.cells #[.slice q1 n1 p1, .slice q2 n2 p2, .int .i64 x] 25)) (.slice q1 n1 p1) (ints A)) := h1.below (below_new _ _) (Nat.le_refl _)
  have H2 : Hid (OV B 9 (w.alloc (.cells #[.slice q1 n1 p1, .slice q2 n2 p2, .int .i64 x] 25)) (.slice q2 n2 p2) (txts T)) := h2.below (below_new _ _) (Nat.le_refl _)
  have HK : Hid (Blk (w.alloc (.cells #[.slice q1 n1 p1, .slice q2 n2 p2, .int .i64 x] 25)) w.heap.size 25 [.slice q1 n1 p1, .slice q2 n2 p2, .int .i64 x]) := Blk.new _ _ _ _ rfl
  have HS : Hid (∀ t ∈ T, t.size ≤ 16) := hs
  clear h1 h2 hs
  unfold cV
  go_enter Try.func19, Try.ntmps19
  go_wp2_with fail
  refine (spoil_any B _ A _ H1.out hA).mono ?_
  rintro e w1 ⟨rfl, hg⟩
  have K2 := HK.out.grown hg (H1.out.apart HK.out (by decide))
  have H3 : Hid (OV B 9 w1 (.slice q2 n2 p2) (txts T)) := World.ownsRow.kept H2.out hg (H1.out.apart2 H2.out (by decide))
  have HB1 : Hid (Below B w w1) := ((Below.refl B w).alloc hB _).grown hg (by simp; omega) fun k hk => (H1.out.lt k hk).1
  have cb1 := K2.cell 1 rfl
  clear H1 H2 HK hg K2
  go_wp2_with fail
  refine (spoil_texts B _ T _ H3.out hT HS.out).mono ?_
  rintro e w2 ⟨rfl, hg⟩
  have HB2 : Hid (Below B w w2) := HB1.out.grown hg (by have := HB1.out.size; omega) fun k hk => (H3.out.lt k hk).1
  clear H3 HB1 hg cb1
  go_wp2_with fail
  go_end0
  exact ⟨rfl, HB2.out⟩

set_option maxRecDepth 100000 in
set_option maxHeartbeats 1000000 in
theorem same_cache (c d : Value) (A : List Int) (T : List ByteArray) (x : Int) (A' : List Int) (T' : List ByteArray) (x' : Int) (w : World) (h : CR w c A T x) (k : CR w d A' T' x') (hf : Fit A T) (kf : Fit A' T') :
    Calls Try.prog 13 #[c, d] w fun e w' => e = .returned (.bool (decide (A = A' ∧ T = T' ∧ x = x'))) ∧ Below w.heap.size w w' := by
  obtain ⟨a, t, rfl, h1, h2⟩ := h
  obtain ⟨a', t', rfl, k1, k2⟩ := k
  obtain ⟨q1, p1, hq1, -⟩ := id h1
  obtain ⟨q2, p2, hq2, -⟩ := id h2
  obtain ⟨r1, s1, hr1, -⟩ := id k1
  obtain ⟨r2, s2, hr2, -⟩ := id k2
  generalize (ints A).length = n1 at hq1
  generalize (txts T).length = n2 at hq2
  generalize (ints A').length = m1 at hr1
  generalize (txts T').length = m2 at hr2
  subst hq1 hq2 hr1 hr2
  have hb := below_then (below_new w (.cells #[.slice q1 n1 p1, .slice q2 n2 p2, .int .i64 x] 25)) (below_new (w.alloc (.cells #[.slice q1 n1 p1, .slice q2 n2 p2, .int .i64 x] 25)) (.cells #[.slice r1 m1 s1, .slice r2 m2 s2, .int .i64 x'] 25))
  have HB : Hid (Below w.heap.size w _) := hb
  have H1 : Hid (RV _ (.slice q1 n1 p1) (ints A)) := h1.below hb
  have H2 : Hid (RV _ (.slice q2 n2 p2) (txts T)) := h2.below hb
  have K1 : Hid (RV _ (.slice r1 m1 s1) (ints A')) := k1.below hb
  have K2 : Hid (RV _ (.slice r2 m2 s2) (txts T')) := k2.below hb
  have HX : Hid (Blk ((w.alloc (.cells #[.slice q1 n1 p1, .slice q2 n2 p2, .int .i64 x] 25)).alloc (.cells #[.slice r1 m1 s1, .slice r2 m2 s2, .int .i64 x'] 25)) w.heap.size 25 [.slice q1 n1 p1, .slice q2 n2 p2, .int .i64 x]) := (Blk.new _ _ _ _ rfl).alloc _
  have HY : Hid (Blk ((w.alloc (.cells #[.slice q1 n1 p1, .slice q2 n2 p2, .int .i64 x] 25)).alloc (.cells #[.slice r1 m1 s1, .slice r2 m2 s2, .int .i64 x'] 25)) (w.heap.size + 1) 25 [.slice r1 m1 s1, .slice r2 m2 s2, .int .i64 x']) := Blk.at_ rfl (by simp)
  have HF : Hid (Fit A T) := hf
  have KF : Hid (Fit A' T') := kf
  clear h1 h2 k1 k2 hb hf kf
  obtain ⟨b1, hb1⟩ : ∃ b, b = decide (A = A') := ⟨_, rfl⟩
  obtain ⟨b2, hb2⟩ : ∃ b, b = decide (T = T') := ⟨_, rfl⟩
  have H3 : Hid (decide (A = A') = b1) := hb1.symm
  have H4 : Hid (decide (T = T') = b2) := hb2.symm
  have HR : Hid (decide (A = A' ∧ T = T' ∧ x = x') = (b1 && (b2 && decide (x = x')))) := by rw [Hid, hb1, hb2]; simp
  clear hb1 hb2
  unfold cV
  go_enter Try.func13, Try.ntmps13
  go_wp2_with fail
  refine (same_any _ _ A A' _ H1.out K1.out HF.out.at' KF.out.at').mono ?_
  rintro e w1 ⟨rfl, c1⟩
  rw [H3.out]
  have HB1 : Hid (Below w.heap.size w w1) := below_then HB.out c1
  have L2 : Hid (RV w1 (.slice q2 n2 p2) (txts T)) := H2.out.below c1
  have M2 : Hid (RV w1 (.slice r2 m2 s2) (txts T')) := K2.out.below c1
  have X2 := HX.out.below c1
  have Y2 := HY.out.below c1
  have x1 := X2.cell 1 rfl
  have x2 := X2.cell 2 rfl
  have y1 := Y2.cell 1 rfl
  have y2 := Y2.cell 2 rfl
  have HX2 : Hid (Blk w1 w.heap.size 25 [.slice q1 n1 p1, .slice q2 n2 p2, .int .i64 x]) := X2
  have HY2 : Hid (Blk w1 (w.heap.size + 1) 25 [.slice r1 m1 s1, .slice r2 m2 s2, .int .i64 x']) := Y2
  clear H1 H2 K1 K2 HX HY HB c1 X2 Y2
  cases b1
  · go_wp2_with fail
    go_ret
    exact ⟨ret_bool (by rw [HR.out]; rfl), HB1.out⟩
  · go_wp2_with fail
    refine (same_texts _ _ T T' _ L2.out M2.out HF.out.text KF.out.text).mono ?_
    rintro e w2 ⟨rfl, c2⟩
    rw [H4.out]
    have HB2 : Hid (Below w.heap.size w w2) := below_then HB1.out c2
    have X3 := HX2.out.below c2
    have Y3 := HY2.out.below c2
    have z2 := X3.cell 2 rfl
    have t2 := Y3.cell 2 rfl
    clear L2 M2 HX2 HY2 c2 X3 Y3 x1 x2 y1 y2 HB1
    cases b2
    · go_wp2_with fail
      go_ret
      exact ⟨ret_bool (by rw [HR.out]; rfl), HB2.out⟩
    · go_wp2_with fail
      go_ret
      exact ⟨ret_bool (by rw [HR.out]; simp; rfl), HB2.out⟩
end Go.Proofs.Ytbcdfobclliboaa
