/-
  Two rows of phases compared, and a row of phases written over, each by a contract. Condition: the rows are no longer than a row that is read may be.
-/
import Derived.Test.YtbjaogcejcfpbaaPhases
import Derived.Deep.QuietTactic
import Derived.BigQuiet
namespace Go.Proofs.Ytbjaogcejcfpbaa
open Go.RowKit
set_option linter.unusedVariables false

/-- Two rows compared: nothing is laid. -/
theorem drewN_more {w u : World} (h : ∃ c, u = w.drewN c) : ∃ c, u.drew = w.drewN c := by
  obtain ⟨c, rfl⟩ := h
  exact ⟨c + 1, by rw [← World.drewN_drewN]; rfl⟩
set_option maxRecDepth 100000 in
set_option maxHeartbeats 1000000 in
theorem same_q (u v : Value) (L M : List Int) (w : World) (hu : Reads w u L) (hv : Reads w v M) (hl : L.length * 8 ≤ 140737488351232) (hm : M.length * 8 ≤ 140737488351232) :
    Calls Try.prog 19 #[u, v] w fun e w' => e = .returned (.bool (decide (L = M))) ∧ ∃ c, w' = w.drewN c := by
  obtain ⟨a, c1, rfl, hu⟩ := hu
  obtain ⟨b, c2, rfl, hv⟩ := hv
  obtain ⟨n, hn⟩ : ∃ n, n = L.length := ⟨_, rfl⟩
  obtain ⟨m, hm2⟩ : ∃ m, m = M.length := ⟨_, rfl⟩
  rw [← hn] at hl
  rw [← hm2] at hm
  rw [← hn, ← hm2]
  by_cases hnm : n = m
  · subst hnm
    by_cases h0 : n = 0
    · subst h0
      have hL : L = M := by rw [List.length_eq_zero_iff.1 hn.symm, List.length_eq_zero_iff.1 hm2.symm]
      have HL : Hid (L = M) := hL
      clear hL hu hv hn hm2
      go_enter Try.func19, Try.ntmps19
      go_wp2
      refine wp_loop_rounds 1 ?_
      rw [rounds_succ]
      go_wp2
      go_ret
      exact ⟨ret_bool (by rw [HL.out]; simp), ⟨0, rfl⟩⟩
    · obtain ⟨g, o, rfl, hg⟩ := hu (by omega)
      obtain ⟨g', o', rfl, hg'⟩ := hv (by omega)
      clear hu hv
      go_enter Try.func19, Try.ntmps19
      go_wp2
      go_loopw [5] (fun i wr => ∃ k : Nat, k ≤ n ∧ i = .int .i64 k ∧ (∀ j, j < k → L.getD j 0 = M.getD j 0) ∧ ∃ c, wr = w.drewN c) (fun i _ => n - (intOf i).toNat)
      case atStart => exact ⟨0, Nat.zero_le _, rfl, fun j hj => by omega, ⟨0, rfl⟩⟩
      case round =>
        obtain ⟨k, hk, rfl, hs, hc⟩ := hrel
        have hb : Below w.heap.size w wr := by obtain ⟨c, rfl⟩ := hc; exact below_drewN (Below.refl _ _) c
        have HS : Hid (∀ j, j < k → L.getD j 0 = M.getD j 0) := hs
        have HB : Hid (∃ c, wr = w.drewN c) := hc
        clear hc
        by_cases hlt : k < n
        · obtain ⟨x, hx⟩ : ∃ x, x = L.getD k 0 := ⟨_, rfl⟩
          obtain ⟨y, hy⟩ : ∃ y, y = M.getD k 0 := ⟨_, rfl⟩
          have c1 : wr.cell? ⟨g, o + k, none⟩ = some (.int .i64 x) := by rw [hx]; exact (hb.cell (by exact cell_lt (hg k (by omega)))).trans (hg k (by omega))
          have c2 : wr.cell? ⟨g', o' + k, none⟩ = some (.int .i64 y) := by rw [hy]; exact (hb.cell (by exact cell_lt (hg' k (by omega)))).trans (hg' k (by omega))
          have i1 : (0 : Int) ≤ (k : Int) := by omega
          have i2 : (k : Int) < n := by omega
          have HX : Hid (x = L.getD k 0) := hx
          have HY : Hid (y = M.getD k 0) := hy
          have HN : Hid (n = L.length) := hn
          have HM : Hid (n = M.length) := hm2
          clear hs hb hg hg' hx hy hn hm2
          by_cases hxy : x = y
          · have e1 : (x != y) = false := by simpa using hxy
            go_wp2
            go_region
            all_goals go_wp2
            all_goals go_roundw
            case rel => exact ⟨k + 1, by omega, by go_num, fun j hj => by
              rcases Nat.lt_or_eq_of_le (Nat.le_of_lt_succ hj) with h | rfl
              · exact HS.out j h
              · exact HX.out.symm.trans (hxy.trans HY.out), drewN_more HB.out⟩
            case measure => simp [intOf]; omega
          · have e1 : (x != y) = true := by simpa using hxy
            go_wp2
            go_region
            all_goals go_wp2
            all_goals go_ret
            exact ⟨ret_bool (by
              refine (decide_eq_false fun h => hxy ?_).symm
              rw [HX.out, HY.out, h]), drewN_more HB.out⟩
        · have HL : Hid (L = M) := list_same (hn.symm.trans hm2) fun j hj => hs j (by omega)
          clear hs hb hg hg' hn hm2
          go_wp2
          go_ret
          exact ⟨ret_bool (by rw [HL.out]; simp), HB.out⟩
  · have HL : Hid (L ≠ M) := fun h => hnm (by rw [hn, hm2, h])
    clear hu hv hn hm2
    go_enter Try.func19, Try.ntmps19
    go_wp2
    go_ret
    exact ⟨ret_bool (decide_eq_false HL.out).symm, ⟨0, rfl⟩⟩


/-- No longer than rows that are read may be. -/
def PShort (P : List Ph) : Prop := P.length < 4611686018427387904 ∧ ∀ p ∈ P, p.2.1.length * 8 ≤ 140737488351232
theorem phs_same {P Q : List Ph} (hl : P.length = Q.length) (h : ∀ j, j < P.length → P[j]? = Q[j]?) : P = Q := by
  refine List.ext_getElem? fun j => ?_
  rcases Nat.lt_or_ge j P.length with hj | hj
  · exact h j hj
  · rw [List.getElem?_eq_none hj, List.getElem?_eq_none (by omega)]

set_option maxRecDepth 100000 in
set_option maxHeartbeats 4000000 in
theorem phases_same (u v : Value) (P Q : List Ph) (w : World) (hu : PReads w u P) (hv : PReads w v Q) (hp : PShort P) (hq : PShort Q) :
    Calls Try.prog 13 #[u, v] w fun e w' => e = .returned (.bool (decide (P = Q))) ∧ Below w.heap.size w w' := by
  obtain ⟨a, c1, rfl, hu⟩ := hu
  obtain ⟨b, c2, rfl, hv⟩ := hv
  obtain ⟨n, hn⟩ : ∃ n, n = P.length := ⟨_, rfl⟩
  obtain ⟨m, hm⟩ : ∃ m, m = Q.length := ⟨_, rfl⟩
  have hn62 : n < 4611686018427387904 := by rw [hn]; exact hp.1
  have hm62 : m < 4611686018427387904 := by rw [hm]; exact hq.1
  rw [← hn] at hu
  rw [← hm] at hv
  rw [← hn, ← hm]
  have HN : Hid (n = P.length) := hn
  have HM : Hid (m = Q.length) := hm
  have HPS : Hid (PShort P) := hp
  have HQS : Hid (PShort Q) := hq
  clear hn hm hp hq
  by_cases hnm : n = m
  · subst hnm
    by_cases h0 : n = 0
    · subst h0
      have HL : Hid (P = Q) := phs_same (HN.out.symm.trans HM.out) fun j hj => by have := HN.out; omega
      clear hu hv
      go_enter Try.func13, Try.ntmps13
      go_wp2
      refine wp_loop_rounds 1 ?_
      rw [rounds_succ]
      go_wp2
      go_ret
      exact ⟨ret_bool (by rw [HL.out]; simp), Below.refl _ _⟩
    · obtain ⟨g, o, rfl, hg⟩ := hu (by omega)
      obtain ⟨g', o', rfl, hg'⟩ := hv (by omega)
      clear hu hv
      have HG : Hid (∀ j p, P[j]? = some p → _) := hg
      have HG' : Hid (∀ j p, Q[j]? = some p → _) := hg'
      clear hg hg'
      go_enter Try.func13, Try.ntmps13
      go_wp2
      go_loopw [5] (fun i wr => ∃ k : Nat, k ≤ n ∧ i = .int .i64 k ∧ Hid (∀ j, j < k → P[j]? = Q[j]?) ∧ Hid (Below w.heap.size w wr)) (fun i _ => n - (intOf i).toNat)
      case atStart => exact ⟨0, Nat.zero_le _, rfl, fun j hj => by omega, Below.refl _ _⟩
      case round =>
        obtain ⟨k, hk, rfl, HS, HB⟩ := hrel
        by_cases hlt : k < n
        · obtain ⟨p, hpk⟩ : ∃ p, P[k]? = some p := ⟨_, List.getElem?_eq_getElem (by have := HN.out; omega)⟩
          obtain ⟨q, hqk⟩ : ∃ q, Q[k]? = some q := ⟨_, List.getElem?_eq_getElem (by have := HM.out; omega)⟩
          obtain ⟨bv, r1, x1, x2, x3, x4⟩ := HG.out k p hpk
          obtain ⟨bv', r1', y1, y2, y3, y4⟩ := HG'.out k q hqk
          have e1 := (HB.out.cell (by exact cell_lt x1)).trans x1
          have e2 := (HB.out.cell (by exact cell_lt x2)).trans x2
          have e3 := (HB.out.cell (by exact cell_lt x3)).trans x3
          have e4 := (HB.out.cell (by exact cell_lt x4)).trans x4
          have f1 := (HB.out.cell (by exact cell_lt y1)).trans y1
          have f2 := (HB.out.cell (by exact cell_lt y2)).trans y2
          have f3 := (HB.out.cell (by exact cell_lt y3)).trans y3
          have f4 := (HB.out.cell (by exact cell_lt y4)).trans y4
          obtain ⟨y, hy⟩ : ∃ y, decide (p.2.1 = q.2.1) = y := ⟨_, rfl⟩
          have HC : Hid (∀ nq : Nat, Calls Try.prog 19 #[bv, bv'] (wr.drewN nq) fun e w' => e = .returned (.bool y) ∧ ∃ c, w' = (wr.drewN nq).drewN c) := fun nq => (same_q _ _ _ _ _ (r1.below (below_drewN HB.out nq)) (r1'.below (below_drewN HB.out nq)) (HPS.out.2 p (List.mem_of_getElem? hpk)) (HQS.out.2 q (List.mem_of_getElem? hqk))).mono fun e w' ⟨he, hw⟩ => ⟨by rw [he, hy], hw⟩
          have HY : Hid (decide (p.2.1 = q.2.1) = y) := hy
          clear hy
          have HPK : Hid (P[k]? = some p) := hpk
          have HQK : Hid (Q[k]? = some q) := hqk
          clear x1 x2 x3 x4 y1 y2 y3 y4 r1 r1' hpk hqk
          obtain ⟨p0, p1, p2, p3⟩ := p
          obtain ⟨q0, q1, q2, q3⟩ := q
          have i1 : (k : Int) < n := by omega
          by_cases d0 : p0 = q0
          · subst d0
            by_cases d2 : p2 = q2
            · subst d2
              by_cases d3 : p3 = q3
              · subst d3
                by_cases d1 : p1 = q1
                · have hyt : y = true := by rw [← HY.out]; exact decide_eq_true d1
                  subst hyt
                  have HE : Hid (P[k]? = Q[k]?) := by rw [Hid, HPK.out, HQK.out, d1]
                  go_wp2
                  go_quiet ((go_at_call 19; exact Calls.quiet_of (HC.out _)))
                  go_wp2
                  go_roundw
                  case rel => exact ⟨k + 1, by omega, by go_num, fun j hj => by
                    rcases Nat.lt_or_eq_of_le (Nat.le_of_lt_succ hj) with h | rfl
                    · exact HS.out j h
                    · exact HE.out, below_drewN HB.out _⟩
                  case measure => simp [intOf]; omega
                · have hyf : y = false := by rw [← HY.out]; exact decide_eq_false d1
                  subst hyf
                  have HD : Hid (P ≠ Q) := fun h => by
                    have := HPK.out
                    rw [h, HQK.out] at this
                    injection this with this
                    injection this with h0 this
                    injection this with this h2
                    exact d1 this.symm
                  go_wp2
                  go_quiet ((go_at_call 19; exact Calls.quiet_of (HC.out _)))
                  go_wp2
                  go_ret
                  exact ⟨ret_bool (decide_eq_false HD.out).symm, below_drewN HB.out _⟩
              · have t0 : (p3 != q3) = true := by simpa using d3
                have HD : Hid (P ≠ Q) := fun h => by
                  have := HPK.out
                  rw [h, HQK.out] at this
                  injection this with this
                  injection this with h0 this
                  injection this with h1 this
                  injection this with h2 this
                  exact d3 this.symm
                go_wp2
                go_quiet (fail)
                go_wp2
                go_ret
                exact ⟨ret_bool (decide_eq_false HD.out).symm, below_drewN HB.out _⟩
            · have t0 : (p2 != q2) = true := by simpa using d2
              have HD : Hid (P ≠ Q) := fun h => by
                have := HPK.out
                rw [h, HQK.out] at this
                injection this with this
                injection this with h0 this
                injection this with h1 this
                injection this with this h3
                exact d2 this.symm
              go_wp2
              go_quiet (fail)
              go_wp2
              go_ret
              exact ⟨ret_bool (decide_eq_false HD.out).symm, below_drewN HB.out _⟩
          · have t0 : (p0 != q0) = true := by simpa using d0
            have HD : Hid (P ≠ Q) := fun h => by
              have := HPK.out
              rw [h, HQK.out] at this
              injection this with this
              injection this with this h1
              exact d0 this.symm
            go_wp2
            go_quiet (fail)
            go_wp2
            go_ret
            exact ⟨ret_bool (decide_eq_false HD.out).symm, below_drewN HB.out _⟩
        · have HL : Hid (P = Q) := phs_same (HN.out.symm.trans HM.out) fun j hj => HS.out j (by have := HN.out; omega)
          go_wp2
          go_ret
          exact ⟨ret_bool (by rw [HL.out]; simp), HB.out⟩
  · have HL : Hid (P ≠ Q) := fun h => hnm (by rw [HN.out, HM.out, h])
    clear hu hv
    go_enter Try.func13, Try.ntmps13
    go_wp2
    go_ret
    exact ⟨ret_bool (decide_eq_false HL.out).symm, Below.refl _ _⟩
end Go.Proofs.Ytbjaogcejcfpbaa
