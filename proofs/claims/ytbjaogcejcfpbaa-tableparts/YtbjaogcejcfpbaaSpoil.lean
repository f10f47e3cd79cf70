/-
  A row of phases written over: nothing older is changed. Condition: the rows are no longer than a row that is read may be.
-/
import Derived.Test.YtbjaogcejcfpbaaAlike
namespace Go.Proofs.Ytbjaogcejcfpbaa
open Go.RowKit
set_option linter.unusedVariables false

/-- Rows stay rows of as many numbers; rows of phases stay as they are. -/
def Soft (B : Nat) (w w' : World) : Prop := (∀ u M, Owns B w u M → ∃ M', M'.length = M.length ∧ Owns B w' u M') ∧ ∀ u n xs, w.ownsRow B 45 4 u n xs → w'.ownsRow B 45 4 u n xs
theorem Soft.refl (B : Nat) (w : World) : Soft B w w := ⟨fun u M h => ⟨M, rfl, h⟩, fun u n xs h => h⟩
theorem own_other {B g : Nat} {w w' : World} {v : Value} {n e s : Nat} {xs : List Value} (h : w.ownsRow B e s v n xs) (hg : w.grownBy w' (some g)) (hne : v.ownBlock ≠ some g) : w'.ownsRow B e s v n xs := h.kept hg (.inr hne)
theorem Soft.set {B g n cap : Nat} {w w' : World} {xs : List Value} (h : Soft B w w') (k : w'.ownsRow B 3 1 (.slice (some ⟨g, 0, none⟩) n cap) n xs) (j : Nat) (z : Int) : Soft B w (w'.setCell ⟨g, j, none⟩ (.int .i64 z)) := by
  have hgr := (k.stored j (.int .i64 z)).2
  refine ⟨fun u M hu => ?_, fun u m ys hu => ?_⟩
  · obtain ⟨M', hl, ho⟩ := h.1 u M hu
    by_cases hb : u.ownBlock = some g
    · rcases ho.2 with ⟨rfl, -⟩ | ⟨g', cap', cur, rfl, hr⟩
      · simp [Value.ownBlock] at hb
      · have : g' = g := by simpa [Value.ownBlock] using hb
        subst this
        refine ⟨M'.set j z, by rw [List.length_set, hl], ?_⟩
        have := (World.ownsRow.stored ho j (.int .i64 z)).1
        rw [Owns, List.length_set, List.map_set]
        exact this
    · exact ⟨M', hl, own_other ho hgr hb⟩
  · have ho := h.2 u m ys hu
    rcases own_apart ho k (by decide) with hn | hn
    · exact ho.kept hgr (.inl hn)
    · exact own_other ho hgr hn

set_option maxRecDepth 100000 in
set_option maxHeartbeats 1000000 in
theorem spoil_more (B : Nat) (v : Value) (L : List Int) (w : World) (h : Owns B w v L) (hl : L.length * 8 ≤ 140737488351232) :
    Calls Try.prog 28 #[v] w fun e w' => e = .returned (.tuple #[]) ∧ Below B w w' ∧ Soft B w w' := by
  have h00 := h
  rcases h.2 with ⟨rfl, hn⟩ | ⟨g, cap, cur, rfl, hb, -⟩
  · clear h h00
    go_enter Try.func28, Try.ntmps28
    go_wp2
    refine wp_loop_rounds 1 ?_
    rw [rounds_succ]
    go_wp2
    go_end0
    exact ⟨rfl, Below.refl _ _, Soft.refl _ _⟩
  · clear h
    obtain ⟨n, hn⟩ : ∃ n, n = L.length := ⟨_, rfl⟩
    rw [← hn] at hl
    have h0 : w.ownsRow B 3 1 (.slice (some ⟨g, 0, none⟩) n cap) n (L.map (Value.int .i64)) := by rw [hn]; exact h00
    rw [← hn]
    clear h00
    have HN : Hid (n = L.length) := hn
    clear hn
    go_enter Try.func28, Try.ntmps28
    go_wp2
    go_loopw [2] (fun i wr => ∃ k : Nat, k ≤ n ∧ i = .int .i64 k ∧ (∃ M : List Int, wr.ownsRow B 3 1 (.slice (some ⟨g, 0, none⟩) n cap) n (M.map (Value.int .i64)) ∧ M.length = n) ∧ Hid (Below B w wr) ∧ Hid (Soft B w wr)) (fun i _ => n - (intOf i).toNat)
    case atStart => exact ⟨0, Nat.zero_le _, rfl, ⟨L, h0, HN.out.symm⟩, Below.refl _ _, Soft.refl _ _⟩
    case round =>
      obtain ⟨k, hk, rfl, ⟨M, hM, hlen⟩, HB, HS⟩ := hrel
      clear h0
      by_cases hlt : k < n
      · obtain ⟨x, hx⟩ : ∃ x, x = M.getD k 0 := ⟨_, rfl⟩
        have hc : wr.cell? ⟨g, k, none⟩ = some (.int .i64 x) := by
          rw [hM.cellAt k (by omega), hx, List.getElem?_map, List.getD_eq_getElem?_getD, List.getElem?_eq_getElem (by omega)]
          rfl
        have hf := hM.frozenAt k
        have HM : Hid (wr.ownsRow B 3 1 (.slice (some ⟨g, 0, none⟩) n cap) n (M.map (Value.int .i64))) := hM
        have HL : Hid (M.length = n) := hlen
        clear hM hlen hx
        go_wp2
        go_roundw
        case rel =>
          refine ⟨k + 1, by omega, by go_num, ?_, HB.out.setCell (by exact hb) _, HS.out.set HM.out _ _⟩
          refine Exists.intro (M.set k (wrap64 (-9 - x))) ⟨?_, by rw [List.length_set]; exact HL.out⟩
          rw [List.map_set]
          exact (HM.out.stored k _).1
        case measure => simp [intOf]; omega
      · clear hM hlen
        go_wp2
        go_end0
        exact ⟨rfl, HB.out, HS.out⟩

/-- Each phase has its lanes, and a row of numbers that may be written. -/
def PSoft (B : Nat) (w : World) (n : Nat) (xs : List Value) : Prop := ∀ j, j < n → (∃ l : Int, xs[j * 4]? = some (.int .i64 l)) ∧ ∃ bv M, xs[j * 4 + 1]? = some bv ∧ M.length * 8 ≤ 140737488351232 ∧ Owns B w bv M
theorem POwns.soft {B : Nat} {w : World} {v : Value} {qs : List (Value × Ph)} (h : POwns B w v qs) (hs : PShort (qs.map Prod.snd)) : PSoft B w qs.length (rowC qs) := fun j hj => by
  have hq : qs[j]? = some qs[j] := List.getElem?_eq_getElem hj
  obtain ⟨c0, c1, -, -⟩ := rowC_at qs j _ hq
  refine ⟨⟨_, c0⟩, _, _, c1, ?_, h.2 _ (List.getElem_mem hj)⟩
  exact hs.2 _ (List.mem_map.2 ⟨_, List.getElem_mem hj, rfl⟩)

set_option maxRecDepth 100000 in
set_option maxHeartbeats 1000000 in
theorem spoil_phases (B : Nat) (v : Value) (qs : List (Value × Ph)) (w : World) (h : POwns B w v qs) (hs : PShort (qs.map Prod.snd)) :
    Calls Try.prog 14 #[v] w fun e w' => e = .returned (.tuple #[]) ∧ Below B w w' := by
  have h0 := h.1
  have hsoft := h.soft hs
  have hlen := hs.1
  rw [List.length_map] at hlen
  obtain ⟨n, hn⟩ : ∃ n, n = qs.length := ⟨_, rfl⟩
  rw [← hn] at h0 hsoft hlen
  obtain ⟨xs, hxs⟩ : ∃ xs, xs = rowC qs := ⟨_, rfl⟩
  rw [← hxs] at h0 hsoft
  clear h hs hn hxs
  have h00 := h0
  rcases h0.2 with ⟨rfl, hn⟩ | ⟨g, cap, cur, rfl, hb, -⟩
  · subst hn
    clear h0 h00 hsoft
    go_enter Try.func14, Try.ntmps14
    go_wp2
    refine wp_loop_rounds 1 ?_
    rw [rounds_succ]
    go_wp2
    go_end0
    exact ⟨rfl, Below.refl _ _⟩
  · clear h0
    go_enter Try.func14, Try.ntmps14
    go_wp2
    go_loopw [2] (fun i wr => ∃ k : Nat, k ≤ n ∧ i = .int .i64 k ∧ (∃ ys : List Value, wr.ownsRow B 45 4 (.slice (some ⟨g, 0, none⟩) n cap) n ys ∧ Hid (PSoft B wr n ys)) ∧ Hid (Below B w wr)) (fun i _ => n - (intOf i).toNat)
    case atStart => exact ⟨0, Nat.zero_le _, rfl, ⟨xs, h00, hsoft⟩, Below.refl _ _⟩
    case round =>
      obtain ⟨k, hk, rfl, ⟨ys, hY, HP⟩, HB⟩ := hrel
      clear h00 hsoft
      by_cases hlt : k < n
      · obtain ⟨⟨l, hl⟩, bv, M, hbv, hM, hO⟩ := HP.out k hlt
        have c1 : wr.cell? ⟨g, 0 + k * 4 + 1, none⟩ = some bv := by rw [Nat.zero_add, hY.cellAt _ (by omega)]; exact hbv
        have c1' : wr.cell? ⟨g, k * 4 + 1, none⟩ = some bv := by rw [hY.cellAt _ (by omega)]; exact hbv
        have HY : Hid (wr.ownsRow B 45 4 (.slice (some ⟨g, 0, none⟩) n cap) n ys) := hY
        have HO : Hid (Owns B wr bv M) := hO
        have HL : Hid (ys[k * 4]? = some (.int .i64 l)) := hl
        have HM : Hid (M.length * 8 ≤ 140737488351232) := hM
        clear hY hO hl hbv hM
        go_wp2_with fail
        refine (spoil_more B bv M _ HO.out HM.out).mono ?_
        rintro e w1 ⟨rfl, b1, s1⟩
        have hY1 := s1.2 _ _ _ HY.out
        have c0 : w1.cell? ⟨g, k * 4, none⟩ = some (.int .i64 l) := by rw [hY1.cellAt _ (by omega)]; exact HL.out
        have hf := hY1.frozenAt (k * 4)
        have HY1 : Hid (w1.ownsRow B 45 4 (.slice (some ⟨g, 0, none⟩) n cap) n ys) := hY1
        have S1 : Hid (Soft B wr w1) := s1
        have B1 : Hid (Below B w w1) := HB.out.trans b1
        clear hY1 b1 s1 c1 c1' HO HM HY
        go_wp2
        go_roundw
        case rel =>
          refine ⟨k + 1, by omega, by go_num, ⟨ys.set (k * 4) _, (HY1.out.stored (k * 4) _).1, ?_⟩, B1.out.setCell (by exact hb) _⟩
          intro j hj
          obtain ⟨⟨l', hl'⟩, bv', M', hbv', hM', hO'⟩ := HP.out j hj
          obtain ⟨M2, hm2, hO2⟩ := S1.out.1 _ _ hO'
          refine ⟨?_, bv', M2, ?_, by rw [hm2]; exact hM', ?_⟩
          · rw [List.getElem?_set]
            split
            · split
              · exact ⟨_, rfl⟩
              · exact ⟨l', by rw [List.getElem?_eq_none (by omega)] at hl'; cases hl'⟩
            · exact ⟨l', hl'⟩
          · rw [List.getElem?_set_ne (by omega)]; exact hbv'
          · exact World.ownsRow.kept hO2 (HY1.out.stored (k * 4) _).2 (own_apart hO2 HY1.out (by decide))
        case measure => simp [intOf]; omega
      · clear hY
        go_wp2
        go_end0
        exact ⟨rfl, HB.out⟩
end Go.Proofs.Ytbjaogcejcfpbaa
