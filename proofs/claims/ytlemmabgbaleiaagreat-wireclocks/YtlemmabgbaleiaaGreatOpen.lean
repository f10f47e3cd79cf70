/-
  A row of phases that came in, as the frame tells it. Condition: what it reads fits in memory.
-/
import Derived.Test.YtlemmabgbaleiaaGreatRows
import Derived.ProofKit
import Derived.OpenShut
import Derived.SizedLaws
import Derived.Deep.Slices
import Derived.Deep.Strs
import Derived.Test.YtlemmabgbaleiaaGreatReadRows
namespace Go.Proofs.YtlemmabgbaleiaaGreat
open Go.ChangeShapes Go.WideShapes Go.ChangeAt Go.RowKit Go.Deep
open Plain
set_option linter.unusedVariables false

theorem reads_rin {w : World} {v : Value} {L : List Int} (h : Reads w v L) : RIn (fun g => g < w.heap.size) w v L := by
  obtain ⟨a, cap, rfl, h⟩ := h
  refine ⟨a, cap, rfl, fun h0 => ?_⟩
  obtain ⟨g, o, rfl, hc⟩ := h h0
  exact ⟨g, o, rfl, by exact cell_lt (hc 0 h0), hc⟩
/-- A phase lies in four cells. -/
structure PhAt (w : World) (g o : Nat) (bv : Value) (p : Ph) : Prop where
  lanes : w.cell? ⟨g, o, none⟩ = some (.int .i64 p.1)
  bytes : w.cell? ⟨g, o + 1, none⟩ = some bv
  clocks : w.cell? ⟨g, o + 2, none⟩ = some (.int .i64 p.2.2.1)
  read : w.cell? ⟨g, o + 3, none⟩ = some (.int .i64 p.2.2.2)
  row : Reads w bv p.2.1
  size : p.2.1.length * 8 ≤ 140737488351232
theorem cells50' : Tryz.prog.cellsOf 50 = 4 := by kernel_rfl
theorem add_plain4 {w : World} {x : Addr} {j : Nat} {v : Value} (h : w.cell? (x.add j) = some v) : w.cell? ⟨x.block, x.off + j, none⟩ = some v := by
  obtain ⟨b, off, spot⟩ := x
  unfold Addr.add at h
  split at h
  · rename_i e
    have hs := World.cell?_spot h
    have hs' : spot = none := hs
    subst hs'
    rw [e]
    exact h
  · exact h
theorem all_mem4 {H : Type} {P : Program} {e : TypeId} : ∀ {ds : List (DataW H)} {d : DataW H}, d ∈ ds → ∀ n ∈ d.weights P e, n ∈ DataW.weightsAll P e ds
  | d0 :: ds, d, hd, n, hn => by
    simp only [DataW.weightsAll, List.mem_append]
    rcases List.mem_cons.1 hd with rfl | hd
    · exact .inl hn
    · exact .inr (all_mem4 hd n hn)

set_option maxRecDepth 100000 in
theorem phs_open {H : Type} {enc : TypeId × Value → H} {W : World} {fuel : Nat} {a : Option Addr} {n cap : Nat} {x : DataW H × List MemPlace} (h : DataW.trod enc Tryz.prog W 0 (fun _ => true) true fuel 28 [.slice a n cap] = some x)
    (hw : ∀ y ∈ x.1.weights Tryz.prog 28, y ≤ reachBytes) : ∃ ps, ps.length = n ∧ PIn (fun g => g < W.heap.size) W (.slice a n cap) ps ∧ PFit ps := by
  rcases open_slice Tryz.underlying28 h with ⟨hcs, _⟩ | ⟨ad, len, cp, m, k, D, Pl, hcs, hb, hl, hm, hmm, hx, hc⟩
  · simp only [List.cons.injEq, Value.slice.injEq, and_true] at hcs
    obtain ⟨rfl, rfl, rfl⟩ := hcs
    exact ⟨[], rfl, ⟨none, 0, rfl, Nat.le_refl _, fun h => absurd h (by decide)⟩, by decide, fun p hp => by cases hp⟩
  · simp only [List.cons.injEq, Value.slice.injEq, and_true] at hcs
    obtain ⟨rfl, rfl, rfl⟩ := hcs
    have hmc : m = cap := by simpa using hmm
    rw [cells50'] at hc
    have hbytes : n * 48 ≤ 140737488351232 := by
      have h48 := hw ((n + (m - n)) * 48) (by
        rw [hx]
        simp only [DataW.weights, Tryz.underlying28]
        rw [show Tryz.prog.bytesOf 50 = 48 by kernel_rfl, List.length_map, List.length_map, List.length_range, List.length_range]
        exact List.mem_cons_self)
      simp only [reachBytes] at h48
      omega
    have each : ∀ i, i < n → ∃ q : Value × Ph, PhAt W ad.block (ad.off + i * 4) q.1 q.2 := fun i hi => by
      obtain ⟨cs, h1, h2⟩ := hc i (by omega)
      obtain ⟨_, hlen, hcell⟩ := World.cells?_some h1
      have hwi : ∀ y ∈ (D i).weights Tryz.prog 50, y ≤ reachBytes := fun y hy => hw y (by
        rw [hx]
        simp only [DataW.weights, Tryz.underlying28, List.mem_cons, List.mem_append]
        exact .inr (.inl (all_mem4 (List.mem_map.2 ⟨i, List.mem_range.2 hi, rfl⟩) y hy)))
      obtain ⟨xs, k', -, hxy, -, hlen2, hf⟩ := DataW.trod_struct Tryz.underlying50 h2
      match cs, hlen with
      | [v0, v1, v2, v3], _ =>
        match xs, hlen2 with
        | [y0, y1, y2, y3], _ =>
          have c3 : Tryz.prog.cellsOf 3 = 1 := by kernel_rfl
          have c23 : Tryz.prog.cellsOf 23 = 1 := by kernel_rfl
          have e0 := hcell 0 (by omega)
          have e1 := hcell 1 (by omega)
          have e2 := hcell 2 (by omega)
          have e3 := hcell 3 (by omega)
          rw [add_add] at e0 e1 e2 e3
          have f0 : W.cell? ⟨ad.block, ad.off + (i * 4 + 0), none⟩ = some v0 := add_plain4 e0
          have f1 : W.cell? ⟨ad.block, ad.off + (i * 4 + 1), none⟩ = some v1 := add_plain4 e1
          have f2 : W.cell? ⟨ad.block, ad.off + (i * 4 + 2), none⟩ = some v2 := add_plain4 e2
          have f3 : W.cell? ⟨ad.block, ad.off + (i * 4 + 3), none⟩ = some v3 := add_plain4 e3
          have g0 : DataW.trod enc Tryz.prog W 0 (fun _ => true) true k' 3 (List.take (Tryz.prog.cellsOf 3) (List.drop 0 [v0, v1, v2, v3])) = some y0 := hf 0 _ rfl
          have g1 : DataW.trod enc Tryz.prog W 0 (fun _ => true) true k' 23 (List.take (Tryz.prog.cellsOf 23) (List.drop 1 [v0, v1, v2, v3])) = some y1 := hf 1 _ rfl
          have g2 : DataW.trod enc Tryz.prog W 0 (fun _ => true) true k' 3 (List.take (Tryz.prog.cellsOf 3) (List.drop 2 [v0, v1, v2, v3])) = some y2 := hf 2 _ rfl
          have g3 : DataW.trod enc Tryz.prog W 0 (fun _ => true) true k' 3 (List.take (Tryz.prog.cellsOf 3) (List.drop 3 [v0, v1, v2, v3])) = some y3 := hf 3 _ rfl
          rw [c3] at g0 g2 g3
          rw [c23] at g1
          simp only [List.drop, List.take] at g0 g1 g2 g3
          obtain ⟨z0, hz0, -, -⟩ := DataW.trod_int Tryz.underlying3 g0
          obtain ⟨z2, hz2, -, -⟩ := DataW.trod_int Tryz.underlying3 g2
          obtain ⟨z3, hz3, -, -⟩ := DataW.trod_int Tryz.underlying3 g3
          simp only [List.cons.injEq, and_true] at hz0 hz2 hz3
          subst hz0 hz2 hz3
          have hD : D i = .agg [y0.1, y1.1, y2.1, y3.1] := by simpa using congrArg Prod.fst hxy
          have hwy : ∀ y ∈ y1.1.weights Tryz.prog 23, y ≤ reachBytes := fun y hy => hwi y (by
            rw [hD]
            simp only [DataW.weights, Tryz.underlying50]
            exact DataW.weights_mem_each (j := 1) rfl rfl y hy)
          have hrow : ∃ a n c L, v1 = .slice a n c ∧ Came W a n c L ∧ n * 8 ≤ 140737488351232 := by
            rcases open_ints Tryz.underlying23 Tryz.underlying3 c3 g1 with ⟨hq, _⟩ | ⟨b1, l1, c1, zs, hq, _, hl1, hm1, hz1, hx1, hcell1, _⟩
            · simp only [List.cons.injEq, and_true] at hq
              exact ⟨none, 0, 0, [], hq, ⟨rfl, .inl ⟨rfl, rfl, rfl⟩⟩, by omega⟩
            · simp only [List.cons.injEq, and_true] at hq
              have hzl : zs.length = c1 := by simpa using hz1
              have hb8 := hwy ((lits .i64 (zs.take l1)).length * 8 + (lits (H := H) .i64 (zs.drop l1)).length * 8) (by
                rw [hx1]
                simp only [DataW.weights, Tryz.underlying23]
                rw [show Tryz.prog.bytesOf 3 = 8 by kernel_rfl, Nat.add_mul]
                exact List.mem_cons_self)
              simp only [lits, List.length_map, List.length_take, List.length_drop, reachBytes] at hb8
              exact ⟨some b1, l1, c1, zs.take l1, hq, came_of hl1 hzl hcell1, by omega⟩
          obtain ⟨ra, rn, rc, rL, rv, hcame, hsz⟩ := hrow
          have hrl : rL.length = rn := hcame.1
          refine ⟨⟨v1, z0, rL, z2, z3⟩, ?_, ?_, ?_, ?_, ?_, ?_⟩
          · exact f0
          · exact f1
          · exact f2
          · exact f3
          · show Reads W v1 rL
            rw [rv]; exact hcame.reads
          · show rL.length * 8 ≤ _
            rw [hrl]; exact hsz
    haveI : Inhabited (Value × Ph) := ⟨(.bool false, 0, [], 0, 0)⟩
    obtain ⟨q, hq⟩ := choose_lt each
    have hsp : 0 < n → ad.spot = none := fun h0 => by
      obtain ⟨cs, h1, _⟩ := hc 0 (by omega)
      obtain ⟨_, hlen, hcell⟩ := World.cells?_some h1
      match cs, hlen with
      | [v0, v1, v2, v3], _ =>
        have e0 := hcell 0 (by omega)
        rw [add_add] at e0
        obtain ⟨bk, off, sp⟩ := ad
        have e1 : W.cell? ((⟨bk, off, sp⟩ : Addr).add (0 * 4 + 0)) = some v0 := e0
        have := World.cell?_spot e1
        simpa [Addr.add] using this
    refine ⟨(List.range n).map fun i => (q i).2, by simp, ⟨some ad, cap, by simp, by simp; exact hl, fun h0 => ?_⟩, ⟨by simp; exact hbytes, fun p hp => ?_⟩⟩
    · have h0' : 0 < n := by simpa using h0
      obtain ⟨bk, off, sp⟩ := ad
      have hs := hsp h0'
      dsimp only at hs
      subst hs
      refine ⟨bk, off, rfl, ?_, fun j p hj => ?_⟩
      · exact cell_lt (hq 0 h0').lanes
      · have hjn : j < n := by
          rcases Nat.lt_or_ge j n with h | h
          · exact h
          · rw [List.getElem?_eq_none (by simp; exact h)] at hj; cases hj
        have hjp : (q j).2 = p := by simpa [hjn] using hj
        have hk := hq j hjn
        rw [hjp] at hk
        exact ⟨(q j).1, reads_rin hk.row, hk.lanes, hk.bytes, hk.clocks, hk.read⟩
    · obtain ⟨i, hi, rfl⟩ := List.mem_map.1 hp
      exact (hq i (List.mem_range.1 hi)).size
end Go.Proofs.YtlemmabgbaleiaaGreat
