/-
  A cache that came in, as the frame tells it. Condition: what it reads fits in memory.
-/
import Derived.Test.YtbcdfobclliboaaRows
import Derived.ProofKit
import Derived.OpenShut
import Derived.SizedLaws
import Derived.Deep.Slices
import Derived.Deep.Strs
import Derived.Test.YtbcdfobclliboaaLend
namespace Go.Proofs.Ytbcdfobclliboaa
open Go.ChangeShapes Go.WideShapes Go.ChangeAt Go.RowKit Go.Deep
open Plain
set_option linter.unusedVariables false

set_option maxRecDepth 100000 in
theorem cache_open {H : Type} {enc : TypeId × Value → H} {W : World} {base fuel : Nat} {v : Value} {x : DataW H × List MemPlace} (hv : Value.okWide Try.prog W .any base 25 v) (h : DataW.trod enc Try.prog W 0 (fun _ => true) true fuel 25 v.cells.toList = some x)
    (hw : ∀ y ∈ x.1.weights Try.prog 25, y ≤ reachBytes) : ∃ q1 n1 p1 q2 n2 p2 y A T, v = .agg #[.slice q1 n1 p1, .slice q2 n2 p2, .int .i64 y] ∧ CC W q1 n1 p1 q2 n2 p2 A T ∧ Fit A T := by
  obtain ⟨cs, rfl, hs⟩ := okWide_struct Try.underlying25 hv
  rw [show Try.prog.cellsOf 25 = 3 by kernel_rfl] at hs
  obtain ⟨l⟩ := cs
  simp only [List.size_toArray] at hs
  obtain ⟨xs, n, -, hxy, -, hlen, hf⟩ := DataW.trod_struct Try.underlying25 h
  match l, hs with
  | [v0, v1, v2], _ =>
    have c3 : Try.prog.cellsOf 3 = 1 := by kernel_rfl
    have c9 : Try.prog.cellsOf 9 = 1 := by kernel_rfl
    have c22 : Try.prog.cellsOf 22 = 1 := by kernel_rfl
    have c23 : Try.prog.cellsOf 23 = 1 := by kernel_rfl
    match xs, hlen with
    | [y0, y1, y2], _ =>
      have g0 : DataW.trod enc Try.prog W 0 (fun _ => true) true n 22 (List.take (Try.prog.cellsOf 22) (List.drop 0 [v0, v1, v2])) = some y0 := hf 0 _ rfl
      have g1 : DataW.trod enc Try.prog W 0 (fun _ => true) true n 23 (List.take (Try.prog.cellsOf 23) (List.drop 1 [v0, v1, v2])) = some y1 := hf 1 _ rfl
      have g2 : DataW.trod enc Try.prog W 0 (fun _ => true) true n 3 (List.take (Try.prog.cellsOf 3) (List.drop 2 [v0, v1, v2])) = some y2 := hf 2 _ rfl
      rw [c22] at g0
      rw [c23] at g1
      rw [c3] at g2
      simp only [List.drop, List.take] at g0 g1 g2
      obtain ⟨z2, hz2, -, -⟩ := DataW.trod_int Try.underlying3 g2
      simp only [List.cons.injEq, and_true] at hz2
      subst hz2
      have hD : x.1 = .agg [y0.1, y1.1, y2.1] := by simpa using congrArg Prod.fst hxy
      have hwy0 : ∀ y ∈ y0.1.weights Try.prog 22, y ≤ reachBytes := fun y hy => hw y (by
        rw [hD]
        simp only [DataW.weights, Try.underlying25]
        exact DataW.weights_mem_each (j := 0) rfl rfl y hy)
      have hwy1 : ∀ y ∈ y1.1.weights Try.prog 23, y ≤ reachBytes := fun y hy => hw y (by
        rw [hD]
        simp only [DataW.weights, Try.underlying25]
        exact DataW.weights_mem_each (j := 1) rfl rfl y hy)
      have r0 : ∃ q1 n1 p1 A, v0 = .slice q1 n1 p1 ∧ CV W q1 n1 p1 (ints A) ∧ n1 * 8 ≤ 140737488351232 := by
        rcases open_ints Try.underlying22 Try.underlying3 c3 g0 with ⟨hq, _⟩ | ⟨b1, l1, c1, zs, hq, _, hl1, hm1, hz1, hx1, hcell1, _⟩
        · simp only [List.cons.injEq, and_true] at hq
          exact ⟨none, 0, 0, [], hq, ⟨rfl, .inl ⟨rfl, rfl, rfl⟩⟩, by omega⟩
        · simp only [List.cons.injEq, and_true] at hq
          have hzl : zs.length = c1 := by simpa using hz1
          have hb8 := hwy0 ((lits .i64 (zs.take l1)).length * 8 + (lits (H := H) .i64 (zs.drop l1)).length * 8) (by
            rw [hx1]
            simp only [DataW.weights, Try.underlying22]
            rw [show Try.prog.bytesOf 3 = 8 by kernel_rfl, Nat.add_mul]
            exact List.mem_cons_self)
          simp only [lits, List.length_map, List.length_take, List.length_drop, reachBytes] at hb8
          exact ⟨some b1, l1, c1, zs.take l1, hq, (came_of hl1 hzl hcell1).vals, by omega⟩
      have r1 : ∃ q2 n2 p2 T, v1 = .slice q2 n2 p2 ∧ CV W q2 n2 p2 (txts T) ∧ n2 * 16 ≤ 140737488351232 ∧ ∀ t ∈ T, t.size ≤ maxLen := by
        rcases open_strs Try.underlying23 Try.underlying9 c9 g1 with ⟨hq, _⟩ | ⟨ad, len, cap, m, Sx, hq, _, hl1, hm1, hmm, hx1, hcell⟩
        · simp only [List.cons.injEq, and_true] at hq
          exact ⟨none, 0, 0, [], hq, ⟨rfl, .inl ⟨rfl, rfl, rfl⟩⟩, by omega, fun t ht => by cases ht⟩
        · simp only [List.cons.injEq, and_true] at hq
          have hmc : m = cap := by simpa using hmm
          have hb16 := hwy1 ((len + (m - len)) * 16) (by
            rw [hx1]
            simp only [DataW.weights, Try.underlying23]
            rw [show Try.prog.bytesOf 9 = 16 by kernel_rfl, List.length_map, List.length_map, List.length_range, List.length_range]
            exact List.mem_cons_self)
          simp only [reachBytes] at hb16
          refine ⟨some ad, len, cap, (List.range len).map Sx, hq, ⟨by simp, .inr ⟨ad, rfl, hl1, fun j u hu => ?_⟩⟩, by omega, fun t ht => ?_⟩
          · have hj : j < len := by
              rcases Nat.lt_or_ge j len with h | h
              · exact h
              · rw [List.getElem?_eq_none (by simp; exact h)] at hu; cases hu
            have : u = .string (Sx j) := by simpa [hj] using hu.symm
            rw [this]
            exact (hcell j (by omega)).1
          · obtain ⟨j, hj, rfl⟩ := List.mem_map.1 ht
            have := List.mem_range.1 hj
            exact (hcell j (by omega)).2
      obtain ⟨q1, n1, p1, A, e0, hA, hA8⟩ := r0
      obtain ⟨q2, n2, p2, T, e1, hT, hT16, hTs⟩ := r1
      subst e0 e1
      have hal : A.length = n1 := by have := hA.1; rwa [List.length_map] at this
      have htl : T.length = n2 := by have := hT.1; rwa [List.length_map] at this
      exact ⟨q1, n1, p1, q2, n2, p2, z2, A, T, rfl, ⟨hA, hT⟩, ⟨by omega, by omega, hTs⟩⟩
end Go.Proofs.Ytbcdfobclliboaa
