/-
  A command that came in, and what both Commands answer, told in one form. No conditions but those of each statement.
-/
import Derived.Test.YtbjaogcejcfpbaaAwake
import Derived.ProofKit
import Derived.OpenShut
import Derived.ChangeOld
import Derived.SizedLaws
namespace Go.Proofs.Ytbjaogcejcfpbaa
open Go.ChangeShapes Go.WideShapes Go.ChangeAt Go.RowKit
set_option linter.unusedVariables false

theorem op_open {H : Type} {enc : TypeId × Value → H} {W : World} {base fuel : Nat} {v : Value} {x : DataW H × List MemPlace} (hval : Value.okWide Try.prog W .any base 23 v) (h : DataW.trod enc Try.prog W 0 (fun _ => true) true fuel 23 v.cells.toList = some x) :
    ∃ (b A : Int) (M : Bool) (D N : Int) (I : Bool), v = .agg #[.int .i64 b, .int .i64 A, .bool M, .int .i64 D, .int .i64 N, .bool I] := by
  obtain ⟨cs, rfl, hs⟩ := okWide_struct Try.underlying23 hval
  rw [show Try.prog.cellsOf 23 = 6 by kernel_rfl] at hs
  obtain ⟨l⟩ := cs
  simp only [List.size_toArray] at hs
  obtain ⟨xs, n, -, -, -, hlen, hf⟩ := DataW.trod_struct Try.underlying23 h
  match l, hs with
  | [v0, v1, v2, v3, v4, v5], _ =>
    have c3 : Try.prog.cellsOf 3 = 1 := by kernel_rfl
    have c4 : Try.prog.cellsOf 4 = 1 := by kernel_rfl
    match xs, hlen with
    | [y0, y1, y2, y3, y4, y5], _ =>
      have g0 : DataW.trod enc Try.prog W 0 (fun _ => true) true n 3 (List.take (Try.prog.cellsOf 3) (List.drop 0 [v0, v1, v2, v3, v4, v5])) = some y0 := hf 0 _ rfl
      have g1 : DataW.trod enc Try.prog W 0 (fun _ => true) true n 3 (List.take (Try.prog.cellsOf 3) (List.drop 1 [v0, v1, v2, v3, v4, v5])) = some y1 := hf 1 _ rfl
      have g2 : DataW.trod enc Try.prog W 0 (fun _ => true) true n 4 (List.take (Try.prog.cellsOf 4) (List.drop 2 [v0, v1, v2, v3, v4, v5])) = some y2 := hf 2 _ rfl
      have g3 : DataW.trod enc Try.prog W 0 (fun _ => true) true n 3 (List.take (Try.prog.cellsOf 3) (List.drop 3 [v0, v1, v2, v3, v4, v5])) = some y3 := hf 3 _ rfl
      have g4 : DataW.trod enc Try.prog W 0 (fun _ => true) true n 3 (List.take (Try.prog.cellsOf 3) (List.drop 4 [v0, v1, v2, v3, v4, v5])) = some y4 := hf 4 _ rfl
      have g5 : DataW.trod enc Try.prog W 0 (fun _ => true) true n 4 (List.take (Try.prog.cellsOf 4) (List.drop 5 [v0, v1, v2, v3, v4, v5])) = some y5 := hf 5 _ rfl
      rw [c3] at g0
      rw [c3] at g1
      rw [c4] at g2
      rw [c3] at g3
      rw [c3] at g4
      rw [c4] at g5
      simp only [List.drop, List.take] at g0 g1 g2 g3 g4 g5
      obtain ⟨b, e0, -, -⟩ := DataW.trod_int Try.underlying3 g0
      obtain ⟨A, e1, -, -⟩ := DataW.trod_int Try.underlying3 g1
      obtain ⟨M, e2, -⟩ := DataW.trod_bool Try.underlying4 g2
      obtain ⟨D, e3, -, -⟩ := DataW.trod_int Try.underlying3 g3
      obtain ⟨N, e4, -, -⟩ := DataW.trod_int Try.underlying3 g4
      obtain ⟨I, e5, -⟩ := DataW.trod_bool Try.underlying4 g5
      simp only [List.cons.injEq, and_true] at e0 e1 e2 e3 e4 e5
      subst e0 e1 e2 e3 e4 e5
      exact ⟨b, A, M, D, N, I, rfl⟩

/-- The error's number, and the phases, of what is answered. -/
def tellE (o : Op6) (k : Int) (L : List Int) (r : Int) : Int := if fitB o.1 o.2.1 o.2.2.1 o.2.2.2.1 o.2.2.2.2.1 o.2.2.2.2.2 k L r = true then 0 else 900
def tellX (o : Op6) (k : Int) (L : List Int) (r : Int) : List Ph := if fitB o.1 o.2.1 o.2.2.1 o.2.2.2.1 o.2.2.2.2.1 o.2.2.2.2.2 k L r = true then phL o k.toNat L r else []
theorem drives_both {o : Op6} {k : Int} {L : List Int} {r : Int} {w w' : World} {e : Ending} (h : Drives o k L r w e w') : ∃ v, e = .returned (.tuple #[v, .int .i64 (tellE o k L r)]) ∧ ∃ qs, POwns w.heap.size w' v qs ∧ qs.map Prod.snd = tellX o k L r ∧ Below w.heap.size w w' := by
  obtain ⟨⟨hf, he⟩ | ⟨hf, v, he, qs, hp, hX⟩, hb⟩ := h
  · refine ⟨.slice none 0 0, by rw [he, tellE, hf]; rfl, [], POwns.nil _ _, by rw [tellX, hf]; rfl, hb⟩
  · exact ⟨v, by rw [he, tellE, if_pos hf], qs, hp, by rw [hX, tellX, if_pos hf], hb⟩
theorem tell_short (o : Op6) (k : Int) (L : List Int) (r : Int) (hl : L.length * 8 ≤ 140737488351232) : PShort (tellX o k L r) := by
  unfold tellX
  split
  · exact short_phL _ _ _ _ hl
  · exact ⟨by decide, fun p hp => by simp at hp⟩

theorem Box.other {w : World} {g g' : Nat} {o p : Op6} (h : Box w g' o) (hn : g ≠ g') : Box ((((((w.setCell ⟨g, 0, none⟩ (.int .i64 p.1)).setCell ⟨g, 1, none⟩ (.int .i64 p.2.1)).setCell ⟨g, 2, none⟩ (.bool p.2.2.1)).setCell ⟨g, 3, none⟩ (.int .i64 p.2.2.2.1)).setCell ⟨g, 4, none⟩ (.int .i64 p.2.2.2.2.1)).setCell ⟨g, 5, none⟩ (.bool p.2.2.2.2.2)) g' o := by
  have e : ∀ (z : World) (j : Nat) (v : Value), (z.setCell ⟨g, j, none⟩ v).heap[g']? = z.heap[g']? := fun z j v => by
    unfold World.setCell
    simp [Array.getElem?_modify, hn]
  unfold Box
  rw [e, e, e, e, e, e]
  exact h
end Go.Proofs.Ytbjaogcejcfpbaa
