/-
  A row of 256 numbers in a block: laid, read, written. No conditions but those of each statement.
-/
import Derived.Test.YtbcdfobclliboaaPlay2
namespace Go.Proofs.Ytbcdfobclliboaa
open Go.RowKit Plain
set_option linter.unusedVariables false

theorem info41 : (Try.prog.info? 41).map (fun i => (i.zero, i.size)) = some (some (.agg (List.replicate 256 (Value.int .i64 0)).toArray), 256) := by kernel_rfl
theorem zero41 : ∃ cs : Array Value, cs = (List.replicate 256 (Value.int .i64 0)).toArray ∧ ∀ w, (zeroValue 41).run Try.prog w = .ok (.agg cs) w := by
  refine ⟨_, rfl, fun w => ?_⟩
  have h := info41
  cases hq : Try.prog.info? 41 with
  | none => rw [hq] at h; cases h
  | some i =>
    rw [hq] at h
    simp only [Option.map_some, Option.some.injEq, Prod.mk.injEq] at h
    obtain ⟨cs, hcs⟩ : ∃ cs, cs = (List.replicate 256 (Value.int .i64 0)).toArray := ⟨_, rfl⟩
    rw [← hcs] at h ⊢
    simp [zeroValue, typeInfo, go_sem, hq, h.1]
/-- Block b holds the row W. -/
def Wan (z : World) (b : Nat) (W : List Int) : Prop := Blk z b 41 (ints W)
theorem Wan.new (w : World) (cs : Array Value) (h : cs = (List.replicate 256 (Value.int .i64 0)).toArray) : Wan (w.alloc (.cells cs 41)) w.heap.size (List.replicate 256 0) :=
  Blk.new w 41 _ cs (by rw [h, ints, List.map_replicate])
theorem Wan.below {w w' : World} {b : Nat} {W : List Int} (h : Wan w b W) (k : Below w.heap.size w w') : Wan w' b W := Blk.below h k
theorem Wan.cell {w : World} {b : Nat} {W : List Int} (h : Wan w b W) (k : Nat) (hk : k < W.length) : w.cell? ⟨b, k, none⟩ = some (.int .i64 (W.getD k 0)) := Blk.cell h k (ints_at hk)
theorem Wan.set {w : World} {b : Nat} {W : List Int} (h : Wan w b W) (k : Nat) (x : Int) : Wan (w.setCell ⟨b, k, none⟩ (.int .i64 x)) b (W.set k x) := by
  have h1 := Blk.set h k (.int .i64 x)
  unfold Wan
  rw [show ints (W.set k x) = (ints W).set k (.int .i64 x) from List.map_set]
  exact h1
theorem CO.set_want {B b : Nat} {z : World} {u v : Value} {y : Int} {A : List Int} {T : List ByteArray} {x : Int} {W : List Int} (h : CO B z (.agg #[u, v, .int .i64 y]) A T x) (hb : Wan z b W) (i : Nat) (o : Value) : CO B (z.setCell ⟨b, i, none⟩ o) (.agg #[u, v, .int .i64 y]) A T x := by
  obtain ⟨h1, h2, rfl⟩ := h.told
  exact ⟨u, v, rfl, h1.set_other _ _ (h1.apart hb (by decide)), h2.set_other _ _ (h2.apart hb (by decide))⟩
theorem Va.want {B b c : Nat} {z : World} {W : List Int} {q1 : Option Addr} {n1 p1 : Nat} {q2 : Option Addr} {n2 p2 : Nat} {y : Int} {A : List Int} {T : List ByteArray} {x : Int} (h : Va B z b q1 n1 p1 q2 n2 p2 y A T x) (hc : Wan z c W) (hne : c ≠ b) (i : Nat) (o : Value) : Va B (z.setCell ⟨c, i, none⟩ o) b q1 n1 p1 q2 n2 p2 y A T x :=
  ⟨h.blk.other _ _ _ hne, h.own.set_want hc i o⟩
end Go.Proofs.Ytbcdfobclliboaa
