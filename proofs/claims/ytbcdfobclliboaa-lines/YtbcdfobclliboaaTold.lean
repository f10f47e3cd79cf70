/-
  What a walk of the laws wants of the calls: Keep where it is done and where it is refused, Find and May where the answer is known; plain facts on caches of two lines. Conditions: those of each statement.
-/
import Derived.Test.YtbcdfobclliboaaCopy
namespace Go.Proofs.Ytbcdfobclliboaa
open Go.RowKit Plain
set_option linter.unusedVariables false

theorem text_num (v : Int) (b : UInt8) (h : v = (b.toNat : Int)) (w : World) :
    Calls Try.prog 21 #[.int .u8 v] w fun e w' => ∃ R, e = .returned (.string R) ∧ Hid (R = lineT b ∧ R.size = 16) ∧ Below w.heap.size w w' := by
  subst h
  exact (text_any b w).mono fun e w' ⟨R, h1, h2, h3⟩ => ⟨R, h1, ⟨h2.out, by rw [h2.out]; exact lineT_size b⟩, h3⟩
theorem keep_yes (c : Value) (A : List Int) (T : List ByteArray) (x a : Int) (s : ByteArray) (w : World) (h : CR w c A T x) (hf : Fit A T) (hs : s.size = 16) (hm : mayB A T x = true) (ha : atB a = true) :
    Calls Try.prog 9 #[c, .int .i64 a, .string s] w fun e w' => ∃ q1 n1 p1 q2 n2 p2 y, e = .returned (.tuple #[.agg #[.slice q1 n1 p1, .slice q2 n2 p2, .int .i64 y], .int .i64 0]) ∧
      CO w.heap.size w' (.agg #[.slice q1 n1 p1, .slice q2 n2 p2, .int .i64 y]) (kA A x a) (kT A T x a s) (kX A x a) ∧ Below w.heap.size w w' := by
  have hk : kB A T x a s = true := by unfold kB whB; rw [hm, ha, hs]; rfl
  refine (keep_any c A T x a s w h hf (by unfold maxLen; omega)).mono ?_
  rintro e w' ⟨hb, ⟨-, q1, n1, p1, q2, n2, p2, y, h1, h2⟩ | ⟨h1, -⟩⟩
  · exact ⟨q1, n1, p1, q2, n2, p2, y, h1, h2, hb⟩
  · rw [hk] at h1; cases h1
theorem keep_no (c : Value) (A : List Int) (T : List ByteArray) (x a : Int) (s : ByteArray) (w : World) (h : CR w c A T x) (hf : Fit A T) (hs : s.size ≤ maxLen) (hk : kB A T x a s = false) :
    Calls Try.prog 9 #[c, .int .i64 a, .string s] w fun e w' => e = .returned (.tuple #[.agg #[.slice none 0 0, .slice none 0 0, .int .i64 0], .int .i64 1200]) ∧ Below w.heap.size w w' := by
  refine (keep_any c A T x a s w h hf hs).mono ?_
  rintro e w' ⟨hb, ⟨h1, -⟩ | ⟨-, h2⟩⟩
  · rw [hk] at h1; cases h1
  · exact ⟨h2, hb⟩

/-- A cache variable: block b holds the slices and the number; the rows lie above B. -/
structure Va (B : Nat) (z : World) (b : Nat) (q1 : Option Addr) (n1 p1 : Nat) (q2 : Option Addr) (n2 p2 : Nat) (y : Int) (A : List Int) (T : List ByteArray) (x : Int) : Prop where
  blk : Blk z b 25 [.slice q1 n1 p1, .slice q2 n2 p2, .int .i64 y]
  own : CO B z (.agg #[.slice q1 n1 p1, .slice q2 n2 p2, .int .i64 y]) A T x
theorem Va.below {B B' : Nat} {z z' : World} {b : Nat} {q1 : Option Addr} {n1 p1 : Nat} {q2 : Option Addr} {n2 p2 : Nat} {y : Int} {A : List Int} {T : List ByteArray} {x : Int} (h : Va B z b q1 n1 p1 q2 n2 p2 y A T x) (k : Below z.heap.size z z') (hB : B' ≤ B) : Va B' z' b q1 n1 p1 q2 n2 p2 y A T x :=
  ⟨h.blk.below k, h.own.below k hB⟩
theorem Va.cells {B : Nat} {z : World} {b : Nat} {q1 : Option Addr} {n1 p1 : Nat} {q2 : Option Addr} {n2 p2 : Nat} {y : Int} {A : List Int} {T : List ByteArray} {x : Int} (h : Va B z b q1 n1 p1 q2 n2 p2 y A T x) :
    z.cell? ⟨b, 0, none⟩ = some (.slice q1 n1 p1) ∧ z.cell? ⟨b, 1, none⟩ = some (.slice q2 n2 p2) ∧ z.cell? ⟨b, 2, none⟩ = some (.int .i64 y) :=
  ⟨h.blk.cell 0 rfl, h.blk.cell 1 rfl, h.blk.cell 2 rfl⟩
theorem CO.set_other {B b : Nat} {z : World} {u v : Value} {y : Int} {A : List Int} {T L : List _} {x : Int} (h : CO B z (.agg #[u, v, .int .i64 y]) A T x) (hb : Blk z b 25 L) (i : Nat) (o : Value) : CO B (z.setCell ⟨b, i, none⟩ o) (.agg #[u, v, .int .i64 y]) A T x := by
  obtain ⟨h1, h2, rfl⟩ := h.told
  exact ⟨u, v, rfl, h1.set_other _ _ (h1.apart hb (by decide)), h2.set_other _ _ (h2.apart hb (by decide))⟩
/-- A variable written whole. -/
theorem Va.put {B b : Nat} {z : World} {L : List Value} {q1 : Option Addr} {n1 p1 : Nat} {q2 : Option Addr} {n2 p2 : Nat} {y : Int} {A : List Int} {T : List ByteArray} {x : Int} (hb : Blk z b 25 L) (hl : L.length = 3) (h : CO B z (.agg #[.slice q1 n1 p1, .slice q2 n2 p2, .int .i64 y]) A T x) :
    Va B (((z.setCell ⟨b, 0, none⟩ (.slice q1 n1 p1)).setCell ⟨b, 1, none⟩ (.slice q2 n2 p2)).setCell ⟨b, 2, none⟩ (.int .i64 y)) b q1 n1 p1 q2 n2 p2 y A T x := by
  match L, hl with
  | [l0, l1, l2], _ =>
    have b1 := hb.set 0 (.slice q1 n1 p1)
    have b2 := b1.set 1 (.slice q2 n2 p2)
    exact ⟨b2.set 2 (.int .i64 y), ((h.set_other hb 0 _).set_other b1 1 _).set_other b2 2 _⟩
theorem Va.new {B : Nat} {z : World} {q1 : Option Addr} {n1 p1 : Nat} {q2 : Option Addr} {n2 p2 : Nat} {y : Int} {A : List Int} {T : List ByteArray} {x : Int} (h : CO B z (.agg #[.slice q1 n1 p1, .slice q2 n2 p2, .int .i64 y]) A T x) :
    Va B (z.alloc (.cells #[.slice q1 n1 p1, .slice q2 n2 p2, .int .i64 y] 25)) z.heap.size q1 n1 p1 q2 n2 p2 y A T x :=
  ⟨Blk.new _ _ _ _ rfl, h.below (below_new _ _) (Nat.le_refl _)⟩
/-- Another variable written leaves this one. -/
theorem Va.other {B b c : Nat} {z : World} {L : List Value} {q1 : Option Addr} {n1 p1 : Nat} {q2 : Option Addr} {n2 p2 : Nat} {y : Int} {A : List Int} {T : List ByteArray} {x : Int} (h : Va B z b q1 n1 p1 q2 n2 p2 y A T x) (hc : Blk z c 25 L) (hne : c ≠ b) (i : Nat) (o : Value) : Va B (z.setCell ⟨c, i, none⟩ o) b q1 n1 p1 q2 n2 p2 y A T x :=
  ⟨h.blk.other _ _ _ hne, h.own.set_other hc i o⟩

/- Plain facts. -/
theorem em_yes : emB (-1) ByteArray.empty = true := by decide
theorem wh_is {a : Int} {s : ByteArray} (hs : s.size = 16) : whB a s = atB a := by unfold whB; rw [hs]; simp
theorem may_two {a0 a1 : Int} {t0 t1 : ByteArray} {x : Int} (hx : 0 ≤ x ∧ x < 2) (h0 : (a0 = -1 ∧ t0 = ByteArray.empty) ∨ (atB a0 = true ∧ t0.size = 16)) (h1 : (a1 = -1 ∧ t1 = ByteArray.empty) ∨ (atB a1 = true ∧ t1.size = 16 ∧ a1 ≠ a0)) : mayB [a0, a1] [t0, t1] x = true := by
  refine may_yes rfl rfl hx.1 hx.2 fun j hj => ?_
  rcases (show j = 0 ∨ j = 1 by omega) with rfl | rfl
  · show (emB a0 t0 || (whB a0 t0 && !(decide (a0 ∈ [])))) = true
    rcases h0 with ⟨rfl, rfl⟩ | ⟨h, hs⟩
    · rfl
    · rw [wh_is hs, h]; simp
  · show (emB a1 t1 || (whB a1 t1 && !(decide (a1 ∈ [a0])))) = true
    rcases h1 with ⟨rfl, rfl⟩ | ⟨h, hs, hne⟩
    · rfl
    · rw [wh_is hs, h]; simp [hne]
theorem fit_two {a0 a1 : Int} {t0 t1 : ByteArray} (h0 : t0.size ≤ 16) (h1 : t1.size ≤ 16) : Fit [a0, a1] [t0, t1] :=
  ⟨by simp, by simp, fun t ht => by
    simp at ht
    rcases ht with rfl | rfl
    · unfold maxLen; omega
    · unfold maxLen; omega⟩
theorem fit_none : Fit [] [] := ⟨by decide, by decide, fun t ht => by simp at ht⟩
theorem nil_reads (w : World) : CR w (.agg #[.slice none 0 0, .slice none 0 0, .int .i64 0]) [] [] 0 := ⟨_, _, rfl, ⟨none, 0, rfl, fun h => by simp at h⟩, ⟨none, 0, rfl, fun h => by simp at h⟩⟩
theorem may_none : mayB [] [] 0 = false := by decide
theorem lineT_at (b : UInt8) (i : Nat) (h : i < 16) : ub (lineT b) i = b + UInt8.ofNat i := ub_tab _ _ _ h
end Go.Proofs.Ytbcdfobclliboaa
