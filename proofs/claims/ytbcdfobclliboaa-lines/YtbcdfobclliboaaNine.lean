/-
  What the law on caches that are none wants: plain facts, and a cache variable with one thing turned. Nothing of the program is named but the places of a cache.
-/
import Derived.Test.YtbcdfobclliboaaLend
namespace Go.Proofs.Ytbcdfobclliboaa
open Go.RowKit Plain
set_option linter.unusedVariables false

theorem umod9 (x : Int) : ∃ K : Nat, K < 9 ∧ (IntKind.u64.wrap x).tmod 9 = (K : Int) := by
  have h0 : 0 ≤ IntKind.u64.wrap x := by rw [IntKind.wrap_u64]; omega
  obtain ⟨u, hu⟩ := Int.eq_ofNat_of_zero_le h0
  exact ⟨u % 9, Nat.mod_lt _ (by omega), by rw [hu]; rfl⟩
/-- A cache that may not be, in a variable. -/
def Bad (w : World) (cb bb : Nat) (q1 : Option Addr) (n1 p1 : Nat) (q2 : Option Addr) (n2 p2 : Nat) (R : ByteArray) (z : World) : Prop :=
  ∃ r1 m1 s1 r2 m2 s2 y A T, Va w.heap.size z bb r1 m1 s1 r2 m2 s2 y A T y ∧ mayB A T y = false ∧ Fit A T ∧ Va w.heap.size z cb q1 n1 p1 q2 n2 p2 1 [64, -1] [R, ByteArray.empty] 1 ∧ Below w.heap.size w z
theorem Va.of {B : Nat} {z : World} {b : Nat} {q1 : Option Addr} {n1 p1 : Nat} {q2 : Option Addr} {n2 p2 : Nat} {y : Int} {A : List Int} {T : List ByteArray} (h : Blk z b 25 [.slice q1 n1 p1, .slice q2 n2 p2, .int .i64 y]) (h1 : OV B 3 z (.slice q1 n1 p1) (ints A)) (h2 : OV B 9 z (.slice q2 n2 p2) (txts T)) : Va B z b q1 n1 p1 q2 n2 p2 y A T y :=
  ⟨h, ⟨_, _, rfl, h1, h2⟩⟩
/-- One field of the variable turned. -/
theorem Va.field {B b : Nat} {z : World} {q1 : Option Addr} {n1 p1 : Nat} {q2 : Option Addr} {n2 p2 : Nat} {y : Int} {A : List Int} {T : List ByteArray} (h : Va B z b q1 n1 p1 q2 n2 p2 y A T y) :
    (∀ r m s A', OV B 3 z (.slice r m s) (ints A') → Va B (z.setCell ⟨b, 0, none⟩ (.slice r m s)) b r m s q2 n2 p2 y A' T y) ∧
    (∀ r m s T', OV B 9 z (.slice r m s) (txts T') → Va B (z.setCell ⟨b, 1, none⟩ (.slice r m s)) b q1 n1 p1 r m s y A T' y) ∧
    (∀ y', Va B (z.setCell ⟨b, 2, none⟩ (.int .i64 y')) b q1 n1 p1 q2 n2 p2 y' A T y') := by
  obtain ⟨h1, h2, -⟩ := h.own.told
  refine ⟨fun r m s A' h3 => ?_, fun r m s T' h3 => ?_, fun y' => ?_⟩
  · exact Va.of (h.blk.set 0 _) (h3.set_other _ _ (h3.apart h.blk (by decide))) (h2.set_other _ _ (h2.apart h.blk (by decide)))
  · exact Va.of (h.blk.set 1 _) (h1.set_other _ _ (h1.apart h.blk (by decide))) (h3.set_other _ _ (h3.apart h.blk (by decide)))
  · exact Va.of (h.blk.set 2 _) (h1.set_other _ _ (h1.apart h.blk (by decide))) (h2.set_other _ _ (h2.apart h.blk (by decide)))
/-- One cell of the variable's rows turned. -/
theorem Va.atCell {B b g n c : Nat} {z : World} {q2 : Option Addr} {n2 p2 : Nat} {y : Int} {A : List Int} {T : List ByteArray} (h : Va B z b (some ⟨g, 0, none⟩) n c q2 n2 p2 y A T y) (k : Nat) (a : Int) : Va B (z.setCell ⟨g, k, none⟩ (.int .i64 a)) b (some ⟨g, 0, none⟩) n c q2 n2 p2 y (A.set k a) T y := by
  obtain ⟨h1, h2, -⟩ := h.own.told
  have hn : (ints A).length = n := by
    obtain ⟨a', c', e⟩ := h1.form
    simp at e
    rw [List.length_map]
    exact e.2.1.symm
  refine Va.of (h.blk.other _ _ _ fun e => h1.apart h.blk (by decide) (by simp [Value.ownBlock]; exact e.symm)) ?_ ?_
  · rw [show ints (A.set k a) = (ints A).set k (.int .i64 a) from List.map_set]
    exact h1.stored hn k _
  · refine h2.set_other _ _ fun e => ?_
    rcases h2.apart2 h1 (by decide) with h3 | h3
    · simp [Value.ownBlock] at h3
    · exact h3 (by rw [← e]; rfl)
theorem Va.textCell {B b g n c : Nat} {z : World} {q1 : Option Addr} {n1 p1 : Nat} {y : Int} {A : List Int} {T : List ByteArray} (h : Va B z b q1 n1 p1 (some ⟨g, 0, none⟩) n c y A T y) (k : Nat) (t : ByteArray) : Va B (z.setCell ⟨g, k, none⟩ (.string t)) b q1 n1 p1 (some ⟨g, 0, none⟩) n c y A (T.set k t) y := by
  obtain ⟨h1, h2, -⟩ := h.own.told
  have hn : (txts T).length = n := by
    obtain ⟨a', c', e⟩ := h2.form
    simp at e
    rw [List.length_map]
    exact e.2.1.symm
  refine Va.of (h.blk.other _ _ _ fun e => h2.apart h.blk (by decide) (by simp [Value.ownBlock]; exact e.symm)) ?_ ?_
  · refine h1.set_other _ _ fun e => ?_
    rcases h1.apart2 h2 (by decide) with h3 | h3
    · simp [Value.ownBlock] at h3
    · exact h3 (by rw [← e]; rfl)
  · rw [show txts (T.set k t) = (txts T).set k (.string t) from List.map_set]
    exact h2.stored hn k _
/-- A store into a block above the rows that it does not touch. -/
theorem Va.far {B b g : Nat} {z : World} {q1 : Option Addr} {n1 p1 : Nat} {q2 : Option Addr} {n2 p2 : Nat} {y : Int} {A : List Int} {T : List ByteArray} {x : Int} (h : Va B z b q1 n1 p1 q2 n2 p2 y A T x) (i : Nat) (o : Value) (h0 : g ≠ b) (h1 : some g ≠ (Value.slice q1 n1 p1).ownBlock) (h2 : some g ≠ (Value.slice q2 n2 p2).ownBlock) : Va B (z.setCell ⟨g, i, none⟩ o) b q1 n1 p1 q2 n2 p2 y A T x := by
  obtain ⟨o1, o2, rfl⟩ := h.own.told
  exact ⟨h.blk.other _ _ _ h0, ⟨_, _, rfl, o1.set_other _ _ h1, o2.set_other _ _ h2⟩⟩
theorem li_bad {A : List Int} {T : List ByteArray} {k : Nat} (h1 : A.getD k 0 ≠ -1) (h2 : atB (A.getD k 0) = false ∨ (T.getD k ByteArray.empty).size ≠ 16 ∨ A.getD k 0 ∈ A.take k) : liB A T k = false := by
  unfold liB emB whB
  rw [decide_eq_false h1]
  rcases h2 with h | h | h
  · rw [h]; rfl
  · rw [decide_eq_false h]; simp
  · rw [decide_eq_true h]; simp
theorem OV.cut1 {B e g c : Nat} {z : World} {v0 v1 : Value} (h : OV B e z (.slice (some ⟨g, 0, none⟩) 2 c) [v0, v1]) : OV B e z (.slice (some ⟨g, 0, none⟩) 1 c) [v0] ∧ 2 ≤ c := by
  rcases h.2 with ⟨h', _⟩ | ⟨g', cap, cur, h', hb, hg, hnc, hcm, hcs, ht⟩
  · simp at h'
  · simp at h'
    obtain ⟨rfl, rfl⟩ := h'
    have hnc2 : 2 ≤ c := hnc
    refine ⟨⟨rfl, .inr ⟨g, c, cur, rfl, hb, hg, by show 1 ≤ c; omega, hcm, hcs, ?_⟩⟩, hnc2⟩
    have ht2 : cur.toList.take 2 = [v0, v1] := ht
    show cur.toList.take 1 = [v0]
    rw [show (1 : Nat) = min 1 2 by decide, ← List.take_take, ht2]
    rfl
/-- What a store into the variable's own block leaves of the other. -/
theorem Bad.mk_ {w z : World} {cb bb : Nat} {q1 : Option Addr} {n1 p1 : Nat} {q2 : Option Addr} {n2 p2 : Nat} {R : ByteArray} {r1 : Option Addr} {m1 s1 : Nat} {r2 : Option Addr} {m2 s2 : Nat} {y : Int} {A : List Int} {T : List ByteArray}
    (h : Va w.heap.size z bb r1 m1 s1 r2 m2 s2 y A T y) (hm : mayB A T y = false) (hf : Fit A T) (hc : Va w.heap.size z cb q1 n1 p1 q2 n2 p2 1 [64, -1] [R, ByteArray.empty] 1) (hb : Below w.heap.size w z) : Bad w cb bb q1 n1 p1 q2 n2 p2 R z :=
  ⟨r1, m1, s1, r2, m2, s2, y, A, T, h, hm, hf, hc, hb⟩
theorem short_size : (⟨#[115, 104, 111, 114, 116]⟩ : ByteArray).size = 5 := rfl
theorem may_many {A : List Int} {T : List ByteArray} {y : Int} (h : y < 0 ∨ 2 ≤ y) : mayB A T y = false := may_short (by omega)
theorem may_len1 {A : List Int} {T : List ByteArray} {y : Int} (h : A.length ≠ 2) : mayB A T y = false := may_short fun h' => h h'.1
theorem may_len2 {A : List Int} {T : List ByteArray} {y : Int} (h : T.length ≠ 2) : mayB A T y = false := may_short fun h' => h h'.2.1
theorem fB_none {A : List Int} {T : List ByteArray} {y a : Int} (h : mayB A T y = false) : fB A T y a = false ∧ fV A T y a = 0 := by
  have h1 : fB A T y a = false := by unfold fB; rw [h]; rfl
  exact ⟨h1, fV_no h1⟩
end Go.Proofs.Ytbcdfobclliboaa
