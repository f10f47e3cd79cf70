/-
  Rows of numbers and of texts as the calls of this seat hand them on: what a slice reads as, that it reads so behind a call that wrote nothing old. No conditions but those of each statement.
-/
import Derived.Test.YtbcdfobclliboaaProg
import Derived.Test.YtbcdfobclliboaaRowsOf
import Derived.WalkKit
import Derived.WalkSpells
import Derived.WalkLawsBesides
import Derived.KernelRfl
import Derived.OwnWalk
import Derived.Below
import Derived.Deep.Draws
import Derived.Deep.AppendLies
import Derived.Laws.AppendOwnNone
namespace Go.Proofs.Ytbcdfobclliboaa
open Go.RowKit Plain
set_option linter.unusedVariables false

theorem ret_int {k : IntKind} {a b : Int} (h : a = b) : Ending.returned (.int k a) = .returned (.int k b) := by rw [h]
theorem ret_bool {a b : Bool} (h : a = b) : Ending.returned (.bool a) = .returned (.bool b) := by rw [h]

theorem info3 : (Try.prog.info? 3).map (fun i => (i.zero, i.size, i.bytes)) = some (some (.int .i64 0), 1, 8) := by kernel_rfl
theorem info9 : (Try.prog.info? 9).map (fun i => (i.zero, i.size, i.bytes)) = some (some (.string ByteArray.empty), 1, 16) := by kernel_rfl

abbrev ints (L : List Int) : List Value := L.map (Value.int .i64)
abbrev txts (T : List ByteArray) : List Value := T.map Value.string

theorem cell_lt {w : World} {a : Addr} {x : Value} (h : w.cell? a = some x) : a.block < w.heap.size := by
  rcases Nat.lt_or_ge a.block w.heap.size with hlt | hge
  · exact hlt
  · rw [World.cell?, Array.getElem?_eq_none hge] at h; cases h
theorem below_then {a b c : World} (h : Below a.heap.size a b) (k : Below b.heap.size b c) : Below a.heap.size a c := h.trans (k.mono h.size)
theorem below_new (w : World) (o : Obj) : Below w.heap.size w (w.alloc o) := (Below.refl _ _).alloc (Nat.le_refl _) _

/-- The slice v reads as the values X. -/
def RV (w : World) (v : Value) (X : List Value) : Prop :=
  ∃ a cap, v = .slice a X.length cap ∧ (0 < X.length → ∃ g o, a = some ⟨g, o, none⟩ ∧ ∀ j x, X[j]? = some x → w.cell? ⟨g, o + j, none⟩ = some x)
/-- The slice v, in memory laid since block B, reads as the values X and may be written. -/
def OV (B e : Nat) (w : World) (v : Value) (X : List Value) : Prop := w.ownsRow B e 1 v X.length X

theorem RV.below {w w' : World} {v : Value} {X : List Value} (h : RV w v X) (b : Below w.heap.size w w') : RV w' v X := by
  obtain ⟨a, cap, rfl, h2⟩ := h
  refine ⟨a, cap, rfl, fun hp => ?_⟩
  obtain ⟨g, o, rfl, hc⟩ := h2 hp
  exact ⟨g, o, rfl, fun j x hx => (b.cell (by exact cell_lt (hc j x hx))).trans (hc j x hx)⟩
theorem OV.reads {B e : Nat} {w : World} {v : Value} {X : List Value} (h : OV B e w v X) : RV w v X := by
  have h0 : w.ownsRow B e 1 v X.length X := h
  rcases h.2 with ⟨rfl, hn⟩ | ⟨g, cap, cur, rfl, hb, hg, hnc, hcm, hcs, ht⟩
  · exact ⟨none, 0, by rw [hn], fun hp => by omega⟩
  · refine ⟨some ⟨g, 0, none⟩, cap, rfl, fun hp => ⟨g, 0, rfl, fun j x hj => ?_⟩⟩
    have hl : j < X.length := by
      rcases Nat.lt_or_ge j X.length with h | h
      · exact h
      · rw [List.getElem?_eq_none h] at hj; cases hj
    rw [Nat.zero_add, h0.cellAt j (by omega), hj]
theorem OV.below {B B' e : Nat} {w w' : World} {v : Value} {X : List Value} (h : OV B e w v X) (b : Below w.heap.size w w') (hB : B' ≤ B) : OV B' e w' v X := by
  refine ⟨h.1, ?_⟩
  rcases h.2 with h2 | ⟨g, cap, cur, hv, hb, hg, hr⟩
  · exact .inl h2
  · have hlt : g < w.heap.size := by
      rcases Nat.lt_or_ge g w.heap.size with hlt | hge
      · exact hlt
      · rw [Array.getElem?_eq_none hge] at hg; cases hg
    exact .inr ⟨g, cap, cur, hv, by omega, (b.block g hlt).trans hg, hr⟩
theorem OV.mono {B B' e : Nat} {w : World} {v : Value} {X : List Value} (h : OV B e w v X) (hB : B' ≤ B) : OV B' e w v X := h.below (Below.refl _ _) hB
theorem OV.lit {e : Nat} (w : World) (cs : Array Value) (n : Nat) (hn : cs.size = n) (hm : n ≤ maxLen) : OV w.heap.size e (w.alloc (.cells cs e)) (.slice (some ⟨w.heap.size, 0, none⟩) n n) cs.toList := by
  subst hn
  have h := World.ownsRow_lit (base := w.heap.size) (e := e) (size := 1) w cs cs.size (Nat.le_refl _) hm (by rw [Nat.mul_one])
  unfold OV
  rw [Array.length_toList]
  exact h
theorem OV.form {B e : Nat} {w : World} {v : Value} {X : List Value} (h : OV B e w v X) : ∃ a cap, v = .slice a X.length cap := by
  obtain ⟨a, cap, hv, -⟩ := h.reads
  exact ⟨a, cap, hv⟩

/-- What came in as a slice reads as the values X. -/
def CV (w : World) (a : Option Addr) (n cap : Nat) (X : List Value) : Prop :=
  X.length = n ∧ ((a = none ∧ n = 0 ∧ cap = 0) ∨ ∃ x, a = some x ∧ n ≤ cap ∧ ∀ j u, X[j]? = some u → w.cell? (x.add j) = some u)
theorem CV.reads {w : World} {a : Option Addr} {n cap : Nat} {X : List Value} (h : CV w a n cap X) : RV w (.slice a n cap) X := by
  obtain ⟨rfl, ⟨rfl, h0, rfl⟩ | ⟨x, rfl, hnc, hc⟩⟩ := h
  · exact ⟨none, 0, rfl, fun h => by omega⟩
  · refine ⟨some x, cap, rfl, fun h => ?_⟩
    obtain ⟨b, off, spot⟩ := x
    have h00 : X[0]? = some (X[0]'h) := List.getElem?_eq_getElem h
    have hspot : spot = none := by simpa [Addr.add] using World.cell?_spot (hc 0 _ h00)
    subst hspot
    refine ⟨b, off, rfl, fun j u hj => ?_⟩
    have h1 := hc j u hj
    rcases Nat.eq_zero_or_pos j with rfl | hp
    · simpa [Addr.add] using h1
    · rw [Addr.add, if_neg (by omega)] at h1
      exact h1
theorem CV.below {w w' : World} {a : Option Addr} {n cap : Nat} {X : List Value} (h : CV w a n cap X) (b : Below w.heap.size w w') : CV w' a n cap X := by
  obtain ⟨h1, h2 | ⟨x, rfl, h3, h4⟩⟩ := h
  · exact ⟨h1, .inl h2⟩
  · exact ⟨h1, .inr ⟨x, rfl, h3, fun j u hu => (b.cell (by exact cell_lt (h4 j u hu))).trans (h4 j u hu)⟩⟩

/- Lines, in plain words. -/
/-- Is a line nowhere? -/
def emB (a : Int) (t : ByteArray) : Bool := decide (a = -1) && decide (t = ByteArray.empty)
/-- May a line begin there? -/
def atB (a : Int) : Bool := decide (0 ≤ a) && (decide (a < 4096) && decide (a % 16 = 0))
/-- Is a line kept? -/
def whB (a : Int) (t : ByteArray) : Bool := atB a && decide (t.size = 16)
/-- May the k-th line be so, behind those ahead of it? -/
def liB (A : List Int) (T : List ByteArray) (k : Nat) : Bool := emB (A.getD k 0) (T.getD k ByteArray.empty) || (whB (A.getD k 0) (T.getD k ByteArray.empty) && !(decide (A.getD k 0 ∈ A.take k)))
/-- May a cache be so? -/
def mayB (A : List Int) (T : List ByteArray) (x : Int) : Bool := decide (A.length = 2) && decide (T.length = 2) && decide (0 ≤ x) && decide (x < 2) && liB A T 0 && liB A T 1
/-- Where x lies in L; -1: nowhere. -/
def ixI (L : List Int) (x : Int) : Int := match L with
  | [] => -1
  | a :: M => if a = x then 0 else if ixI M x < 0 then -1 else ixI M x + 1
/-- A cache in memory, as a value. -/
def cV (a t : Value) (x : Int) : Value := .agg #[a, t, .int .i64 x]
/-- The value c reads as the cache A, T, x. -/
def CR (w : World) (c : Value) (A : List Int) (T : List ByteArray) (x : Int) : Prop := ∃ a t, c = cV a t x ∧ RV w a (ints A) ∧ RV w t (txts T)
/-- .. in memory laid since block B. -/
def CO (B : Nat) (w : World) (c : Value) (A : List Int) (T : List ByteArray) (x : Int) : Prop := ∃ a t, c = cV a t x ∧ OV B 3 w a (ints A) ∧ OV B 9 w t (txts T)
theorem CR.below {w w' : World} {c : Value} {A : List Int} {T : List ByteArray} {x : Int} (h : CR w c A T x) (b : Below w.heap.size w w') : CR w' c A T x := by
  obtain ⟨a, t, hc, h1, h2⟩ := h
  exact ⟨a, t, hc, h1.below b, h2.below b⟩
theorem CO.reads {B : Nat} {w : World} {c : Value} {A : List Int} {T : List ByteArray} {x : Int} (h : CO B w c A T x) : CR w c A T x := by
  obtain ⟨a, t, hc, h1, h2⟩ := h
  exact ⟨a, t, hc, h1.reads, h2.reads⟩
theorem CO.below {B B' : Nat} {w w' : World} {c : Value} {A : List Int} {T : List ByteArray} {x : Int} (h : CO B w c A T x) (b : Below w.heap.size w w') (hB : B' ≤ B) : CO B' w' c A T x := by
  obtain ⟨a, t, hc, h1, h2⟩ := h
  exact ⟨a, t, hc, h1.below b hB, h2.below b hB⟩
end Go.Proofs.Ytbcdfobclliboaa
