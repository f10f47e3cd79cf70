/-
  Rows of numbers as the calls of this seat hand them on: what a slice reads as, that it reads so behind a call that wrote nothing old, and plain facts on bytes in eight bits or two halves. No conditions but those of each statement.
-/
import Derived.Test.YtgmocigpnmdolaaProg
import Derived.WalkKit
import Derived.WalkSpells
import Derived.WalkLawsBesides
import Derived.KernelRfl
import Derived.OwnWalk
import Derived.Below
import Derived.Deep.Draws
namespace Go.Proofs.Ytgmocigpnmdolaa
open Go.RowKit
set_option linter.unusedVariables false

theorem ret_int {k : IntKind} {a b : Int} (h : a = b) : Ending.returned (.int k a) = .returned (.int k b) := by rw [h]
theorem ret_bool {a b : Bool} (h : a = b) : Ending.returned (.bool a) = .returned (.bool b) := by rw [h]

theorem info3 : (Try.prog.info? 3).map (fun i => (i.zero, i.size, i.bytes)) = some (some (.int .i64 0), 1, 8) := by kernel_rfl

/-- The slice v reads as the numbers L. -/
def Reads (w : World) (v : Value) (L : List Int) : Prop :=
  ∃ a cap, v = .slice a L.length cap ∧ (0 < L.length → ∃ g o, a = some ⟨g, o, none⟩ ∧ ∀ j, j < L.length → w.cell? ⟨g, o + j, none⟩ = some (.int .i64 (L.getD j 0)))
/-- The slice v, in memory laid since block B, reads as the numbers L and may be written. -/
def Owns (B : Nat) (w : World) (v : Value) (L : List Int) : Prop := w.ownsRow B 3 1 v L.length (L.map (Value.int .i64))

theorem cell_lt {w : World} {a : Addr} {x : Value} (h : w.cell? a = some x) : a.block < w.heap.size := by
  rcases Nat.lt_or_ge a.block w.heap.size with hlt | hge
  · exact hlt
  · rw [World.cell?, Array.getElem?_eq_none hge] at h; cases h
theorem Reads.below {w w' : World} {v : Value} {L : List Int} (h : Reads w v L) (b : Below w.heap.size w w') : Reads w' v L := by
  obtain ⟨a, cap, rfl, h2⟩ := h
  refine ⟨a, cap, rfl, fun hp => ?_⟩
  obtain ⟨g, o, rfl, hc⟩ := h2 hp
  exact ⟨g, o, rfl, fun j hj => (b.cell (by exact cell_lt (hc j hj))).trans (hc j hj)⟩
theorem Reads.below' {w w' : World} {v : Value} {L : List Int} {B : Nat} (h : Reads w v L) (b : Below B w w') (hB : ∀ g o n c, v = .slice (some ⟨g, o, none⟩) n c → g < B) : Reads w' v L := by
  obtain ⟨a, cap, rfl, h2⟩ := h
  refine ⟨a, cap, rfl, fun hp => ?_⟩
  obtain ⟨g, o, rfl, hc⟩ := h2 hp
  exact ⟨g, o, rfl, fun j hj => (b.cell (by exact hB _ _ _ _ rfl)).trans (hc j hj)⟩
theorem Owns.reads {B : Nat} {w : World} {v : Value} {L : List Int} (h : Owns B w v L) : Reads w v L := by
  have h0 : w.ownsRow B 3 1 v L.length (L.map (Value.int .i64)) := h
  rcases h.2 with ⟨rfl, hn⟩ | ⟨g, cap, cur, rfl, hb, hg, hnc, hcm, hcs, ht⟩
  · exact ⟨none, 0, by rw [hn], fun hp => by omega⟩
  · refine ⟨some ⟨g, 0, none⟩, cap, rfl, fun hp => ⟨g, 0, rfl, fun j hj => ?_⟩⟩
    rw [Nat.zero_add, h0.cellAt j (by omega), List.getElem?_map, List.getD_eq_getElem?_getD, List.getElem?_eq_getElem hj]
    rfl
theorem Owns.below {B B' : Nat} {w w' : World} {v : Value} {L : List Int} (h : Owns B w v L) (b : Below w.heap.size w w') (hB : B' ≤ B) : Owns B' w' v L := by
  refine ⟨h.1, ?_⟩
  rcases h.2 with h2 | ⟨g, cap, cur, hv, hb, hg, hr⟩
  · exact .inl h2
  · have hlt : g < w.heap.size := by
      rcases Nat.lt_or_ge g w.heap.size with hlt | hge
      · exact hlt
      · rw [Array.getElem?_eq_none hge] at hg; cases hg
    exact .inr ⟨g, cap, cur, hv, by omega, (b.block g hlt).trans hg, hr⟩
theorem Owns.lit {w : World} (L : List Int) (n : Nat) (cs : Array Value) (hc : cs.toList = L.map (Value.int .i64)) (hn : L.length = n) (hm : n ≤ maxLen) : Owns w.heap.size (w.alloc (.cells cs 3)) (.slice (some ⟨w.heap.size, 0, none⟩) n n) L := by
  subst hn
  have h := World.ownsRow_lit (base := w.heap.size) (e := 3) (size := 1) w cs L.length (Nat.le_refl _) hm (by rw [← Array.length_toList, hc, List.length_map, Nat.mul_one])
  rw [hc] at h
  exact h
theorem below_then {a b c : World} (h : Below a.heap.size a b) (k : Below b.heap.size b c) : Below a.heap.size a c := h.trans (k.mono h.size)
theorem below_drewN {B : Nat} {a w : World} (h : Below B a w) (k : Nat) : Below B a (w.drewN k) :=
  ⟨h.os, by rw [World.tape_drewN]; exact h.tape, h.output, by rw [World.heap_drewN]; exact h.size, fun i hi => by rw [World.heap_drewN]; exact h.block i hi⟩
theorem list_same {L M : List Int} (hl : L.length = M.length) (h : ∀ j, j < L.length → L.getD j 0 = M.getD j 0) : L = M := by
  refine List.ext_getElem hl fun j h1 h2 => ?_
  have := h j h1
  rwa [List.getD_eq_getElem?_getD, List.getD_eq_getElem?_getD, List.getElem?_eq_getElem h1, List.getElem?_eq_getElem h2] at this

/- Bytes on the wires. -/
/-- Is b a byte, and are there so many lanes? -/
def outOk (b k : Int) : Prop := (k = 1 ∨ k = 4) ∧ 0 ≤ b ∧ b ≤ 255
/-- What one lane carries of a byte, and what four. -/
def ones (b : Int) : List Int := [b / 128 % 2, b / 64 % 2, b / 32 % 2, b / 16 % 2, b / 8 % 2, b / 4 % 2, b / 2 % 2, b % 2]
def fours (b : Int) : List Int := [b / 16 % 16, b % 16]
def outL (b k : Int) : List Int := if (k = 1 ∨ k = 4) ∧ 0 ≤ b ∧ b ≤ 255 then (if k = 1 then ones b else fours b) else []
def outE (b k : Int) : Int := if (k = 1 ∨ k = 4) ∧ 0 ≤ b ∧ b ≤ 255 then 0 else 300
/-- The number that the digits L make, to the base e. -/
def acc (e : Int) (L : List Int) : Int := L.foldl (fun x y => x * e + y) 0
abbrev inOk (L : List Int) (k : Int) : Prop := (k = 1 ∧ L.length = 8 ∧ ∀ j, j < 8 → 0 ≤ L.getD j 0 ∧ L.getD j 0 < 2) ∨ (k = 4 ∧ L.length = 2 ∧ ∀ j, j < 2 → 0 ≤ L.getD j 0 ∧ L.getD j 0 < 16)
def inV (L : List Int) (k : Int) : Int := if inOk L k then (if k = 1 then acc 2 L else acc 16 L) else 0
def inE (L : List Int) (k : Int) : Int := if inOk L k then 0 else 300

theorem acc_succ (e : Int) (L : List Int) (i : Nat) (h : i < L.length) : acc e (L.take (i + 1)) = acc e (L.take i) * e + L.getD i 0 := by
  unfold acc
  rw [List.take_add_one, List.foldl_append, List.getElem?_eq_getElem h, List.getD_eq_getElem?_getD, List.getElem?_eq_getElem h]
  rfl
theorem acc_bound (e : Int) (he : 2 ≤ e) (L : List Int) (i : Nat) (h : i ≤ L.length) (hd : ∀ j, j < i → 0 ≤ L.getD j 0 ∧ L.getD j 0 < e) : 0 ≤ acc e (L.take i) ∧ acc e (L.take i) < e ^ i := by
  induction i with
  | zero => simp [acc]
  | succ i ih =>
    obtain ⟨h1, h2⟩ := ih (by omega) fun j hj => hd j (by omega)
    obtain ⟨h3, h4⟩ := hd i (by omega)
    rw [acc_succ e L i (by omega), Int.pow_succ]
    have h5 : 0 ≤ acc e (L.take i) * e := Int.mul_nonneg h1 (by omega)
    have h6 : (acc e (L.take i) + 1) * e ≤ e ^ i * e := Int.mul_le_mul_of_nonneg_right (by omega) (by omega)
    rw [Int.add_mul, Int.one_mul] at h6
    omega
theorem acc_two {L : List Int} {i : Nat} (h : i ≤ L.length) (h8 : i ≤ 8) (hd : ∀ j, j < i → 0 ≤ L.getD j 0 ∧ L.getD j 0 < 2) : 0 ≤ acc 2 (L.take i) ∧ acc 2 (L.take i) < 256 := by
  have h1 := acc_bound 2 (by omega) L i h hd
  have h2 : (2 : Int) ^ i ≤ 2 ^ 8 := by
    have := Nat.pow_le_pow_right (n := 2) (by omega) h8
    exact_mod_cast this
  omega
theorem acc_four {L : List Int} {i : Nat} (h : i ≤ L.length) (h8 : i ≤ 2) (hd : ∀ j, j < i → 0 ≤ L.getD j 0 ∧ L.getD j 0 < 16) : 0 ≤ acc 16 (L.take i) ∧ acc 16 (L.take i) < 256 := by
  have h1 := acc_bound 16 (by omega) L i h hd
  have h2 : (16 : Int) ^ i ≤ 16 ^ 2 := by
    have := Nat.pow_le_pow_right (n := 16) (by omega) h8
    exact_mod_cast this
  omega
theorem acc_ones (b : Int) (h : 0 ≤ b ∧ b ≤ 255) : acc 2 (ones b) = b := by
  unfold acc ones
  simp only [List.foldl_cons, List.foldl_nil]
  omega
theorem acc_fours (b : Int) (h : 0 ≤ b ∧ b ≤ 255) : acc 16 (fours b) = b := by
  unfold acc fours
  simp only [List.foldl_cons, List.foldl_nil]
  omega
theorem ones_eq (x y : Int) (hx : 0 ≤ x ∧ x ≤ 255) (hy : 0 ≤ y ∧ y ≤ 255) : ones x = ones y ↔ x = y :=
  ⟨fun h => by rw [← acc_ones x hx, h, acc_ones y hy], fun h => by rw [h]⟩
theorem fours_eq (x y : Int) (hx : 0 ≤ x ∧ x ≤ 255) (hy : 0 ≤ y ∧ y ≤ 255) : fours x = fours y ↔ x = y :=
  ⟨fun h => by rw [← acc_fours x hx, h, acc_fours y hy], fun h => by rw [h]⟩

theorem num_any (n : Int) (w : World) :
    Calls Try.prog 14 #[.int .i64 n] w fun e w' => e = .returned (.int .i64 n) ∧ w = w' := by
  go_enter Try.func14, Try.ntmps14
  go_wp2
  go_ret
  exact ⟨rfl, rfl⟩
theorem split_one (w : World) :
    Calls Try.prog 19 #[.int .i64 1] w fun e w' => e = .returned (.tuple #[.int .i64 8, .int .i64 2]) ∧ Below w.heap.size w w' := by
  go_enter Try.func19, Try.ntmps19
  go_wp2
  go_region
  all_goals (try go_wp2)
  all_goals go_ret2
  all_goals exact ⟨rfl, (Below.refl _ _).drew⟩
theorem split_four (w : World) :
    Calls Try.prog 19 #[.int .i64 4] w fun e w' => e = .returned (.tuple #[.int .i64 2, .int .i64 16]) ∧ Below w.heap.size w w' := by
  go_enter Try.func19, Try.ntmps19
  go_wp2
  go_region
  all_goals (try go_wp2)
  all_goals go_ret2
  all_goals exact ⟨rfl, (Below.refl _ _).drew⟩
theorem split_none (k : Int) (w : World) (h1 : k ≠ 1) (h4 : k ≠ 4) :
    Calls Try.prog 19 #[.int .i64 k] w fun e w' => e = .returned (.tuple #[.int .i64 0, .int .i64 0]) ∧ Below w.heap.size w w' := by
  have e1 : (k != 1) = true := by simpa using h1
  have e4 : (k != 4) = true := by simpa using h4
  go_enter Try.func19, Try.ntmps19
  go_wp2
  go_ret2
  exact ⟨rfl, Below.refl _ _⟩
end Go.Proofs.Ytgmocigpnmdolaa
