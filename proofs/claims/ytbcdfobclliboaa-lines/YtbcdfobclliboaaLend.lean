/-
  A row of numbers that came in, as the laws' frames tell it; numbers taken below a bound. No conditions but those of each statement.
-/
import Derived.Test.YtbcdfobclliboaaPlay
import Derived.Test.YtbcdfobclliboaaMask
namespace Go.Proofs.Ytbcdfobclliboaa
open Go.RowKit Plain
set_option linter.unusedVariables false

/-- A slice that came in reads as the numbers L. -/
def Came (w : World) (a : Option Addr) (n cap : Nat) (L : List Int) : Prop :=
  L.length = n ∧ ((a = none ∧ n = 0 ∧ cap = 0) ∨ ∃ x, a = some x ∧ n ≤ cap ∧ ∀ j, j < n → w.cell? (x.add j) = some (.int .i64 (L.getD j 0)))
theorem came_of {w : World} {x : Addr} {n cap : Nat} {zs : List Int} (hl : n ≤ cap) (hz : zs.length = cap) (hc : ∀ i, i < zs.length → w.cell? (x.add i) = some (.int .i64 (zs.getD i 0))) : Came w (some x) n cap (zs.take n) := by
  refine ⟨by rw [List.length_take]; omega, .inr ⟨x, rfl, hl, fun j hj => ?_⟩⟩
  rw [hc j (by omega), List.getD_eq_getElem?_getD, List.getD_eq_getElem?_getD, List.getElem?_take, if_pos hj]
/-- Its cells, where it has some. -/
theorem Came.cells {w : World} {a : Option Addr} {n cap : Nat} {L : List Int} (h : Came w a n cap L) (hn : 0 < n) : ∃ g o, a = some ⟨g, o, none⟩ ∧ ∀ j, j < n → w.cell? ⟨g, o + j, none⟩ = some (.int .i64 (L.getD j 0)) := by
  obtain ⟨hl, ⟨rfl, h0, rfl⟩ | ⟨x, rfl, hnc, hc⟩⟩ := h
  · omega
  · obtain ⟨b, off, spot⟩ := x
    have hspot : spot = none := by simpa [Addr.add] using World.cell?_spot (hc 0 hn)
    subst hspot
    refine ⟨b, off, rfl, fun j hj => ?_⟩
    have h1 := hc j hj
    rcases Nat.eq_zero_or_pos j with rfl | hp
    · simpa [Addr.add] using h1
    · rw [Addr.add, if_neg (by omega)] at h1
      exact h1
theorem Came.vals {w : World} {a : Option Addr} {n cap : Nat} {L : List Int} (h : Came w a n cap L) : CV w a n cap (ints L) := by
  obtain ⟨hl, h1 | ⟨x, h1, h2, h3⟩⟩ := h
  · exact ⟨by rw [List.length_map]; exact hl, .inl h1⟩
  · refine ⟨by rw [List.length_map]; exact hl, .inr ⟨x, h1, h2, fun j u hu => ?_⟩⟩
    have hj : j < L.length := by
      rcases Nat.lt_or_ge j L.length with h | h
      · exact h
      · rw [List.getElem?_eq_none (by rw [List.length_map]; exact h)] at hu; cases hu
    rw [ints_at hj] at hu
    rw [h3 j (by omega), hu]
/-- 'int(uint(x) % 256)' is a number below 256. -/
theorem umod (x : Int) : ∃ K : Nat, K < 256 ∧ wrap64 ((IntKind.u64.wrap x).tmod 256) = (K : Int) := by
  have h0 : 0 ≤ IntKind.u64.wrap x := by rw [IntKind.wrap_u64]; omega
  obtain ⟨u, hu⟩ := Int.eq_ofNat_of_zero_le h0
  refine ⟨u % 256, Nat.mod_lt _ (by omega), ?_⟩
  rw [hu, show ((u : Int).tmod 256) = ((u % 256 : Nat) : Int) from rfl]
  have := Nat.mod_lt u (show 256 > 0 by omega)
  exact IntWalk.wrap64_in _ (by omega)
theorem line_nums (k : Nat) (hk : k < 256) (X : Int) (hX : X = 16 * (k : Int)) : Hid (IntKind.i64.wrap ((k : Int) * 16) = X) ∧ Hid (wrap64 ((k : Int) * 16) = X) ∧ Hid (IntKind.u8.wrap (k : Int) = (k : Int)) ∧ Hid ((k : Int) = ((UInt8.ofNat k).toNat : Int)) ∧ Hid (atB X = true) ∧ Hid (-9223372036854775808 ≤ X ∧ X < 9223372036854775808) := by
  subst hX
  refine ⟨?_, ?_, ?_, ?_, at_16 k hk, ?_⟩
  · rw [Hid, IntKind.wrap_i64]; omega
  · rw [Hid, IntWalk.wrap64_in _ (by omega)]; omega
  · rw [Hid, IntKind.wrap_u8]; omega
  · rw [Hid]; simp; omega
  · rw [Hid]; omega
end Go.Proofs.Ytbcdfobclliboaa
