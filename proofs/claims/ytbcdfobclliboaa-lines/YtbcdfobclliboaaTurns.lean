/-
  Plain facts on caches of two lines: what a Keep makes of one, what a Find tells. Nothing of the program is named.
-/
import Derived.Test.YtbcdfobclliboaaAwake
namespace Go.Proofs.Ytbcdfobclliboaa
open Go.RowKit Plain
set_option linter.unusedVariables false

theorem k_hit0 (a0 a1 : Int) (t0 t1 s : ByteArray) (x : Int) : kA [a0, a1] x a0 = [a0, a1] ∧ kT [a0, a1] [t0, t1] x a0 s = [s, t1] ∧ kX [a0, a1] x a0 = x := by
  have h : ixI [a0, a1] a0 = 0 := by rw [ixI_two, if_pos rfl]
  unfold kA kT kX kN
  rw [h]
  exact ⟨rfl, rfl, rfl⟩
theorem k_hit1 (a0 a1 : Int) (t0 t1 s : ByteArray) (x : Int) (hn : a0 ≠ a1) : kA [a0, a1] x a1 = [a0, a1] ∧ kT [a0, a1] [t0, t1] x a1 s = [t0, s] ∧ kX [a0, a1] x a1 = x := by
  have h : ixI [a0, a1] a1 = 1 := by rw [ixI_two, if_neg hn, if_pos rfl]
  unfold kA kT kX kN
  rw [h]
  exact ⟨rfl, rfl, rfl⟩
theorem k_new0 (a0 a1 a : Int) (t0 t1 s : ByteArray) (h0 : a0 ≠ a) (h1 : a1 ≠ a) : kA [a0, a1] 0 a = [a, a1] ∧ kT [a0, a1] [t0, t1] 0 a s = [s, t1] ∧ kX [a0, a1] 0 a = 1 := by
  have h : ixI [a0, a1] a = -1 := by rw [ixI_two, if_neg h0, if_neg h1]
  unfold kA kT kX kN
  rw [h]
  exact ⟨rfl, rfl, rfl⟩
theorem k_new1 (a0 a1 a : Int) (t0 t1 s : ByteArray) (h0 : a0 ≠ a) (h1 : a1 ≠ a) : kA [a0, a1] 1 a = [a0, a] ∧ kT [a0, a1] [t0, t1] 1 a s = [t0, s] ∧ kX [a0, a1] 1 a = 0 := by
  have h : ixI [a0, a1] a = -1 := by rw [ixI_two, if_neg h0, if_neg h1]
  unfold kA kT kX kN
  rw [h]
  exact ⟨rfl, rfl, rfl⟩
theorem f_hit0 {a0 a1 : Int} {t0 t1 : ByteArray} {x : Int} (hm : mayB [a0, a1] [t0, t1] x = true) (i : Nat) (hi : i < 16) (h0 : 0 ≤ a0) (h16 : a0 % 16 = 0) :
    fB [a0, a1] [t0, t1] x (a0 + i) = true ∧ fV [a0, a1] [t0, t1] x (a0 + i) = ((ub t0 i).toNat : Int) := by
  obtain ⟨h1, h2⟩ := fB_at (A := [a0, a1]) (T := [t0, t1]) (x := x) (a := a0 + i) (k := 0) hm (by omega) (by omega) (show a0 = a0 + i - (a0 + i) % 16 by omega) (fun j hj => by omega)
  refine ⟨h1, h2.trans ?_⟩
  rw [show ((a0 + (i : Int)) % 16).toNat = i by omega]
  rfl
theorem f_hit1 {a0 a1 : Int} {t0 t1 : ByteArray} {x : Int} (hm : mayB [a0, a1] [t0, t1] x = true) (i : Nat) (hi : i < 16) (h0 : 0 ≤ a1) (h16 : a1 % 16 = 0) (hn : a0 ≠ a1) :
    fB [a0, a1] [t0, t1] x (a1 + i) = true ∧ fV [a0, a1] [t0, t1] x (a1 + i) = ((ub t1 i).toNat : Int) := by
  obtain ⟨h1, h2⟩ := fB_at (A := [a0, a1]) (T := [t0, t1]) (x := x) (a := a1 + i) (k := 1) hm (by omega) (by omega) (show a1 = a1 + i - (a1 + i) % 16 by omega) (fun j hj => by
    obtain rfl : j = 0 := by omega
    show a0 ≠ _
    omega)
  refine ⟨h1, h2.trans ?_⟩
  rw [show ((a1 + (i : Int)) % 16).toNat = i by omega]
  rfl
theorem f_miss {a0 a1 : Int} {t0 t1 : ByteArray} {x a : Int} (h0 : a0 ≠ a - a % 16) (h1 : a1 ≠ a - a % 16) : fB [a0, a1] [t0, t1] x a = false ∧ fV [a0, a1] [t0, t1] x a = 0 := by
  have h : fB [a0, a1] [t0, t1] x a = false := fB_miss rfl fun j hj => by
    rcases (show j = 0 ∨ j = 1 by omega) with rfl | rfl
    · exact .inl h0
    · exact .inl h1
  exact ⟨h, fV_no h⟩
theorem at_16 (k : Nat) (h : k < 256) : atB (16 * (k : Int)) = true := by
  unfold atB
  rw [decide_eq_true (by omega), decide_eq_true (by omega), decide_eq_true (by omega)]
  rfl
theorem round_nums (i j k : Nat) (hi : i < 64) (hj : j < 64) (hk : k < 64) (X Y Z : Int) (hX : X = (i : Int) * 16) (hY : Y = (64 + (j : Int)) * 16) (hZ : Z = (128 + (k : Int)) * 16) :
    wrap64 ((i : Int) * 16) = X ∧ wrap64 (64 + (j : Int)) = 64 + (j : Int) ∧ wrap64 ((64 + (j : Int)) * 16) = Y ∧ wrap64 (128 + (k : Int)) = 128 + (k : Int) ∧ wrap64 ((128 + (k : Int)) * 16) = Z ∧ Hid (wrap64 (Z + 1) = Z + 1) := by
  subst hX hY hZ
  exact ⟨IntWalk.wrap64_in _ (by omega), IntWalk.wrap64_in _ (by omega), IntWalk.wrap64_in _ (by omega), IntWalk.wrap64_in _ (by omega), IntWalk.wrap64_in _ (by omega), IntWalk.wrap64_in _ (by omega)⟩
theorem OV.only {B e b : Nat} {w w' : World} {v : Value} {X L : List Value} (h : OV B e w v X) (k : Only b w w') (hb : Blk w b 25 L) (he : e ≠ 25) : OV B e w' v X :=
  World.ownsRow.kept h (Only.grown k) (by
    rcases h.2 with ⟨rfl, _⟩ | ⟨g, cap, cur, rfl, _, hg, _⟩
    · exact .inl rfl
    · refine .inr fun e' => h.apart hb he e'.symm)
theorem Va.only {B b c : Nat} {z z' : World} {L : List Value} {q1 : Option Addr} {n1 p1 : Nat} {q2 : Option Addr} {n2 p2 : Nat} {y : Int} {A : List Int} {T : List ByteArray} {x : Int} (h : Va B z b q1 n1 p1 q2 n2 p2 y A T x) (k : Only c z z') (hc : Blk z c 25 L) (hne : c ≠ b) :
    Va B z' b q1 n1 p1 q2 n2 p2 y A T x := by
  obtain ⟨h1, h2, rfl⟩ := h.own.told
  exact ⟨k.blk h.blk (Ne.symm hne), ⟨_, _, rfl, h1.only k hc (by decide), h2.only k hc (by decide)⟩⟩
end Go.Proofs.Ytbcdfobclliboaa
