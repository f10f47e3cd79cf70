/-
  Numbers as bytes, the lowest first: package sfdp's appendNumber, may, by contracts; what a text of a chip's sizes is. No conditions but those of each statement.
-/
import Derived.Test.YthhchfldgkgfpaaFill
import Derived.Test.YthhchfldgkgfpaaMask
import Derived.Test.YthhchfldgkgfpaaRowsOf
import Derived.Deep.AppendLies
import Derived.ArgAppend
namespace Go.Proofs.Ythhchfldgkgfpaa
open Go.RowKit Plain
set_option linter.unusedVariables false

def byteVal (x : UInt8) : Value := .int .u8 (x.toNat : Int)
theorem info5 : (Try.prog.info? 5).map (fun i => (i.zero, i.size, i.bytes)) = some (some (.int .u8 0), 1, 1) := by kernel_rfl
/-- A number in so many bytes, the lowest first. -/
def lowest (n : Nat) : Nat → List UInt8
  | 0 => []
  | k + 1 => lowest n k ++ [UInt8.ofNat (n / 256 ^ k)]
theorem lowest_length (n k : Nat) : (lowest n k).length = k := by
  induction k with
  | zero => rfl
  | succ k ih => rw [lowest, List.length_append, ih]; rfl

/-- A slice without room that reads as the bytes L. -/
def Full (w : World) (v : Value) (L : List UInt8) : Prop := ∃ g, v = .slice (some ⟨g, 0, none⟩) L.length L.length ∧ ∀ j u, (L.map byteVal)[j]? = some u → w.cell? ⟨g, j, none⟩ = some u
theorem owns_less {w : World} {B C : Nat} {e : TypeId} {z : Nat} {v : Value} {n : Nat} {xs : List Value} (h : w.ownsRow B e z v n xs) (hC : C ≤ B) : w.ownsRow C e z v n xs := by
  obtain ⟨h1, h2 | ⟨g, cap, cur, h3, h4, h5⟩⟩ := h
  · exact ⟨h1, Or.inl h2⟩
  · exact ⟨h1, Or.inr ⟨g, cap, cur, h3, by omega, h5⟩⟩
theorem add_zero (g j : Nat) : (⟨g, 0, none⟩ : Addr).add j = ⟨g, j, none⟩ := by
  unfold Addr.add
  by_cases h : j = 0
  · subst h; rfl
  · simp [h]

set_option maxRecDepth 100000 in
set_option maxHeartbeats 2000000 in
theorem appendNumber_any (B : Nat) (v : Value) (L : List UInt8) (n : Nat) (w : World) (hv : w.ownsRow B 5 1 v L.length (L.map byteVal) ∨ Full w v L) (hB : B ≤ w.heap.size) (hL : L.length ≤ 1000) (hn : n < 4294967296) :
    Calls Try.prog 78 #[v, .int .i64 (n : Int)] w fun e w' => ∃ g cap, e = .returned (.slice (some ⟨g, 0, none⟩) (L.length + 4) cap) ∧ w'.ownsRow B 5 1 (.slice (some ⟨g, 0, none⟩) (L.length + 4) cap) (L.length + 4) ((L ++ lowest n 4).map byteVal) ∧ Below B w w' ∧ w.heap.size ≤ w'.heap.size := by
  obtain ⟨i0, hi, hz0, hz1, hz2⟩ := info_parts info5
  have HV : Hid (w.ownsRow B 5 1 v L.length (L.map byteVal) ∨ Full w v L) := hv
  clear hv
  go_enter Try.func78, Try.ntmps78
  go_wp2
  go_loopw [0, 1, 5] (fun v u i wr => ∃ (k : Nat) (M : List UInt8), k ≤ 4 ∧ i = .int .i64 k ∧ u = .int .i64 ((n / 256 ^ k : Nat) : Int) ∧ Hid (wr.ownsRow B 5 1 v M.length (M.map byteVal) ∨ (k = 0 ∧ Full wr v M)) ∧ Hid (M = L ++ lowest n k) ∧ Hid (Below B w wr)) (fun _ _ i _ => (4 - intOf i).toNat)
  case atStart => exact ⟨0, L, by omega, rfl, by simp, HV.out.imp id (fun h => ⟨rfl, h⟩), by simp [Hid, lowest], Below.refl _ _⟩
  case round =>
    obtain ⟨k, M, hk, rfl, rfl, HMo, HM, HB⟩ := hrel
    have HMl : Hid (M.length = L.length + k) := by show _ = _; rw [HM.out, List.length_append, lowest_length]
    have hMle : M.length ≤ 1004 := by have := HMl.out; omega
    by_cases hlt : k < 4
    · have hq : n / 256 ^ k ≤ n := Nat.div_le_self _ _
      obtain ⟨q, Hq⟩ : ∃ q, Hid (n / 256 ^ k = q) := ⟨_, rfl⟩
      rw [Hq.out] at hq ⊢
      have hsz : B ≤ wr.heap.size := Nat.le_trans hB HB.out.size
      have HT : Hid (M ++ [UInt8.ofNat q] = L ++ lowest n (k + 1)) := by rw [Hid, HM.out, lowest, Hq.out, List.append_assoc]
      rcases HMo.out with hM | ⟨k0, gF, hvF, hcF⟩
      · clear HMo
        go_wp2_with (at_builtin; refine wpList_append_lies _ rfl _ _ 34 rfl B 5 i0 (.int .u8 0) 1 1 Try.underlying34 hi hz0 hz1 hz2 rfl (by decide) _ _ _ rfl (hM.alloc _) ⟨wr.heap.size, 0, none⟩ 1 1 [byteVal (UInt8.ofNat q)] rfl rfl ?c1 ?c2 (by decide) ?c3 ?c4 ?c5 (wr.heap.size + 1) (by simp) ?_)
        case c1 =>
          intro j u hj
          match j, hj with
          | 0, hj => simp at hj; subst hj; simp [Addr.add, byteVal]
        case c2 => intro u hu; simp at hu; subst hu; rfl
        case c3 => unfold maxLen; omega
        case c4 => omega
        case c5 => simp; omega
        intro g cap w2 hown hgrow hat hlt2
        have HO : Hid (w2.ownsRow B 5 1 (.slice (some ⟨g, 0, none⟩) (M.length + 1) cap) (M ++ [UInt8.ofNat q]).length ((M ++ [UInt8.ofNat q]).map byteVal)) := by
          rw [Hid, List.map_append, List.length_append]; exact hown
        have HW2 : Hid (Below B w w2) := (HB.out.alloc hsz _).grown hgrow (by simp; omega) fun k hk => (hM.lt k hk).1
        clear hown hgrow hat hlt2 hM hsz
        go_wp2
        go_roundw
        case rel => exact ⟨k + 1, M ++ [UInt8.ofNat q], by omega, by go_num, by rw [← Hq.out, Nat.pow_succ, ← Nat.div_div_eq_div_mul]; go_num, Or.inl HO.out, HT, HW2⟩
        case measure => simp [intOf]; omega
      · clear HMo
        subst hvF
        subst k0
        have hcG : ∀ j u, (M.map byteVal)[j]? = some u → (wr.alloc (.cells #[byteVal (UInt8.ofNat q)] 5)).cell? ((⟨gF, 0, none⟩ : Addr).add j) = some u := fun j u hj => by
          rw [add_zero, World.cell?_alloc_past _ _ _ (cell_lt (hcF j u hj))]; exact hcF j u hj
        have HcG : Hid (∀ j u, (M.map byteVal)[j]? = some u → (wr.alloc (.cells #[byteVal (UInt8.ofNat q)] 5)).cell? ((⟨gF, 0, none⟩ : Addr).add j) = some u) := hcG
        clear hcF hcG
        go_wp2_with (at_builtin; refine wpList_append_grows _ rfl _ _ 34 rfl 5 i0 (.int .u8 0) 1 1 Try.underlying34 hi hz0 hz1 hz2 rfl (by decide) (some ⟨gF, 0, none⟩) M.length M.length (M.map byteVal) rfl (by simp) (by simp) (fun b hb => by cases hb; exact HcG.out) ⟨wr.heap.size, 0, none⟩ 1 1 [byteVal (UInt8.ofNat q)] rfl rfl ?c1 ?c2 ?c3 ?c4 ?c5 ?_)
        case c1 =>
          intro j u hj
          match j, hj with
          | 0, hj => simp at hj; subst hj; simp [Addr.add, byteVal]
        case c2 => intro u hu; simp at hu; subst hu; rfl
        case c3 => omega
        case c4 => unfold maxLen; omega
        case c5 => omega
        intro v2 w2 hown hgrow
        obtain ⟨g, cap, rfl, -, -⟩ := hown.form (by omega)
        have HO : Hid (w2.ownsRow B 5 1 (.slice (some ⟨g, 0, none⟩) (M.length + 1) cap) (M ++ [UInt8.ofNat q]).length ((M ++ [UInt8.ofNat q]).map byteVal)) := by
          rw [Hid, List.map_append, List.length_append]; exact owns_less hown (by first | omega | (simp; omega))
        have HW2 : Hid (Below B w w2) := (HB.out.alloc hsz _).grown hgrow (by simp; omega) fun k hk => (by cases hk)
        clear hown hgrow hsz HcG
        go_wp2
        go_roundw
        case rel => exact ⟨1, M ++ [UInt8.ofNat q], by omega, by go_num, by rw [← Hq.out, Nat.pow_one, Nat.pow_zero, Nat.div_one]; go_num, Or.inl HO.out, HT, HW2⟩
        case measure => simp [intOf]
    · have hk4 : k = 4 := by omega
      subst hk4
      have hM := HMo.out.resolve_right (fun h => absurd h.1 (by decide))
      clear HMo
      rw [HMl.out] at hM
      obtain ⟨g, cap, rfl, -, -⟩ := hM.form (by omega)
      have HO : Hid (wr.ownsRow B 5 1 (.slice (some ⟨g, 0, none⟩) (L.length + 4) cap) (L.length + 4) (M.map byteVal)) := hM
      clear hM
      go_wp2
      go_ret
      exact ⟨g, cap, rfl, by rw [← HM.out]; exact HO.out, HB.out, HB.out.size⟩

theorem appendNumber_at (B : Nat) (v : Value) (L : List UInt8) (n N : Nat) (w : World) (hv : w.ownsRow B 5 1 v L.length (L.map byteVal) ∨ Full w v L) (hB : B ≤ w.heap.size) (hL : L.length ≤ 1000) (hn : n < 4294967296) (hN : L.length + 4 = N) :
    Calls Try.prog 78 #[v, .int .i64 (n : Int)] w fun e w' => ∃ g cap, e = .returned (.slice (some ⟨g, 0, none⟩) N cap) ∧ Hid (w'.ownsRow B 5 1 (.slice (some ⟨g, 0, none⟩) N cap) N ((L ++ lowest n 4).map byteVal)) ∧ Hid (Below B w w') := by
  subst hN
  exact (appendNumber_any B v L n w hv hB hL hn).mono fun e w' ⟨g, cap, h1, h2, h3, _⟩ => ⟨g, cap, h1, h2, h3⟩

/-- A power of 2 from 1 to 65536. -/
def powB (n : Int) : Bool := decide (1 ≤ n) && (decide (n ≤ 65536) && (bits .and .i64 n (n - 1) == 0))
theorem powB_nat {n : Int} (h : powB n = true) : ∃ k : Nat, n = (k : Int) ∧ 1 ≤ k ∧ k ≤ 65536 := by
  simp [powB] at h
  exact ⟨n.toNat, by omega, by omega, by omega⟩
theorem powB_in {n : Int} (h1 : 1 ≤ n) (h2 : n ≤ 65536) : powB n = (bits .and .i64 n (n - 1) == 0) := by unfold powB; rw [decide_eq_true h1, decide_eq_true h2]; rfl
theorem powB_over {n : Int} (h : 65536 < n) : powB n = false := by unfold powB; rw [decide_eq_false (p := n ≤ 65536) (by omega), Bool.false_and, Bool.and_false]
theorem powB_under {n : Int} (h : n < 1) : powB n = false := by unfold powB; rw [decide_eq_false (p := 1 ≤ n) (by omega), Bool.false_and]
theorem powMay_any (n : Int) (w : World) : Calls Try.prog 77 #[.int .i64 n] w fun e w' => e = .returned (.bool (powB n)) ∧ w = w' := by
  by_cases h1 : 1 ≤ n
  · by_cases h2 : n ≤ 65536
    · have hw : wrap64 (n - 1) = n - 1 := IntWalk.wrap64_in _ (by omega)
      go_enter Try.func77, Try.ntmps77
      go_wp2
      go_ret
      exact ⟨ret_bool (by rw [powB_in h1 h2]), rfl⟩
    · go_enter Try.func77, Try.ntmps77
      go_wp2
      go_ret
      exact ⟨ret_bool (by rw [powB_over h2]), rfl⟩
  · go_enter Try.func77, Try.ntmps77
    go_wp2
    go_ret
    exact ⟨ret_bool (by rw [powB_under h1]), rfl⟩
/-- What stands ahead of the numbers. -/
def headL : List UInt8 := [83, 70, 68, 80, 6, 1, 0, 255]
/-- What is told of a chip of three sizes. -/
def putL (a b c : Nat) : List UInt8 := headL ++ lowest a 4 ++ lowest b 4 ++ lowest c 4 ++ List.replicate 12 255
def putT (a b c : Nat) : ByteArray := ⟨(putL a b c).toArray⟩
end Go.Proofs.Ythhchfldgkgfpaa
