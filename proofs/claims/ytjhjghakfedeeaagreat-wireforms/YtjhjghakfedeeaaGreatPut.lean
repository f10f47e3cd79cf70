/-
  Numbers as bytes, the lowest first: package sfdp's appendNumber, may, by contracts; what a text of a chip's sizes is. No conditions but those of each statement. What a chip of any sizes is like, as bytes: package sfdp's tail and Put at any numbers, by contracts. No conditions.
-/
import Derived.Test.YtjhjghakfedeeaaGreatWhole
import Derived.Test.YtjhjghakfedeeaaGreatParts
import Derived.Deep.AppendLies
import Derived.ArgAppend
import Derived.Test.YtjhjghakfedeeaaGreatShelf
import Derived.Deep.RegionHeld3
import Derived.Lib.SlBytesConst
/-! Numbers as bytes, the lowest first: package sfdp's appendNumber, may, by contracts; what a text of a chip's sizes is. No conditions but those of each statement. -/
section
namespace Go.Proofs.YtjhjghakfedeeaaGreat
open Go.RowKit Plain
set_option linter.unusedVariables false

def byteVal (x : UInt8) : Value := .int .u8 (x.toNat : Int)
theorem info5 : (Tryz.prog.info? 5).map (fun i => (i.zero, i.size, i.bytes)) = some (some (.int .u8 0), 1, 1) := by kernel_rfl
/-- A number in so many bytes, the lowest first. -/
def lowest (n : Nat) : Nat → List UInt8
  | 0 => []
  | k + 1 => lowest n k ++ [UInt8.ofNat (n / 256 ^ k)]
theorem lowest_length (n k : Nat) : (lowest n k).length = k := by
  induction k with
  | zero => rfl
  | succ k ih => rw [lowest, List.length_append, ih]; rfl

/-- A slice without room that reads as the bytes L. -/
def Full (w : World) (v : Value) (L : List UInt8) : Prop := ∃ g, v = .slice (some ⟨g, 0, none⟩) L.length L.length ∧ ∀ j u, (L.map byteVal)[j]? = some u → w.cell? ⟨g, j, none⟩ = some u
theorem owns_less {w : World} {B C : Nat} {e : TypeId} {z : Nat} {v : Value} {n : Nat} {xs : List Value} (h : w.ownsRow B e z v n xs) (hC : C ≤ B) : w.ownsRow C e z v n xs := by
  obtain ⟨h1, h2 | ⟨g, cap, cur, h3, h4, h5⟩⟩ := h
  · exact ⟨h1, Or.inl h2⟩
  · exact ⟨h1, Or.inr ⟨g, cap, cur, h3, by omega, h5⟩⟩
theorem add_zero (g j : Nat) : (⟨g, 0, none⟩ : Addr).add j = ⟨g, j, none⟩ := by
  unfold Addr.add
  by_cases h : j = 0
  · subst h; rfl
  · simp [h]

set_option maxRecDepth 100000 in
set_option maxHeartbeats 2000000 in
theorem appendNumber_any (B : Nat) (v : Value) (L : List UInt8) (n : Nat) (w : World) (hv : w.ownsRow B 5 1 v L.length (L.map byteVal) ∨ Full w v L) (hB : B ≤ w.heap.size) (hL : L.length ≤ 1000) (hn : n < 4294967296) :
    Calls Tryz.prog 178 #[v, .int .i64 (n : Int)] w fun e w' => ∃ g cap, e = .returned (.slice (some ⟨g, 0, none⟩) (L.length + 4) cap) ∧ w'.ownsRow B 5 1 (.slice (some ⟨g, 0, none⟩) (L.length + 4) cap) (L.length + 4) ((L ++ lowest n 4).map byteVal) ∧ Below B w w' ∧ w.heap.size ≤ w'.heap.size := by
  obtain ⟨i0, hi, hz0, hz1, hz2⟩ := info_parts info5
  have HV : Hid (w.ownsRow B 5 1 v L.length (L.map byteVal) ∨ Full w v L) := hv
  clear hv
  go_enter Tryz.func178, Tryz.ntmps178
  go_wp2
  go_loopw [0, 1, 5] (fun v u i wr => ∃ (k : Nat) (M : List UInt8), k ≤ 4 ∧ i = .int .i64 k ∧ u = .int .i64 ((n / 256 ^ k : Nat) : Int) ∧ Hid (wr.ownsRow B 5 1 v M.length (M.map byteVal) ∨ (k = 0 ∧ Full wr v M)) ∧ Hid (M = L ++ lowest n k) ∧ Hid (Below B w wr)) (fun _ _ i _ => (4 - intOf i).toNat)
  case atStart => exact ⟨0, L, by omega, rfl, by simp, HV.out.imp id (fun h => ⟨rfl, h⟩), by simp [Hid, lowest], Below.refl _ _⟩
  case round =>
    obtain ⟨k, M, hk, rfl, rfl, HMo, HM, HB⟩ := hrel
    have HMl : Hid (M.length = L.length + k) := by show _ = _; rw [HM.out, List.length_append, lowest_length]
    have hMle : M.length ≤ 1004 := by have := HMl.out; omega
    by_cases hlt : k < 4
    · have hq : n / 256 ^ k ≤ n := Nat.div_le_self _ _
      obtain ⟨q, Hq⟩ : ∃ q, Hid (n / 256 ^ k = q) := ⟨_, rfl⟩
      rw [Hq.out] at hq ⊢
      have hsz : B ≤ wr.heap.size := Nat.le_trans hB HB.out.size
      have HT : Hid (M ++ [UInt8.ofNat q] = L ++ lowest n (k + 1)) := by rw [Hid, HM.out, lowest, Hq.out, List.append_assoc]
      rcases HMo.out with hM | ⟨k0, gF, hvF, hcF⟩
      · clear HMo
        go_wp2_with (at_builtin; refine wpList_append_lies _ rfl _ _ 91 rfl B 5 i0 (.int .u8 0) 1 1 Tryz.underlying91 hi hz0 hz1 hz2 rfl (by decide) _ _ _ rfl (hM.alloc _) ⟨wr.heap.size, 0, none⟩ 1 1 [byteVal (UInt8.ofNat q)] rfl rfl ?c1 ?c2 (by decide) ?c3 ?c4 ?c5 (wr.heap.size + 1) (by simp) ?_)
        case c1 =>
          intro j u hj
          match j, hj with
          | 0, hj => simp at hj; subst hj; simp [Addr.add, byteVal]
        case c2 => intro u hu; simp at hu; subst hu; rfl
        case c3 => unfold maxLen; omega
        case c4 => omega
        case c5 => simp; omega
        intro g cap w2 hown hgrow hat hlt2
        have HO : Hid (w2.ownsRow B 5 1 (.slice (some ⟨g, 0, none⟩) (M.length + 1) cap) (M ++ [UInt8.ofNat q]).length ((M ++ [UInt8.ofNat q]).map byteVal)) := by
          rw [Hid, List.map_append, List.length_append]; exact hown
        have HW2 : Hid (Below B w w2) := (HB.out.alloc hsz _).grown hgrow (by simp; omega) fun k hk => (hM.lt k hk).1
        clear hown hgrow hat hlt2 hM hsz
        go_wp2
        go_roundw
        case rel => exact ⟨k + 1, M ++ [UInt8.ofNat q], by omega, by go_num, by rw [← Hq.out, Nat.pow_succ, ← Nat.div_div_eq_div_mul]; go_num, Or.inl HO.out, HT, HW2⟩
        case measure => simp [intOf]; omega
      · clear HMo
        subst hvF
        subst k0
        have hcG : ∀ j u, (M.map byteVal)[j]? = some u → (wr.alloc (.cells #[byteVal (UInt8.ofNat q)] 5)).cell? ((⟨gF, 0, none⟩ : Addr).add j) = some u := fun j u hj => by
          rw [add_zero, World.cell?_alloc_past _ _ _ (cell_lt (hcF j u hj))]; exact hcF j u hj
        have HcG : Hid (∀ j u, (M.map byteVal)[j]? = some u → (wr.alloc (.cells #[byteVal (UInt8.ofNat q)] 5)).cell? ((⟨gF, 0, none⟩ : Addr).add j) = some u) := hcG
        clear hcF hcG
        go_wp2_with (at_builtin; refine wpList_append_grows _ rfl _ _ 91 rfl 5 i0 (.int .u8 0) 1 1 Tryz.underlying91 hi hz0 hz1 hz2 rfl (by decide) (some ⟨gF, 0, none⟩) M.length M.length (M.map byteVal) rfl (by simp) (by simp) (fun b hb => by cases hb; exact HcG.out) ⟨wr.heap.size, 0, none⟩ 1 1 [byteVal (UInt8.ofNat q)] rfl rfl ?c1 ?c2 ?c3 ?c4 ?c5 ?_)
        case c1 =>
          intro j u hj
          match j, hj with
          | 0, hj => simp at hj; subst hj; simp [Addr.add, byteVal]
        case c2 => intro u hu; simp at hu; subst hu; rfl
        case c3 => omega
        case c4 => unfold maxLen; omega
        case c5 => omega
        intro v2 w2 hown hgrow
        obtain ⟨g, cap, rfl, -, -⟩ := hown.form (by omega)
        have HO : Hid (w2.ownsRow B 5 1 (.slice (some ⟨g, 0, none⟩) (M.length + 1) cap) (M ++ [UInt8.ofNat q]).length ((M ++ [UInt8.ofNat q]).map byteVal)) := by
          rw [Hid, List.map_append, List.length_append]; exact owns_less hown (by first | omega | (simp; omega))
        have HW2 : Hid (Below B w w2) := (HB.out.alloc hsz _).grown hgrow (by simp; omega) fun k hk => (by cases hk)
        clear hown hgrow hsz HcG
        go_wp2
        go_roundw
        case rel => exact ⟨1, M ++ [UInt8.ofNat q], by omega, by go_num, by rw [← Hq.out, Nat.pow_one, Nat.pow_zero, Nat.div_one]; go_num, Or.inl HO.out, HT, HW2⟩
        case measure => simp [intOf]
    · have hk4 : k = 4 := by omega
      subst hk4
      have hM := HMo.out.resolve_right (fun h => absurd h.1 (by decide))
      clear HMo
      rw [HMl.out] at hM
      obtain ⟨g, cap, rfl, -, -⟩ := hM.form (by omega)
      have HO : Hid (wr.ownsRow B 5 1 (.slice (some ⟨g, 0, none⟩) (L.length + 4) cap) (L.length + 4) (M.map byteVal)) := hM
      clear hM
      go_wp2
      go_ret
      exact ⟨g, cap, rfl, by rw [← HM.out]; exact HO.out, HB.out, HB.out.size⟩

theorem appendNumber_at (B : Nat) (v : Value) (L : List UInt8) (n N : Nat) (w : World) (hv : w.ownsRow B 5 1 v L.length (L.map byteVal) ∨ Full w v L) (hB : B ≤ w.heap.size) (hL : L.length ≤ 1000) (hn : n < 4294967296) (hN : L.length + 4 = N) :
    Calls Tryz.prog 178 #[v, .int .i64 (n : Int)] w fun e w' => ∃ g cap, e = .returned (.slice (some ⟨g, 0, none⟩) N cap) ∧ Hid (w'.ownsRow B 5 1 (.slice (some ⟨g, 0, none⟩) N cap) N ((L ++ lowest n 4).map byteVal)) ∧ Hid (Below B w w') := by
  subst hN
  exact (appendNumber_any B v L n w hv hB hL hn).mono fun e w' ⟨g, cap, h1, h2, h3, _⟩ => ⟨g, cap, h1, h2, h3⟩

/-- A power of 2 from 1 to 65536. -/
def powB (n : Int) : Bool := decide (1 ≤ n) && (decide (n ≤ 65536) && (bits .and .i64 n (n - 1) == 0))
theorem powB_nat {n : Int} (h : powB n = true) : ∃ k : Nat, n = (k : Int) ∧ 1 ≤ k ∧ k ≤ 65536 := by
  simp [powB] at h
  exact ⟨n.toNat, by omega, by omega, by omega⟩
theorem powB_in {n : Int} (h1 : 1 ≤ n) (h2 : n ≤ 65536) : powB n = (bits .and .i64 n (n - 1) == 0) := by unfold powB; rw [decide_eq_true h1, decide_eq_true h2]; rfl
theorem powB_over {n : Int} (h : 65536 < n) : powB n = false := by unfold powB; rw [decide_eq_false (p := n ≤ 65536) (by omega), Bool.false_and, Bool.and_false]
theorem powB_under {n : Int} (h : n < 1) : powB n = false := by unfold powB; rw [decide_eq_false (p := 1 ≤ n) (by omega), Bool.false_and]
theorem powMay_any (n : Int) (w : World) : Calls Tryz.prog 177 #[.int .i64 n] w fun e w' => e = .returned (.bool (powB n)) ∧ w = w' := by
  by_cases h1 : 1 ≤ n
  · by_cases h2 : n ≤ 65536
    · have hw : wrap64 (n - 1) = n - 1 := IntWalk.wrap64_in _ (by omega)
      go_enter Tryz.func177, Tryz.ntmps177
      go_wp2
      go_ret
      exact ⟨ret_bool (by rw [powB_in h1 h2]), rfl⟩
    · go_enter Tryz.func177, Tryz.ntmps177
      go_wp2
      go_ret
      exact ⟨ret_bool (by rw [powB_over h2]), rfl⟩
  · go_enter Tryz.func177, Tryz.ntmps177
    go_wp2
    go_ret
    exact ⟨ret_bool (by rw [powB_under h1]), rfl⟩
theorem power_any (n : Int) (w : World) : Calls Tryz.prog 201 #[.int .i64 n] w fun e w' => e = .returned (.bool (powB n)) ∧ w = w' := by
  by_cases h1 : 1 ≤ n
  · by_cases h2 : n ≤ 65536
    · have hw : wrap64 (n - 1) = n - 1 := IntWalk.wrap64_in _ (by omega)
      go_enter Tryz.func201, Tryz.ntmps201
      go_wp2
      go_ret
      exact ⟨ret_bool (by rw [powB_in h1 h2]), rfl⟩
    · go_enter Tryz.func201, Tryz.ntmps201
      go_wp2
      go_ret
      exact ⟨ret_bool (by rw [powB_over h2]), rfl⟩
  · go_enter Tryz.func201, Tryz.ntmps201
    go_wp2
    go_ret
    exact ⟨ret_bool (by rw [powB_under h1]), rfl⟩

/-- What stands ahead of the numbers. -/
def headL : List UInt8 := [83, 70, 68, 80, 6, 1, 0, 255]
/-- What is told of a chip of three sizes. -/
def putL (a b c : Nat) : List UInt8 := headL ++ lowest a 4 ++ lowest b 4 ++ lowest c 4 ++ List.replicate 12 255
def putT (a b c : Nat) : ByteArray := ⟨(putL a b c).toArray⟩
end Go.Proofs.YtjhjghakfedeeaaGreat
end

/-! What a chip of any sizes is like, as bytes: package sfdp's tail and Put at any numbers, by contracts. No conditions. -/
section
namespace Go.Proofs.YtjhjghakfedeeaaGreat
open Go.RowKit Plain
set_option linter.unusedVariables false

def tailT : ByteArray := ⟨(List.replicate 12 (255 : UInt8)).toArray⟩
theorem tail_any (w : World) :
    Calls Tryz.prog 179 #[] w fun e w' => e = .returned (.string tailT) ∧ Below w.heap.size w w' := by
  have HR : Hid (∀ u : World, Calls Tryz.prog 155 #[.string ⟨#[255]⟩, .int .i64 12] u fun e w' => e = .returned (.string tailT) ∧ Below u.heap.size u w') := fun u => (Tryz.strings_Repeat ⟨#[255]⟩ 12 u (by decide) (by decide)).mono fun e w' h => h
  go_enter Tryz.func179, Tryz.ntmps179
  go_wp2_with fail
  refine (HR.out _).mono ?_
  rintro e w' ⟨rfl, b1⟩
  go_wp2
  go_ret
  exact ⟨rfl, b1⟩
theorem owns_bytes {w : World} {B g n c : Nat} {L : List UInt8} (h : w.ownsRow B 5 1 (.slice (some ⟨g, 0, none⟩) n c) n (L.map byteVal)) : Bytes w g n (fun j => L.getD j 0) := fun j hj => by
  obtain ⟨h1, ⟨h2, _⟩ | ⟨g', cap, cur, h3, h4, h5, h6, h7, h8, h9⟩⟩ := h
  · cases h2
  · cases h3
    simp at h1
    have hl : L[j]? = some (L.getD j 0) := by rw [List.getD_eq_getElem?_getD, List.getElem?_eq_getElem (by omega)]; rfl
    have hc : cur[j]? = some (byteVal (L.getD j 0)) := by
      have h10 : (cur.toList.take (n * 1))[j]? = some (byteVal (L.getD j 0)) := by rw [h9, List.getElem?_map, hl]; rfl
      rw [List.getElem?_take, if_pos (by omega), Array.getElem?_toList] at h10
      exact h10
    refine ⟨?_, ?_⟩
    · unfold World.cell?; simp [h5, hc, byteVal]
    · unfold World.frozen?; simp [h5]
theorem tab_list (n : Nat) (L : List UInt8) (h : L.length = n) : tab n (fun j => L.getD j 0) = ⟨L.toArray⟩ := by
  refine ext_ub (by rw [tab_size]; show n = L.toArray.size; simp [h]) fun i hi => ?_
  rw [tab_size] at hi
  rw [ub_tab _ _ _ hi, ub_of _ _ (by show i < L.toArray.size; simp; omega)]
  rw [List.getD_eq_getElem?_getD, List.getElem?_eq_getElem (by omega)]
  rfl
theorem keep_bytes {g n : Nat} {f : Nat → UInt8} {w v u : World} (h : Bytes v g n f ∧ Below w.heap.size w v) (k : Below v.heap.size v u) : Bytes u g n f ∧ Below w.heap.size w u :=
  ⟨fun j hj => by
    have hl := cell_lt (h.1 j hj).1
    rw [k.cell hl, k.frozen hl]; exact h.1 j hj, below_then h.2 k⟩
theorem below_at {B : Nat} {w v u : World} (h1 : Below B w v) (h2 : Below B v u) : Below B w u := h1.trans h2
/-- What stands ahead of the tail. -/
def numL (a b c : Nat) : List UInt8 := headL ++ lowest a 4 ++ lowest b 4 ++ lowest c 4
theorem numL_length (a b c : Nat) : (numL a b c).length = 20 := by simp [numL, lowest_length, headL]
theorem numL_tail (a b c : Nat) : (⟨(numL a b c).toArray⟩ : ByteArray) ++ tailT = putT a b c := by
  refine ByteArray.ext (Array.ext' ?_)
  rw [ByteArray.data_append, Array.toList_append]
  rfl

theorem idx0 (x y z : Value) (w : World) : (Instr.index 83 (.agg #[x, y, z]) (.int .i64 0)).run Tryz.prog w = .ok x w := by
  simp [Instr.index, run_underlying Tryz.underlying83, asIntOf, go_sem]
theorem idx1 (x y z : Value) (w : World) : (Instr.index 83 (.agg #[x, y, z]) (.int .i64 1)).run Tryz.prog w = .ok y w := by
  simp [Instr.index, run_underlying Tryz.underlying83, asIntOf, go_sem]
theorem idx2 (x y z : Value) (w : World) : (Instr.index 83 (.agg #[x, y, z]) (.int .i64 2)).run Tryz.prog w = .ok z w := by
  simp [Instr.index, run_underlying Tryz.underlying83, asIntOf, go_sem]
set_option maxRecDepth 100000 in
set_option maxHeartbeats 2000000 in
theorem put_no1 (a b c : Int) (w : World) (ha : powB a = false) :
    Calls Tryz.prog 163 #[.int .i64 a, .int .i64 b, .int .i64 c] w fun e w' => e = .returned (.tuple #[.string ⟨#[]⟩, .int .i64 700]) ∧ Below w.heap.size w w' := by
  have hcv := fun (w : World) (C : Array Value) (n c : Nat) => Lib.run_convert_bytes_const (P := Tryz.prog) w 91 5 C n c Tryz.underlying91 Tryz.underlying5
  have i0 := idx0
  have i1 := idx1
  have i2 := idx2
  go_enter Tryz.func163, Tryz.ntmps163
  go_wp2_with fail
  generalize hW : (w.alloc (.cells #[.int .u8 83, .int .u8 70, .int .u8 68, .int .u8 80, .int .u8 6, .int .u8 1, .int .u8 0, .int .u8 255] 5 (8, 9))) = W0
  have HF : Hid (Full W0 (.slice (some ⟨w.heap.size, 0, none⟩) 8 8) headL) := by
    refine ⟨w.heap.size, rfl, fun j u hj => ?_⟩
    rw [← hW, World.cell?_alloc_mark, ← hj, ← List.getElem?_toArray]
    exact congrArg (fun a : Array Value => a[j]?) (show _ = (List.map byteVal headL).toArray from rfl)
  have HB0 : Hid (Below w.heap.size w W0) := by rw [← hW]; exact (Below.refl _ _).alloc (Nat.le_refl _) _
  have HS : Hid (W0.heap.size = w.heap.size + 1) := by rw [← hW]; simp [Hid]
  clear hW hcv
  refine wp_loop_rounds 4 ?_
  rw [rounds_succ]
  go_wp2_with fail
  refine (powMay_any (a) _).mono ?_
  rintro e w' ⟨rfl, rfl⟩
  rw [ha]
  go_wp2
  go_ret2
  exact ⟨rfl, HB0.out⟩
set_option maxRecDepth 100000 in
set_option maxHeartbeats 2000000 in
theorem put_no2 (a : Nat) (b c : Int) (w : World) (ha : powB (a : Int) = true) (hb : powB b = false) (la : a ≤ 65536) :
    Calls Tryz.prog 163 #[.int .i64 (a : Int), .int .i64 b, .int .i64 c] w fun e w' => e = .returned (.tuple #[.string ⟨#[]⟩, .int .i64 700]) ∧ Below w.heap.size w w' := by
  have hcv := fun (w : World) (C : Array Value) (n c : Nat) => Lib.run_convert_bytes_const (P := Tryz.prog) w 91 5 C n c Tryz.underlying91 Tryz.underlying5
  have i0 := idx0
  have i1 := idx1
  have i2 := idx2
  go_enter Tryz.func163, Tryz.ntmps163
  go_wp2_with fail
  generalize hW : (w.alloc (.cells #[.int .u8 83, .int .u8 70, .int .u8 68, .int .u8 80, .int .u8 6, .int .u8 1, .int .u8 0, .int .u8 255] 5 (8, 9))) = W0
  have HF : Hid (Full W0 (.slice (some ⟨w.heap.size, 0, none⟩) 8 8) headL) := by
    refine ⟨w.heap.size, rfl, fun j u hj => ?_⟩
    rw [← hW, World.cell?_alloc_mark, ← hj, ← List.getElem?_toArray]
    exact congrArg (fun a : Array Value => a[j]?) (show _ = (List.map byteVal headL).toArray from rfl)
  have HB0 : Hid (Below w.heap.size w W0) := by rw [← hW]; exact (Below.refl _ _).alloc (Nat.le_refl _) _
  have HS : Hid (W0.heap.size = w.heap.size + 1) := by rw [← hW]; simp [Hid]
  clear hW hcv
  refine wp_loop_rounds 4 ?_
  rw [rounds_succ]
  go_wp2_with fail
  refine (powMay_any (a) _).mono ?_
  rintro e w' ⟨rfl, rfl⟩
  rw [ha]
  go_wp2_with fail
  refine (appendNumber_at (w.heap.size + 1) _ headL a 12 _ (Or.inr HF.out) (by rw [HS.out]; exact Nat.le_refl _) (by decide) (by omega) rfl).mono ?_
  rintro e w1 ⟨g1, c1, rfl, O1, B1⟩
  have HB1 : Hid (Below (w.heap.size + 1) W0 w1) := B1
  clear HF B1
  go_wp2_with fail
  rw [rounds_succ]
  go_wp2_with fail
  refine (powMay_any (b) _).mono ?_
  rintro e w' ⟨rfl, rfl⟩
  rw [hb]
  go_wp2
  go_ret2
  exact ⟨rfl, HB0.out.trans (HB1.out.mono (by omega))⟩
set_option maxRecDepth 100000 in
set_option maxHeartbeats 2000000 in
theorem put_no3 (a b : Nat) (c : Int) (w : World) (ha : powB (a : Int) = true) (hb : powB (b : Int) = true) (hc : powB c = false) (la : a ≤ 65536) (lb : b ≤ 65536) :
    Calls Tryz.prog 163 #[.int .i64 (a : Int), .int .i64 (b : Int), .int .i64 c] w fun e w' => e = .returned (.tuple #[.string ⟨#[]⟩, .int .i64 700]) ∧ Below w.heap.size w w' := by
  have hcv := fun (w : World) (C : Array Value) (n c : Nat) => Lib.run_convert_bytes_const (P := Tryz.prog) w 91 5 C n c Tryz.underlying91 Tryz.underlying5
  have i0 := idx0
  have i1 := idx1
  have i2 := idx2
  go_enter Tryz.func163, Tryz.ntmps163
  go_wp2_with fail
  generalize hW : (w.alloc (.cells #[.int .u8 83, .int .u8 70, .int .u8 68, .int .u8 80, .int .u8 6, .int .u8 1, .int .u8 0, .int .u8 255] 5 (8, 9))) = W0
  have HF : Hid (Full W0 (.slice (some ⟨w.heap.size, 0, none⟩) 8 8) headL) := by
    refine ⟨w.heap.size, rfl, fun j u hj => ?_⟩
    rw [← hW, World.cell?_alloc_mark, ← hj, ← List.getElem?_toArray]
    exact congrArg (fun a : Array Value => a[j]?) (show _ = (List.map byteVal headL).toArray from rfl)
  have HB0 : Hid (Below w.heap.size w W0) := by rw [← hW]; exact (Below.refl _ _).alloc (Nat.le_refl _) _
  have HS : Hid (W0.heap.size = w.heap.size + 1) := by rw [← hW]; simp [Hid]
  clear hW hcv
  refine wp_loop_rounds 4 ?_
  rw [rounds_succ]
  go_wp2_with fail
  refine (powMay_any (a) _).mono ?_
  rintro e w' ⟨rfl, rfl⟩
  rw [ha]
  go_wp2_with fail
  refine (appendNumber_at (w.heap.size + 1) _ headL a 12 _ (Or.inr HF.out) (by rw [HS.out]; exact Nat.le_refl _) (by decide) (by omega) rfl).mono ?_
  rintro e w1 ⟨g1, c1, rfl, O1, B1⟩
  have HB1 : Hid (Below (w.heap.size + 1) W0 w1) := B1
  clear HF B1
  go_wp2_with fail
  rw [rounds_succ]
  go_wp2_with fail
  refine (powMay_any (b) _).mono ?_
  rintro e w' ⟨rfl, rfl⟩
  rw [hb]
  go_wp2_with fail
  refine (appendNumber_at (w.heap.size + 1) _ (headL ++ lowest a 4) b 16 _ (Or.inl O1.out) (by have := HB1.out.size; have := HS.out; omega) (by simp [lowest_length, headL]) (by omega) (by simp [lowest_length, headL])).mono ?_
  rintro e w2 ⟨g2, c2, rfl, O2, B2⟩
  have HB2 : Hid (Below (w.heap.size + 1) W0 w2) := below_at HB1.out B2.out
  clear O1 B2
  go_wp2_with fail
  rw [rounds_succ]
  go_wp2_with fail
  refine (powMay_any (c) _).mono ?_
  rintro e w' ⟨rfl, rfl⟩
  rw [hc]
  go_wp2
  go_ret2
  exact ⟨rfl, HB0.out.trans (HB2.out.mono (by omega))⟩
set_option maxRecDepth 100000 in
set_option maxHeartbeats 2000000 in
theorem put_yes (a b c : Nat) (w : World) (ha : powB (a : Int) = true) (hb : powB (b : Int) = true) (hc : powB (c : Int) = true) (la : a ≤ 65536) (lb : b ≤ 65536) (lc : c ≤ 65536) :
    Calls Tryz.prog 163 #[.int .i64 (a : Int), .int .i64 (b : Int), .int .i64 (c : Int)] w fun e w' => ∃ T, e = .returned (.tuple #[.string T, .int .i64 0]) ∧ Hid (T = putT a b c) ∧ Below w.heap.size w w' := by
  have hcv := fun (w : World) (C : Array Value) (n c : Nat) => Lib.run_convert_bytes_const (P := Tryz.prog) w 91 5 C n c Tryz.underlying91 Tryz.underlying5
  have i0 := idx0
  have i1 := idx1
  have i2 := idx2
  go_enter Tryz.func163, Tryz.ntmps163
  go_wp2_with fail
  generalize hW : (w.alloc (.cells #[.int .u8 83, .int .u8 70, .int .u8 68, .int .u8 80, .int .u8 6, .int .u8 1, .int .u8 0, .int .u8 255] 5 (8, 9))) = W0
  have HF : Hid (Full W0 (.slice (some ⟨w.heap.size, 0, none⟩) 8 8) headL) := by
    refine ⟨w.heap.size, rfl, fun j u hj => ?_⟩
    rw [← hW, World.cell?_alloc_mark, ← hj, ← List.getElem?_toArray]
    exact congrArg (fun a : Array Value => a[j]?) (show _ = (List.map byteVal headL).toArray from rfl)
  have HB0 : Hid (Below w.heap.size w W0) := by rw [← hW]; exact (Below.refl _ _).alloc (Nat.le_refl _) _
  have HS : Hid (W0.heap.size = w.heap.size + 1) := by rw [← hW]; simp [Hid]
  clear hW hcv
  refine wp_loop_rounds 4 ?_
  rw [rounds_succ]
  go_wp2_with fail
  refine (powMay_any (a) _).mono ?_
  rintro e w' ⟨rfl, rfl⟩
  rw [ha]
  go_wp2_with fail
  refine (appendNumber_at (w.heap.size + 1) _ headL a 12 _ (Or.inr HF.out) (by rw [HS.out]; exact Nat.le_refl _) (by decide) (by omega) rfl).mono ?_
  rintro e w1 ⟨g1, c1, rfl, O1, B1⟩
  have HB1 : Hid (Below (w.heap.size + 1) W0 w1) := B1
  clear HF B1
  go_wp2_with fail
  rw [rounds_succ]
  go_wp2_with fail
  refine (powMay_any (b) _).mono ?_
  rintro e w' ⟨rfl, rfl⟩
  rw [hb]
  go_wp2_with fail
  refine (appendNumber_at (w.heap.size + 1) _ (headL ++ lowest a 4) b 16 _ (Or.inl O1.out) (by have := HB1.out.size; have := HS.out; omega) (by simp [lowest_length, headL]) (by omega) (by simp [lowest_length, headL])).mono ?_
  rintro e w2 ⟨g2, c2, rfl, O2, B2⟩
  have HB2 : Hid (Below (w.heap.size + 1) W0 w2) := below_at HB1.out B2.out
  clear O1 B2
  go_wp2_with fail
  rw [rounds_succ]
  go_wp2_with fail
  refine (powMay_any (c) _).mono ?_
  rintro e w' ⟨rfl, rfl⟩
  rw [hc]
  go_wp2_with fail
  refine (appendNumber_at (w.heap.size + 1) _ (headL ++ lowest a 4 ++ lowest b 4) c 20 _ (Or.inl O2.out) (by have := HB2.out.size; have := HS.out; omega) (by simp [lowest_length, headL]) (by omega) (by simp [lowest_length, headL])).mono ?_
  rintro e w3 ⟨g3, c3, rfl, O3, B3⟩
  have HB3 : Hid (Below (w.heap.size + 1) W0 w3) := below_at HB2.out B3.out
  clear O2 B3
  go_wp2_with fail
  rw [rounds_succ]
  go_wp2_with fail
  obtain ⟨f, Hf⟩ : ∃ f : Nat → UInt8, Hid (f = fun j => (numL a b c).getD j 0) := ⟨_, rfl⟩
  obtain ⟨T, HT⟩ : ∃ T : ByteArray, Hid (T = ⟨(numL a b c).toArray⟩) := ⟨_, rfl⟩
  have hby : Bytes w3 g3 20 f := by rw [Hf.out]; exact owns_bytes O3.out
  have Hcv : Hid (∀ v, Bytes v g3 20 f → (convert 91 9 (.slice (some ⟨g3, 0, none⟩) 20 c3)).run Tryz.prog v = .ok (.string T) v) := fun v hv => by
    have := hv.back c3
    rw [Hf.out, tab_list 20 (numL a b c) (numL_length a b c), ← HT.out] at this
    exact this
  have HB4 : Below w.heap.size w w3 := HB0.out.trans (HB3.out.mono (by omega))
  have S0 : (convert 91 9 (.slice (some ⟨g3, 0, none⟩) 20 c3)).run Tryz.prog w3.drew = .ok (.string T) w3.drew ∧ Bytes w3.drew g3 20 f ∧ Below w.heap.size w w3.drew := ⟨Hcv.out _ hby.drew, hby.drew, HB4.drew⟩
  have Hkeep : Hid (∀ v u, ((convert 91 9 (.slice (some ⟨g3, 0, none⟩) 20 c3)).run Tryz.prog v = .ok (.string T) v ∧ Bytes v g3 20 f ∧ Below w.heap.size w v) → Below v.heap.size v u → ((convert 91 9 (.slice (some ⟨g3, 0, none⟩) 20 c3)).run Tryz.prog u = .ok (.string T) u ∧ Bytes u g3 20 f ∧ Below w.heap.size w u)) := fun v u h k => by
    have := keep_bytes h.2 k
    exact ⟨Hcv.out u this.1, this⟩
  obtain ⟨U, HU⟩ : ∃ U : ByteArray, Hid (U = tailT) := ⟨_, rfl⟩
  have HR : Hid (∀ u : World, Calls Tryz.prog 179 #[] u fun e w' => e = .returned (.string U) ∧ Below u.heap.size u w') := fun u => (tail_any u).mono fun e w' h => by rw [HU.out]; exact h
  have hTs : T.size = 20 := by rw [HT.out]; show (numL a b c).toArray.size = 20; simp [numL_length]
  have hUs : U.size = 12 := by rw [HU.out]; rfl
  clear O3 HB3 HB2 HB1 Hf ha hb hc la lb lc
  go_region_held3 (fun v => (convert 91 9 (.slice (some ⟨g3, 0, none⟩) 20 c3)).run Tryz.prog v = .ok (.string T) v ∧ Bytes v g3 20 f ∧ Below w.heap.size w v) (first | exact S0 | exact Hkeep.out _ _ (by assumption) (by assumption))
    (first | (go_at_call 179; refine (HR.out _).mono ?_; rintro e w' ⟨rfl, b1⟩))
  have HTU : Hid (T ++ U = putT a b c) := by
    show _ = _
    rw [HT.out, HU.out]
    exact numL_tail a b c
  go_wp2
  go_ret2
  refine ⟨T ++ U, rfl, HTU, ?_⟩
  simp only [*]
end Go.Proofs.YtjhjghakfedeeaaGreat
end
