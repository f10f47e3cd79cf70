/-
  What a chip of any sizes is like, as bytes: package sfdp's tail and Put at any numbers, by contracts. No conditions.
-/
import Derived.Test.YthhchfldgkgfpaaNumber
import Derived.Test.YthhchfldgkgfpaaShelf
import Derived.Deep.RegionHeld3
import Derived.Lib.SlBytesConst
namespace Go.Proofs.Ythhchfldgkgfpaa
open Go.RowKit Plain
set_option linter.unusedVariables false

def tailT : ByteArray := ⟨(List.replicate 12 (255 : UInt8)).toArray⟩
theorem tail_any (w : World) :
    Calls Try.prog 79 #[] w fun e w' => e = .returned (.string tailT) ∧ Below w.heap.size w w' := by
  have HR : Hid (∀ u : World, Calls Try.prog 65 #[.string ⟨#[255]⟩, .int .i64 12] u fun e w' => e = .returned (.string tailT) ∧ Below u.heap.size u w') := fun u => (Try.strings_Repeat ⟨#[255]⟩ 12 u (by decide) (by decide)).mono fun e w' h => h
  go_enter Try.func79, Try.ntmps79
  go_wp2_with fail
  refine (HR.out _).mono ?_
  rintro e w' ⟨rfl, b1⟩
  go_wp2
  go_ret
  exact ⟨rfl, b1⟩
theorem owns_bytes {w : World} {B g n c : Nat} {L : List UInt8} (h : w.ownsRow B 5 1 (.slice (some ⟨g, 0, none⟩) n c) n (L.map byteVal)) : Bytes w g n (fun j => L.getD j 0) := fun j hj => by
  obtain ⟨h1, ⟨h2, _⟩ | ⟨g', cap, cur, h3, h4, h5, h6, h7, h8, h9⟩⟩ := h
  · cases h2
  · cases h3
    simp at h1
    have hl : L[j]? = some (L.getD j 0) := by rw [List.getD_eq_getElem?_getD, List.getElem?_eq_getElem (by omega)]; rfl
    have hc : cur[j]? = some (byteVal (L.getD j 0)) := by
      have h10 : (cur.toList.take (n * 1))[j]? = some (byteVal (L.getD j 0)) := by rw [h9, List.getElem?_map, hl]; rfl
      rw [List.getElem?_take, if_pos (by omega), Array.getElem?_toList] at h10
      exact h10
    refine ⟨?_, ?_⟩
    · unfold World.cell?; simp [h5, hc, byteVal]
    · unfold World.frozen?; simp [h5]
theorem tab_list (n : Nat) (L : List UInt8) (h : L.length = n) : tab n (fun j => L.getD j 0) = ⟨L.toArray⟩ := by
  refine ext_ub (by rw [tab_size]; show n = L.toArray.size; simp [h]) fun i hi => ?_
  rw [tab_size] at hi
  rw [ub_tab _ _ _ hi, ub_of _ _ (by show i < L.toArray.size; simp; omega)]
  rw [List.getD_eq_getElem?_getD, List.getElem?_eq_getElem (by omega)]
  rfl
theorem keep_bytes {g n : Nat} {f : Nat → UInt8} {w v u : World} (h : Bytes v g n f ∧ Below w.heap.size w v) (k : Below v.heap.size v u) : Bytes u g n f ∧ Below w.heap.size w u :=
  ⟨fun j hj => by
    have hl := cell_lt (h.1 j hj).1
    rw [k.cell hl, k.frozen hl]; exact h.1 j hj, below_then h.2 k⟩
theorem below_at {B : Nat} {w v u : World} (h1 : Below B w v) (h2 : Below B v u) : Below B w u := h1.trans h2
/-- What stands ahead of the tail. -/
def numL (a b c : Nat) : List UInt8 := headL ++ lowest a 4 ++ lowest b 4 ++ lowest c 4
theorem numL_length (a b c : Nat) : (numL a b c).length = 20 := by simp [numL, lowest_length, headL]
theorem numL_tail (a b c : Nat) : (⟨(numL a b c).toArray⟩ : ByteArray) ++ tailT = putT a b c := by
  refine ByteArray.ext (Array.ext' ?_)
  rw [ByteArray.data_append, Array.toList_append]
  rfl

theorem idx0 (x y z : Value) (w : World) : (Instr.index 115 (.agg #[x, y, z]) (.int .i64 0)).run Try.prog w = .ok x w := by
  simp [Instr.index, run_underlying Try.underlying115, asIntOf, go_sem]
theorem idx1 (x y z : Value) (w : World) : (Instr.index 115 (.agg #[x, y, z]) (.int .i64 1)).run Try.prog w = .ok y w := by
  simp [Instr.index, run_underlying Try.underlying115, asIntOf, go_sem]
theorem idx2 (x y z : Value) (w : World) : (Instr.index 115 (.agg #[x, y, z]) (.int .i64 2)).run Try.prog w = .ok z w := by
  simp [Instr.index, run_underlying Try.underlying115, asIntOf, go_sem]
set_option maxRecDepth 100000 in
set_option maxHeartbeats 2000000 in
theorem put_no1 (a b c : Int) (w : World) (ha : powB a = false) :
    Calls Try.prog 68 #[.int .i64 a, .int .i64 b, .int .i64 c] w fun e w' => e = .returned (.tuple #[.string ⟨#[]⟩, .int .i64 700]) ∧ Below w.heap.size w w' := by
  have hcv := fun (w : World) (C : Array Value) (n c : Nat) => Lib.run_convert_bytes_const (P := Try.prog) w 34 5 C n c Try.underlying34 Try.underlying5
  have i0 := idx0
  have i1 := idx1
  have i2 := idx2
  go_enter Try.func68, Try.ntmps68
  go_wp2_with fail
  generalize hW : (w.alloc (.cells #[.int .u8 83, .int .u8 70, .int .u8 68, .int .u8 80, .int .u8 6, .int .u8 1, .int .u8 0, .int .u8 255] 5 (8, 9))) = W0
  have HF : Hid (Full W0 (.slice (some ⟨w.heap.size, 0, none⟩) 8 8) headL) := by
    refine ⟨w.heap.size, rfl, fun j u hj => ?_⟩
    rw [← hW, World.cell?_alloc_mark, ← hj, ← List.getElem?_toArray]
    exact congrArg (fun a : Array Value => a[j]?) (show _ = (List.map byteVal headL).toArray from rfl)
  have HB0 : Hid (Below w.heap.size w W0) := by rw [← hW]; exact (Below.refl _ _).alloc (Nat.le_refl _) _
  have HS : Hid (W0.heap.size = w.heap.size + 1) := by rw [← hW]; simp [Hid]
  clear hW hcv
  refine wp_loop_rounds 4 ?_
  rw [rounds_succ]
  go_wp2_with fail
  refine (powMay_any (a) _).mono ?_
  rintro e w' ⟨rfl, rfl⟩
  rw [ha]
  go_wp2
  go_ret2
  exact ⟨rfl, HB0.out⟩
set_option maxRecDepth 100000 in
set_option maxHeartbeats 2000000 in
theorem put_no2 (a : Nat) (b c : Int) (w : World) (ha : powB (a : Int) = true) (hb : powB b = false) (la : a ≤ 65536) :
    Calls Try.prog 68 #[.int .i64 (a : Int), .int .i64 b, .int .i64 c] w fun e w' => e = .returned (.tuple #[.string ⟨#[]⟩, .int .i64 700]) ∧ Below w.heap.size w w' := by
  have hcv := fun (w : World) (C : Array Value) (n c : Nat) => Lib.run_convert_bytes_const (P := Try.prog) w 34 5 C n c Try.underlying34 Try.underlying5
  have i0 := idx0
  have i1 := idx1
  have i2 := idx2
  go_enter Try.func68, Try.ntmps68
  go_wp2_with fail
  generalize hW : (w.alloc (.cells #[.int .u8 83, .int .u8 70, .int .u8 68, .int .u8 80, .int .u8 6, .int .u8 1, .int .u8 0, .int .u8 255] 5 (8, 9))) = W0
  have HF : Hid (Full W0 (.slice (some ⟨w.heap.size, 0, none⟩) 8 8) headL) := by
    refine ⟨w.heap.size, rfl, fun j u hj => ?_⟩
    rw [← hW, World.cell?_alloc_mark, ← hj, ← List.getElem?_toArray]
    exact congrArg (fun a : Array Value => a[j]?) (show _ = (List.map byteVal headL).toArray from rfl)
  have HB0 : Hid (Below w.heap.size w W0) := by rw [← hW]; exact (Below.refl _ _).alloc (Nat.le_refl _) _
  have HS : Hid (W0.heap.size = w.heap.size + 1) := by rw [← hW]; simp [Hid]
  clear hW hcv
  refine wp_loop_rounds 4 ?_
  rw [rounds_succ]
  go_wp2_with fail
  refine (powMay_any (a) _).mono ?_
  rintro e w' ⟨rfl, rfl⟩
  rw [ha]
  go_wp2_with fail
  refine (appendNumber_at (w.heap.size + 1) _ headL a 12 _ (Or.inr HF.out) (by rw [HS.out]; exact Nat.le_refl _) (by decide) (by omega) rfl).mono ?_
  rintro e w1 ⟨g1, c1, rfl, O1, B1⟩
  have HB1 : Hid (Below (w.heap.size + 1) W0 w1) := B1
  clear HF B1
  go_wp2_with fail
  rw [rounds_succ]
  go_wp2_with fail
  refine (powMay_any (b) _).mono ?_
  rintro e w' ⟨rfl, rfl⟩
  rw [hb]
  go_wp2
  go_ret2
  exact ⟨rfl, HB0.out.trans (HB1.out.mono (by omega))⟩
set_option maxRecDepth 100000 in
set_option maxHeartbeats 2000000 in
theorem put_no3 (a b : Nat) (c : Int) (w : World) (ha : powB (a : Int) = true) (hb : powB (b : Int) = true) (hc : powB c = false) (la : a ≤ 65536) (lb : b ≤ 65536) :
    Calls Try.prog 68 #[.int .i64 (a : Int), .int .i64 (b : Int), .int .i64 c] w fun e w' => e = .returned (.tuple #[.string ⟨#[]⟩, .int .i64 700]) ∧ Below w.heap.size w w' := by
  have hcv := fun (w : World) (C : Array Value) (n c : Nat) => Lib.run_convert_bytes_const (P := Try.prog) w 34 5 C n c Try.underlying34 Try.underlying5
  have i0 := idx0
  have i1 := idx1
  have i2 := idx2
  go_enter Try.func68, Try.ntmps68
  go_wp2_with fail
  generalize hW : (w.alloc (.cells #[.int .u8 83, .int .u8 70, .int .u8 68, .int .u8 80, .int .u8 6, .int .u8 1, .int .u8 0, .int .u8 255] 5 (8, 9))) = W0
  have HF : Hid (Full W0 (.slice (some ⟨w.heap.size, 0, none⟩) 8 8) headL) := by
    refine ⟨w.heap.size, rfl, fun j u hj => ?_⟩
    rw [← hW, World.cell?_alloc_mark, ← hj, ← List.getElem?_toArray]
    exact congrArg (fun a : Array Value => a[j]?) (show _ = (List.map byteVal headL).toArray from rfl)
  have HB0 : Hid (Below w.heap.size w W0) := by rw [← hW]; exact (Below.refl _ _).alloc (Nat.le_refl _) _
  have HS : Hid (W0.heap.size = w.heap.size + 1) := by rw [← hW]; simp [Hid]
  clear hW hcv
  refine wp_loop_rounds 4 ?_
  rw [rounds_succ]
  go_wp2_with fail
  refine (powMay_any (a) _).mono ?_
  rintro e w' ⟨rfl, rfl⟩
  rw [ha]
  go_wp2_with fail
  refine (appendNumber_at (w.heap.size + 1) _ headL a 12 _ (Or.inr HF.out) (by rw [HS.out]; exact Nat.le_refl _) (by decide) (by omega) rfl).mono ?_
  rintro e w1 ⟨g1, c1, rfl, O1, B1⟩
  have HB1 : Hid (Below (w.heap.size + 1) W0 w1) := B1
  clear HF B1
  go_wp2_with fail
  rw [rounds_succ]
  go_wp2_with fail
  refine (powMay_any (b) _).mono ?_
  rintro e w' ⟨rfl, rfl⟩
  rw [hb]
  go_wp2_with fail
  refine (appendNumber_at (w.heap.size + 1) _ (headL ++ lowest a 4) b 16 _ (Or.inl O1.out) (by have := HB1.out.size; have := HS.out; omega) (by simp [lowest_length, headL]) (by omega) (by simp [lowest_length, headL])).mono ?_
  rintro e w2 ⟨g2, c2, rfl, O2, B2⟩
  have HB2 : Hid (Below (w.heap.size + 1) W0 w2) := below_at HB1.out B2.out
  clear O1 B2
  go_wp2_with fail
  rw [rounds_succ]
  go_wp2_with fail
  refine (powMay_any (c) _).mono ?_
  rintro e w' ⟨rfl, rfl⟩
  rw [hc]
  go_wp2
  go_ret2
  exact ⟨rfl, HB0.out.trans (HB2.out.mono (by omega))⟩
set_option maxRecDepth 100000 in
set_option maxHeartbeats 2000000 in
theorem put_yes (a b c : Nat) (w : World) (ha : powB (a : Int) = true) (hb : powB (b : Int) = true) (hc : powB (c : Int) = true) (la : a ≤ 65536) (lb : b ≤ 65536) (lc : c ≤ 65536) :
    Calls Try.prog 68 #[.int .i64 (a : Int), .int .i64 (b : Int), .int .i64 (c : Int)] w fun e w' => ∃ T, e = .returned (.tuple #[.string T, .int .i64 0]) ∧ Hid (T = putT a b c) ∧ Below w.heap.size w w' := by
  have hcv := fun (w : World) (C : Array Value) (n c : Nat) => Lib.run_convert_bytes_const (P := Try.prog) w 34 5 C n c Try.underlying34 Try.underlying5
  have i0 := idx0
  have i1 := idx1
  have i2 := idx2
  go_enter Try.func68, Try.ntmps68
  go_wp2_with fail
  generalize hW : (w.alloc (.cells #[.int .u8 83, .int .u8 70, .int .u8 68, .int .u8 80, .int .u8 6, .int .u8 1, .int .u8 0, .int .u8 255] 5 (8, 9))) = W0
  have HF : Hid (Full W0 (.slice (some ⟨w.heap.size, 0, none⟩) 8 8) headL) := by
    refine ⟨w.heap.size, rfl, fun j u hj => ?_⟩
    rw [← hW, World.cell?_alloc_mark, ← hj, ← List.getElem?_toArray]
    exact congrArg (fun a : Array Value => a[j]?) (show _ = (List.map byteVal headL).toArray from rfl)
  have HB0 : Hid (Below w.heap.size w W0) := by rw [← hW]; exact (Below.refl _ _).alloc (Nat.le_refl _) _
  have HS : Hid (W0.heap.size = w.heap.size + 1) := by rw [← hW]; simp [Hid]
  clear hW hcv
  refine wp_loop_rounds 4 ?_
  rw [rounds_succ]
  go_wp2_with fail
  refine (powMay_any (a) _).mono ?_
  rintro e w' ⟨rfl, rfl⟩
  rw [ha]
  go_wp2_with fail
  refine (appendNumber_at (w.heap.size + 1) _ headL a 12 _ (Or.inr HF.out) (by rw [HS.out]; exact Nat.le_refl _) (by decide) (by omega) rfl).mono ?_
  rintro e w1 ⟨g1, c1, rfl, O1, B1⟩
  have HB1 : Hid (Below (w.heap.size + 1) W0 w1) := B1
  clear HF B1
  go_wp2_with fail
  rw [rounds_succ]
  go_wp2_with fail
  refine (powMay_any (b) _).mono ?_
  rintro e w' ⟨rfl, rfl⟩
  rw [hb]
  go_wp2_with fail
  refine (appendNumber_at (w.heap.size + 1) _ (headL ++ lowest a 4) b 16 _ (Or.inl O1.out) (by have := HB1.out.size; have := HS.out; omega) (by simp [lowest_length, headL]) (by omega) (by simp [lowest_length, headL])).mono ?_
  rintro e w2 ⟨g2, c2, rfl, O2, B2⟩
  have HB2 : Hid (Below (w.heap.size + 1) W0 w2) := below_at HB1.out B2.out
  clear O1 B2
  go_wp2_with fail
  rw [rounds_succ]
  go_wp2_with fail
  refine (powMay_any (c) _).mono ?_
  rintro e w' ⟨rfl, rfl⟩
  rw [hc]
  go_wp2_with fail
  refine (appendNumber_at (w.heap.size + 1) _ (headL ++ lowest a 4 ++ lowest b 4) c 20 _ (Or.inl O2.out) (by have := HB2.out.size; have := HS.out; omega) (by simp [lowest_length, headL]) (by omega) (by simp [lowest_length, headL])).mono ?_
  rintro e w3 ⟨g3, c3, rfl, O3, B3⟩
  have HB3 : Hid (Below (w.heap.size + 1) W0 w3) := below_at HB2.out B3.out
  clear O2 B3
  go_wp2_with fail
  rw [rounds_succ]
  go_wp2_with fail
  obtain ⟨f, Hf⟩ : ∃ f : Nat → UInt8, Hid (f = fun j => (numL a b c).getD j 0) := ⟨_, rfl⟩
  obtain ⟨T, HT⟩ : ∃ T : ByteArray, Hid (T = ⟨(numL a b c).toArray⟩) := ⟨_, rfl⟩
  have hby : Bytes w3 g3 20 f := by rw [Hf.out]; exact owns_bytes O3.out
  have Hcv : Hid (∀ v, Bytes v g3 20 f → (convert 34 9 (.slice (some ⟨g3, 0, none⟩) 20 c3)).run Try.prog v = .ok (.string T) v) := fun v hv => by
    have := hv.back c3
    rw [Hf.out, tab_list 20 (numL a b c) (numL_length a b c), ← HT.out] at this
    exact this
  have HB4 : Below w.heap.size w w3 := HB0.out.trans (HB3.out.mono (by omega))
  have S0 : (convert 34 9 (.slice (some ⟨g3, 0, none⟩) 20 c3)).run Try.prog w3.drew = .ok (.string T) w3.drew ∧ Bytes w3.drew g3 20 f ∧ Below w.heap.size w w3.drew := ⟨Hcv.out _ hby.drew, hby.drew, HB4.drew⟩
  have Hkeep : Hid (∀ v u, ((convert 34 9 (.slice (some ⟨g3, 0, none⟩) 20 c3)).run Try.prog v = .ok (.string T) v ∧ Bytes v g3 20 f ∧ Below w.heap.size w v) → Below v.heap.size v u → ((convert 34 9 (.slice (some ⟨g3, 0, none⟩) 20 c3)).run Try.prog u = .ok (.string T) u ∧ Bytes u g3 20 f ∧ Below w.heap.size w u)) := fun v u h k => by
    have := keep_bytes h.2 k
    exact ⟨Hcv.out u this.1, this⟩
  obtain ⟨U, HU⟩ : ∃ U : ByteArray, Hid (U = tailT) := ⟨_, rfl⟩
  have HR : Hid (∀ u : World, Calls Try.prog 79 #[] u fun e w' => e = .returned (.string U) ∧ Below u.heap.size u w') := fun u => (tail_any u).mono fun e w' h => by rw [HU.out]; exact h
  have hTs : T.size = 20 := by rw [HT.out]; show (numL a b c).toArray.size = 20; simp [numL_length]
  have hUs : U.size = 12 := by rw [HU.out]; rfl
  clear O3 HB3 HB2 HB1 Hf ha hb hc la lb lc
  go_region_held3 (fun v => (convert 34 9 (.slice (some ⟨g3, 0, none⟩) 20 c3)).run Try.prog v = .ok (.string T) v ∧ Bytes v g3 20 f ∧ Below w.heap.size w v) (first | exact S0 | exact Hkeep.out _ _ (by assumption) (by assumption))
    (first | (go_at_call 79; refine (HR.out _).mono ?_; rintro e w' ⟨rfl, b1⟩))
  have HTU : Hid (T ++ U = putT a b c) := by
    show _ = _
    rw [HT.out, HU.out]
    exact numL_tail a b c
  go_wp2
  go_ret2
  refine ⟨T ++ U, rfl, HTU, ?_⟩
  simp only [*]
end Go.Proofs.Ythhchfldgkgfpaa
