/-
  The words that the statements say to a chip: bits of bytes, clocks of nothing, clocks in a row; and a new chip over a text: each by a contract. Conditions: the chip lies in memory as told; the rows are short.
-/
import Derived.Test.YthhchfldgkgfpaaGreatKeep
import Derived.Deep.AppendLies
namespace Go.Proofs.YthhchfldgkgfpaaGreat
open Go.RowKit Plain
set_option linter.unusedVariables false

def nums (L : List Nat) : List Int := L.map fun n : Nat => (n : Int)
theorem nums_length (L : List Nat) : (nums L).length = L.length := List.length_map _
theorem nums_append (L M : List Nat) : nums (L ++ M) = nums L ++ nums M := List.map_append
theorem nums_getD (L : List Nat) (j : Nat) : (nums L).getD j 0 = ((L.getD j 0 : Nat) : Int) := by
  unfold nums
  simp only [List.getD_eq_getElem?_getD, List.getElem?_map]
  cases L[j]? <;> rfl
def NOwns (B : Nat) (w : World) (v : Value) (L : List Nat) : Prop := Owns B w v (nums L)

/-- The clocks of a byte on the lowest lane. -/
def bitsOf (b : Nat) : List Nat := [14 + b / 128 % 2, 14 + b / 64 % 2, 14 + b / 32 % 2, 14 + b / 16 % 2, 14 + b / 8 % 2, 14 + b / 4 % 2, 14 + b / 2 % 2, 14 + b % 2]
def wordL (L : List Nat) : List Nat := L.flatMap bitsOf
theorem bitsOf_get (b t : Nat) (ht : t < 8) : (bitsOf b)[t]? = some (14 + b / 2 ^ (7 - t) % 2) := by
  rcases (by omega : t = 0 ∨ t = 1 ∨ t = 2 ∨ t = 3 ∨ t = 4 ∨ t = 5 ∨ t = 6 ∨ t = 7) with rfl | rfl | rfl | rfl | rfl | rfl | rfl | rfl <;> simp [bitsOf]
theorem wordL_length (L : List Nat) : (wordL L).length = 8 * L.length := by
  induction L with
  | nil => rfl
  | cons x r ih =>
    show (bitsOf x ++ wordL r).length = _
    rw [List.length_append, ih, List.length_cons]
    show 8 + _ = _
    omega
theorem or_14 (x : Nat) : bits .or .i64 14 ((x % 2 : Nat) : Int) = ((14 + x % 2 : Nat) : Int) := by
  rcases (by omega : x % 2 = 0 ∨ x % 2 = 1) with e | e <;> rw [e] <;> rfl
theorem take_one {α : Type} (L : List α) (t : Nat) (x : α) (h : L[t]? = some x) : L.take (t + 1) = L.take t ++ [x] := by
  have ht : t < L.length := (List.getElem?_eq_some_iff.1 h).1
  rw [List.take_add_one, h]; rfl

set_option maxRecDepth 100000 in
set_option maxHeartbeats 4000000 in
theorem word_any (v : Value) (L : List Nat) (w : World) (hv : Reads w v (nums L)) (hL : L.length ≤ 4000) (hb : ∀ x ∈ L, x < 256) :
    Calls Tryz.prog 31 #[v] w fun e w' => ∃ a c, e = .returned (.slice a (8 * L.length) c) ∧ Hid (Owns w.heap.size w' (.slice a (8 * L.length) c) (nums (wordL L))) ∧ Below w.heap.size w w' := by
  obtain ⟨i0, hi, hz0, hz1, hz2⟩ := info_parts info3
  obtain ⟨a, cap, rfl, hr⟩ := hv
  rw [nums_length] at hr ⊢
  have HR : Hid (0 < L.length → ∃ g o, a = some ⟨g, o, none⟩ ∧ ∀ j, j < L.length → w.cell? ⟨g, o + j, none⟩ = some (.int .i64 ((nums L).getD j 0))) := hr
  clear hr
  go_enter Tryz.func31, Tryz.ntmps31
  go_wp2
  go_loopw [3, 4] (fun v i wr => ∃ (k : Nat) (M : List Nat), k ≤ L.length ∧ i = .int .i64 k ∧ wr.ownsRow w.heap.size 3 1 v (nums M).length ((nums M).map (Value.int .i64)) ∧ Hid (M = wordL (L.take k)) ∧ Hid (Below w.heap.size w wr)) (fun _ i _ => (L.length - intOf i).toNat)
  case atStart => exact ⟨0, [], by omega, rfl, World.ownsRow_nil _ _ _ _, by simp [Hid, wordL], Below.refl _ _⟩
  case round =>
    obtain ⟨k, M, hk, rfl, hM, HM, HB⟩ := hrel
    by_cases hlt : k < L.length
    · obtain ⟨g, o, rfl, hc⟩ := HR.out (by omega)
      obtain ⟨b, Hb⟩ : ∃ b, Hid (L[k]? = some b) := ⟨L[k], List.getElem?_eq_getElem hlt⟩
      have hb256 : b < 256 := hb b (List.mem_of_getElem? Hb.out)
      have ck0 := hc k hlt
      rw [nums_getD, List.getD_eq_getElem?_getD, Hb.out] at ck0
      have ck : wr.cell? ⟨g, o + k, none⟩ = some (.int .i64 (b : Int)) := by rw [HB.out.cell (cell_lt ck0)]; exact ck0
      have Hck0 : Hid (w.cell? ⟨g, o + k, none⟩ = some (.int .i64 (b : Int))) := ck0
      have HMl : Hid (M.length = 8 * k) := by show _ = _; rw [HM.out, wordL_length, List.length_take]; omega
      clear hc ck0 HR
      have HM0 : Hid (wr.ownsRow w.heap.size 3 1 u3 (nums M).length ((nums M).map (Value.int .i64))) := hM
      clear hM
      go_wp2_with fail
      go_loopw [3, 5] (fun v j ws => ∃ (t : Nat) (N : List Nat), t ≤ 8 ∧ j = .int .i64 (7 - (t : Int)) ∧ ws.ownsRow w.heap.size 3 1 v (nums N).length ((nums N).map (Value.int .i64)) ∧ Hid (N = M ++ (bitsOf b).take t) ∧ Hid (Below w.heap.size w ws)) (fun _ j _ => (intOf j + 1).toNat)
      case atStart => exact ⟨0, M, by omega, rfl, HM0.out, by simp [Hid], HB⟩
      case round =>
        obtain ⟨t, N, ht, rfl, hN, HN, HBs⟩ := hrel
        have hsz : w.heap.size ≤ wr.heap.size := HBs.out.size
        have HNl : Hid ((nums N).length = 8 * k + t) := by show _ = _; rw [nums_length, HN.out, List.length_append, HMl.out, List.length_take]; show _ + min t 8 = _; omega
        have hNl : (nums N).length ≤ 40000 := by have := HNl.out; omega
        by_cases h8 : t < 8
        · obtain ⟨q, Hq⟩ : ∃ q, Hid (7 - t = q) := ⟨_, rfl⟩
          have hq8 : q < 8 := by rw [← Hq.out]; omega
          rw [show (7 : Int) - (t : Int) = (q : Int) by have := Hq.out; omega]
          have cks : wr.cell? ⟨g, o + k, none⟩ = some (.int .i64 (b : Int)) := by rw [HBs.out.cell (cell_lt Hck0.out)]; exact Hck0.out
          obtain ⟨y, Hy⟩ : ∃ y, Hid (14 + b / 2 ^ q % 2 = y) := ⟨_, rfl⟩
          have hyv : bits .or .i64 14 (bits .and .i64 ((b : Int) / 2 ^ q) 1) = (y : Int) := by
            rw [← Hy.out, and_1, show ((b : Int) / 2 ^ q) % 2 = ((b / 2 ^ q % 2 : Nat) : Int) by simp]
            exact or_14 _
          have HT : Hid (N ++ [y] = M ++ (bitsOf b).take (t + 1)) := by
            show _ = _
            rw [take_one _ t y (by rw [bitsOf_get b t h8, Hq.out, Hy.out]), HN.out, List.append_assoc]
          clear ck
          go_wp2_with (at_builtin; refine wpList_append_lies _ rfl _ _ 33 rfl w.heap.size 3 i0 (.int .i64 0) 1 8 Tryz.underlying33 hi hz0 hz1 hz2 rfl (by decide) _ _ _ rfl (hN.alloc _) ⟨wr.heap.size, 0, none⟩ 1 1 [.int .i64 (y : Int)] rfl rfl ?c1 ?c2 (by decide) ?c3 ?c4 ?c5 (wr.heap.size + 1) (by simp) ?_)
          case c1 =>
            intro j u hj
            match j, hj with
            | 0, hj => simp at hj; subst hj; simp [Addr.add]
          case c2 => intro u hu; simp at hu; subst hu; rfl
          case c3 => unfold maxLen; omega
          case c4 => omega
          case c5 => simp; omega
          intro g2 cap2 w2 hown hgrow hat hlt2
          have HO : Hid (w2.ownsRow w.heap.size 3 1 (.slice (some ⟨g2, 0, none⟩) ((nums N).length + 1) cap2) (nums (N ++ [y])).length ((nums (N ++ [y])).map (Value.int .i64))) := by
            rw [Hid, nums_append, List.map_append, List.length_append]; exact hown
          have HW2 : Hid (Below w.heap.size w w2) := (HBs.out.alloc hsz _).grown hgrow (by simp; omega) fun k hk => (hN.lt k hk).1
          clear hown hgrow hat hlt2 hN hsz cks hyv
          go_wp2
          go_roundw
          case rel => exact ⟨t + 1, N ++ [y], by omega, by have := Hq.out; congr 1; omega, HO.out, HT, HW2⟩
          case measure => simp [intOf]
        · have ht8 : t = 8 := by omega
          subst ht8
          have HT : Hid (N = wordL (L.take (k + 1))) := by
            show _ = _
            rw [take_one L k b Hb.out, HN.out, HM.out]
            unfold wordL
            rw [List.flatMap_append]
            simp [bitsOf]
          have HO : Hid (wr.ownsRow w.heap.size 3 1 u3 (nums N).length ((nums N).map (Value.int .i64))) := hN
          clear hN ck
          go_wp2
          go_roundw
          case rel => exact ⟨k + 1, N, by omega, by go_num, HO.out, HT, HBs⟩
          case measure => simp [intOf]; omega
    · have hkL : k = L.length := by omega
      have HT : Hid (M = wordL L) := by show _ = _; rw [HM.out, hkL, List.take_length]
      have hMl : (nums M).length = 8 * L.length := by rw [nums_length, HT.out, wordL_length]
      rw [hMl] at hM
      have HO : Hid (wr.ownsRow w.heap.size 3 1 u3 (8 * L.length) ((nums M).map (Value.int .i64))) := hM
      have HF : Hid (∃ a c, u3 = .slice a (8 * L.length) c) := by
        obtain ⟨_, ⟨e1, h2⟩ | ⟨g, cp, cur, e1, _⟩⟩ := hM
        · exact ⟨none, 0, by rw [e1, h2]⟩
        · exact ⟨_, cp, e1⟩
      have hkd : decide ((k : Int) < (L.length : Int)) = false := decide_eq_false (by omega)
      clear hM hkL hMl
      go_wp2
      go_ret
      obtain ⟨a, c, e⟩ := HF.out
      refine ⟨a, c, congrArg _ e, ?_, HB.out⟩
      show wr.ownsRow _ _ _ _ _ _
      rw [nums_length, wordL_length, ← e, ← HT.out]
      exact HO.out

theorem replicate_one (k : Nat) : List.replicate (k + 1) 15 = List.replicate k 15 ++ [15] := List.replicate_succ' ..

theorem owns_empty (w : World) : (w.alloc (.cells #[] 3)).ownsRow w.heap.size 3 1 (.slice (some ⟨w.heap.size, 0, none⟩) 0 0) 0 [] :=
  ⟨rfl, Or.inr ⟨w.heap.size, 0, #[], rfl, Nat.le_refl _, heap_alloc_new _ _, Nat.le_refl _, by unfold maxLen; omega, rfl, rfl⟩⟩

set_option maxRecDepth 100000 in
set_option maxHeartbeats 4000000 in
theorem quiet_any (v : Value) (L : List Nat) (k : Nat) (w : World) (hv : Reads w v (nums L)) (hp : 0 < L.length) (hL : L.length ≤ 40000) (hk : k ≤ 4000) :
    Calls Tryz.prog 32 #[v, .int .i64 (k : Int)] w fun e w' => ∃ a c, e = .returned (.slice a (L.length + k) c) ∧ Hid (Owns w.heap.size w' (.slice a (L.length + k) c) (nums (L ++ List.replicate k 15))) ∧ Below w.heap.size w w' := by
  obtain ⟨i0, hi, hz0, hz1, hz2⟩ := info_parts info3
  obtain ⟨a, cap, rfl, hr⟩ := hv
  rw [nums_length] at hr ⊢
  obtain ⟨g, o, rfl, hc⟩ := hr hp
  have HS : Hid (∀ j u, ((nums L).map (Value.int .i64))[j]? = some u → (w.alloc (.cells #[] 3)).cell? ((⟨g, o, none⟩ : Addr).add j) = some u) := fun j u hj => by
    have hjl : j < L.length := by
      have := (List.getElem?_eq_some_iff.1 hj).1
      simpa [nums_length] using this
    have h1 := hc j hjl
    rw [Addr.add_mid, World.cell?_alloc_past _ _ _ (cell_lt h1), h1]
    rw [List.getElem?_map] at hj
    rw [List.getD_eq_getElem?_getD]
    cases e : (nums L)[j]? with
    | none => rw [e] at hj; cases hj
    | some y => rw [e] at hj; exact hj
  clear hr hc
  go_enter Tryz.func32, Tryz.ntmps32
  go_wp2_with (at_builtin; refine wpList_append_lies _ rfl _ _ 33 rfl w.heap.size 3 i0 (.int .i64 0) 1 8 Tryz.underlying33 hi hz0 hz1 hz2 rfl (by decide) _ _ _ rfl (owns_empty w) ⟨g, o, none⟩ L.length cap ((nums L).map (Value.int .i64)) rfl (by simp [nums_length]) HS.out ?c2 hp ?c3 ?c4 ?c5 (w.heap.size + 1) (by simp) ?_)
  case c2 => intro u hu; simp at hu; obtain ⟨x, _, rfl⟩ := hu; rfl
  case c3 => unfold maxLen; omega
  case c4 => omega
  case c5 => simp
  intro g2 cap2 w2 hown hgrow hat hlt2
  have HO0 : Hid (w2.ownsRow w.heap.size 3 1 (.slice (some ⟨g2, 0, none⟩) L.length cap2) (nums L).length ((nums L).map (Value.int .i64))) := by rw [Hid, nums_length]; exact hown
  have HB0 : Hid (Below w.heap.size w w2) := (below_new w _).grown hgrow (by simp) fun k hk => by cases hk; exact Nat.le_refl _
  clear hown hgrow hat hlt2 HS
  go_wp2_with fail
  go_loopw [5, 6] (fun v i wr => ∃ (j : Nat) (M : List Nat), j ≤ k ∧ i = .int .i64 j ∧ wr.ownsRow w.heap.size 3 1 v (nums M).length ((nums M).map (Value.int .i64)) ∧ Hid (M = L ++ List.replicate j 15) ∧ Hid (Below w.heap.size w wr)) (fun _ i _ => (k - intOf i).toNat)
  case atStart => exact ⟨0, L, by omega, rfl, HO0.out, by simp [Hid], HB0⟩
  case round =>
    obtain ⟨j, M, hj, rfl, hM, HM, HB⟩ := hrel
    have HMl : Hid ((nums M).length = L.length + j) := by show _ = _; rw [nums_length, HM.out, List.length_append, List.length_replicate]
    have hMl : (nums M).length ≤ 50000 := by have := HMl.out; omega
    have hsz : w.heap.size ≤ wr.heap.size := HB.out.size
    by_cases hlt : j < k
    · have HT : Hid (M ++ [15] = L ++ List.replicate (j + 1) 15) := by show _ = _; rw [replicate_one, HM.out, List.append_assoc]
      go_wp2_with (at_builtin; refine wpList_append_lies _ rfl _ _ 33 rfl w.heap.size 3 i0 (.int .i64 0) 1 8 Tryz.underlying33 hi hz0 hz1 hz2 rfl (by decide) _ _ _ rfl (hM.alloc _) ⟨wr.heap.size, 0, none⟩ 1 1 [.int .i64 15] rfl rfl ?c1 ?c2 (by decide) ?c3 ?c4 ?c5 (wr.heap.size + 1) (by simp) ?_)
      case c1 =>
        intro j u hj
        match j, hj with
        | 0, hj => simp at hj; subst hj; simp [Addr.add]
      case c2 => intro u hu; simp at hu; subst hu; rfl
      case c3 => unfold maxLen; omega
      case c4 => omega
      case c5 => simp; omega
      intro g2 cap2 w2 hown hgrow hat hlt2
      have HO : Hid (w2.ownsRow w.heap.size 3 1 (.slice (some ⟨g2, 0, none⟩) ((nums M).length + 1) cap2) (nums (M ++ [15])).length ((nums (M ++ [15])).map (Value.int .i64))) := by
        rw [Hid, nums_append, List.map_append, List.length_append]; exact hown
      have HW2 : Hid (Below w.heap.size w w2) := (HB.out.alloc hsz _).grown hgrow (by simp; omega) fun k hk => (hM.lt k hk).1
      clear hown hgrow hat hlt2 hM hsz
      go_wp2
      go_roundw
      case rel => exact ⟨j + 1, M ++ [15], by omega, by go_num, HO.out, HT, HW2⟩
      case measure => simp [intOf]; omega
    · have hjk : j = k := by omega
      have HT : Hid (M = L ++ List.replicate k 15) := by show _ = _; rw [HM.out, hjk]
      rw [HMl.out, hjk] at hM
      have HO : Hid (wr.ownsRow w.heap.size 3 1 u5 (L.length + k) ((nums M).map (Value.int .i64))) := hM
      have HF : Hid (∃ a c, u5 = .slice a (L.length + k) c) := by
        obtain ⟨_, ⟨e1, h2⟩ | ⟨g, cp, cur, e1, _⟩⟩ := hM
        · exact ⟨none, 0, by rw [e1, h2]⟩
        · exact ⟨_, cp, e1⟩
      have hkd : decide ((j : Int) < (k : Int)) = false := decide_eq_false (by omega)
      clear hM hjk hMl
      go_wp2
      go_ret
      obtain ⟨a, c, e⟩ := HF.out
      refine ⟨a, c, congrArg _ e, ?_, HB.out⟩
      show wr.ownsRow _ _ _ _ _ _
      rw [nums_length, List.length_append, List.length_replicate, ← HT.out, ← e]
      exact HO.out

set_option maxRecDepth 100000 in
set_option maxHeartbeats 4000000 in
theorem quiet_nil (k : Nat) (w : World) (hk : k ≤ 4000) :
    Calls Tryz.prog 32 #[.slice none 0 0, .int .i64 (k : Int)] w fun e w' => ∃ a c, e = .returned (.slice a k c) ∧ Hid (Owns w.heap.size w' (.slice a k c) (nums (List.replicate k 15))) ∧ Below w.heap.size w w' := by
  obtain ⟨i0, hi, hz0, hz1, hz2⟩ := info_parts info3
  have HO0 : Hid ((w.alloc (.cells #[] 3)).ownsRow w.heap.size 3 1 (.slice (some ⟨w.heap.size, 0, none⟩) 0 0) (nums []).length ((nums []).map (Value.int .i64))) := owns_empty w
  have HB0 : Hid (Below w.heap.size w (w.alloc (.cells #[] 3))) := below_new w _
  go_enter Tryz.func32, Tryz.ntmps32
  go_wp2
  go_loopw [5, 6] (fun v i wr => ∃ (j : Nat) (M : List Nat), j ≤ k ∧ i = .int .i64 j ∧ wr.ownsRow w.heap.size 3 1 v (nums M).length ((nums M).map (Value.int .i64)) ∧ Hid (M = [] ++ List.replicate j 15) ∧ Hid (Below w.heap.size w wr)) (fun _ i _ => (k - intOf i).toNat)
  case atStart => exact ⟨0, [], by omega, rfl, HO0.out, by simp [Hid], HB0⟩
  case round =>
    obtain ⟨j, M, hj, rfl, hM, HM, HB⟩ := hrel
    have HMl : Hid ((nums M).length = 0 + j) := by show _ = _; rw [nums_length, HM.out, List.length_append, List.length_replicate]; rfl
    have hMl : (nums M).length ≤ 50000 := by have := HMl.out; omega
    have hsz : w.heap.size ≤ wr.heap.size := HB.out.size
    by_cases hlt : j < k
    · have HT : Hid (M ++ [15] = [] ++ List.replicate (j + 1) 15) := by show _ = _; rw [replicate_one, HM.out, List.append_assoc]
      go_wp2_with (at_builtin; refine wpList_append_lies _ rfl _ _ 33 rfl w.heap.size 3 i0 (.int .i64 0) 1 8 Tryz.underlying33 hi hz0 hz1 hz2 rfl (by decide) _ _ _ rfl (hM.alloc _) ⟨wr.heap.size, 0, none⟩ 1 1 [.int .i64 15] rfl rfl ?c1 ?c2 (by decide) ?c3 ?c4 ?c5 (wr.heap.size + 1) (by simp) ?_)
      case c1 =>
        intro j u hj
        match j, hj with
        | 0, hj => simp at hj; subst hj; simp [Addr.add]
      case c2 => intro u hu; simp at hu; subst hu; rfl
      case c3 => unfold maxLen; omega
      case c4 => omega
      case c5 => simp; omega
      intro g2 cap2 w2 hown hgrow hat hlt2
      have HO : Hid (w2.ownsRow w.heap.size 3 1 (.slice (some ⟨g2, 0, none⟩) ((nums M).length + 1) cap2) (nums (M ++ [15])).length ((nums (M ++ [15])).map (Value.int .i64))) := by
        rw [Hid, nums_append, List.map_append, List.length_append]; exact hown
      have HW2 : Hid (Below w.heap.size w w2) := (HB.out.alloc hsz _).grown hgrow (by simp; omega) fun k hk => (hM.lt k hk).1
      clear hown hgrow hat hlt2 hM hsz
      go_wp2
      go_roundw
      case rel => exact ⟨j + 1, M ++ [15], by omega, by go_num, HO.out, HT, HW2⟩
      case measure => simp [intOf]; omega
    · have hjk : j = k := by omega
      have HT : Hid (M = [] ++ List.replicate k 15) := by show _ = _; rw [HM.out, hjk]
      rw [HMl.out, hjk] at hM
      have HO : Hid (wr.ownsRow w.heap.size 3 1 u5 (0 + k) ((nums M).map (Value.int .i64))) := hM
      have HF : Hid (∃ a c, u5 = .slice a (0 + k) c) := by
        obtain ⟨_, ⟨e1, h2⟩ | ⟨g, cp, cur, e1, _⟩⟩ := hM
        · exact ⟨none, 0, by rw [e1, h2]⟩
        · exact ⟨_, cp, e1⟩
      have hkd : decide ((j : Int) < (k : Int)) = false := decide_eq_false (by omega)
      clear hM hjk hMl
      go_wp2
      go_ret
      obtain ⟨a, c, e⟩ := HF.out
      rw [Nat.zero_add] at e
      refine ⟨a, c, congrArg _ e, ?_, HB.out⟩
      show wr.ownsRow _ _ _ _ _ _
      have e2 : M = List.replicate k 15 := HT.out
      have h3 := HO.out
      rw [Nat.zero_add] at h3
      rw [nums_length, List.length_replicate, ← e2, ← e]
      exact h3
end Go.Proofs.YthhchfldgkgfpaaGreat
