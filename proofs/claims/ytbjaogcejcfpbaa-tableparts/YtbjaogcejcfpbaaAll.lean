/-
  All the commands' bytes, as the program and the document tell them: in new memory, by one contract each. No conditions.
-/
import Derived.Test.YtbjaogcejcfpbaaOf
import Derived.Deep.AppendLies
namespace Go.Proofs.Ytbjaogcejcfpbaa
open Go.RowKit
set_option linter.unusedVariables false

/-- The commands below k. -/
def opsTo (k : Nat) : List Int := ((List.range k).filter fun j : Nat => isOp (j : Int)).map fun j : Nat => (j : Int)
theorem opsTo_succ (k : Nat) : opsTo (k + 1) = opsTo k ++ (if isOp (k : Int) = true then [(k : Int)] else []) := by
  unfold opsTo
  rw [List.range_succ, List.filter_append, List.map_append]
  by_cases h : isOp (k : Int) = true <;> simp [h]
theorem opsTo_yes {k : Nat} (h : isOp (k : Int) = true) : opsTo (k + 1) = opsTo k ++ [(k : Int)] := by rw [opsTo_succ, if_pos h]
theorem opsTo_no {k : Nat} (h : isOp (k : Int) = false) : opsTo (k + 1) = opsTo k := by rw [opsTo_succ, if_neg (by rw [h]; decide), List.append_nil]
theorem opsTo_all : opsTo 256 = opL := by decide +kernel
theorem opsTo_length (k : Nat) : (opsTo k).length ≤ k := by
  unfold opsTo
  rw [List.length_map]
  exact Nat.le_trans (List.length_filter_le _ _) (by simp)

set_option maxRecDepth 100000 in
set_option maxHeartbeats 2000000 in
theorem all_any (w : World) :
    Calls Try.prog 17 #[] w fun e w' => ∃ g cap, e = .returned (.slice (some ⟨g, 0, none⟩) 14 cap) ∧ Owns w.heap.size w' (.slice (some ⟨g, 0, none⟩) 14 cap) opL ∧ Below w.heap.size w w' := by
  obtain ⟨i0, hi, hz0, hz1, hz2⟩ := info_parts info3
  go_enter Try.func17, Try.ntmps17
  go_wp2
  go_loopw [1, 5] (fun v i wr => ∃ (k : Nat) (M : List Int), k ≤ 256 ∧ i = .int .i64 k ∧ wr.ownsRow w.heap.size 3 1 v M.length (M.map (Value.int .i64)) ∧ Hid (M = opsTo k) ∧ Hid (Below w.heap.size w wr)) (fun _ i _ => (256 - intOf i).toNat)
  case atStart => exact ⟨0, [], by omega, rfl, World.ownsRow_nil _ _ _ _, by simp [Hid, opsTo], Below.refl _ _⟩
  case round =>
    obtain ⟨k, M, hk, rfl, hM, HM, HB⟩ := hrel
    by_cases hlt : k < 256
    · have hlen : M.length ≤ 256 := by rw [HM.out]; exact Nat.le_trans (opsTo_length k) hk
      have HO : Hid (Owns w.heap.size wr _ M) := hM
      clear hM
      by_cases hop : isOp (k : Int) = true
      · go_wp2_with fail
        refine (of_yes (k : Int) _ hop).mono ?_
        rintro e w1 ⟨rfl, b1⟩
        have HT : Hid (M ++ [(k : Int)] = opsTo (k + 1)) := by rw [Hid, HM.out, opsTo_yes hop]
        obtain ⟨xA, hA⟩ : ∃ x, opA (k : Int) = x := ⟨_, rfl⟩
        obtain ⟨xM, hM⟩ : ∃ x, opM (k : Int) = x := ⟨_, rfl⟩
        obtain ⟨xD, hD⟩ : ∃ x, opD (k : Int) = x := ⟨_, rfl⟩
        obtain ⟨xN, hN⟩ : ∃ x, opN (k : Int) = x := ⟨_, rfl⟩
        obtain ⟨xI, hI⟩ : ∃ x, opI (k : Int) = x := ⟨_, rfl⟩
        rw [hA, hM, hD, hN, hI]
        clear hA hM hD hN hI hop HM
        have hsz : w.heap.size ≤ w1.heap.size := Nat.le_trans HB.out.size b1.size
        have hM : w1.ownsRow w.heap.size 3 1 u1 M.length (M.map (Value.int .i64)) := HO.out.below b1 (Nat.le_refl _)
        have HW : Hid (Below w.heap.size w w1) := below_then HB.out b1
        clear HO HB b1
        go_wp2_with (at_builtin; refine wpList_append_lies _ rfl _ _ 24 rfl w.heap.size 3 i0 (.int .i64 0) 1 8 Try.underlying24 hi hz0 hz1 hz2 rfl (by decide) _ _ _ rfl ((hM.alloc _).alloc _) ⟨w1.heap.size + 1, 0, none⟩ 1 1 [.int .i64 (k : Int)] rfl rfl ?c1 ?c2 (by decide) ?c3 ?c4 ?c5 (w1.heap.size + 2) (by simp) ?_)
        case c1 =>
          intro j u hj
          match j, hj with
          | 0, hj => simp at hj; subst hj; simp [Addr.add]
        case c2 => intro u hu; simp at hu; subst hu; rfl
        case c3 => unfold maxLen; omega
        case c4 => omega
        case c5 => simp; omega
        intro g cap w2 hown hgrow hat hlt2
        have HO : Hid (w2.ownsRow w.heap.size 3 1 (.slice (some ⟨g, 0, none⟩) (M.length + 1) cap) (M ++ [(k : Int)]).length ((M ++ [(k : Int)]).map (Value.int .i64))) := by
          rw [Hid, List.map_append, List.length_append]; exact hown
        have HW2 : Hid (Below w.heap.size w w2) := ((HW.out.alloc hsz _).alloc (by simp; omega) _).grown hgrow (by simp; omega) fun k hk => (hM.lt k hk).1
        clear hown hgrow hat hlt2 hM HW hsz
        go_wp2
        go_roundw
        case rel => exact ⟨k + 1, M ++ [(k : Int)], by omega, by go_num, HO.out, HT, HW2⟩
        case measure => simp [intOf]; omega
      · have hno : isOp (k : Int) = false := by simpa using hop
        go_wp2_with fail
        refine (of_no (k : Int) _ hno).mono ?_
        rintro e w1 ⟨rfl, b1⟩
        have HT : Hid (M = opsTo (k + 1)) := by rw [Hid, HM.out, opsTo_no hno]
        have HO : Hid (w1.ownsRow w.heap.size 3 1 u1 M.length (M.map (Value.int .i64))) := HO.out.below b1 (Nat.le_refl _)
        have HS : Hid (w.heap.size ≤ w1.heap.size) := Nat.le_trans HB.out.size b1.size
        have HW : Hid (Below w.heap.size w w1) := below_then HB.out b1
        clear hop hno HM HB b1
        go_wp2
        go_roundw
        case rel => exact ⟨k + 1, M, by omega, by go_num, HO.out.alloc _, HT, HW.out.alloc HS.out _⟩
        case measure => simp [intOf]; omega
    · have HL : Hid (M = opL) := by rw [Hid, HM.out, show k = 256 by omega, opsTo_all]
      have hl14 : M.length = 14 := by rw [HL.out]; rfl
      rw [hl14] at hM
      obtain ⟨g, cap, rfl, -, -⟩ := hM.form (by omega)
      have HO : Hid (wr.ownsRow w.heap.size 3 1 (.slice (some ⟨g, 0, none⟩) 14 cap) 14 (M.map (Value.int .i64))) := hM
      clear hM HM hl14
      go_wp2
      go_ret
      exact ⟨g, cap, rfl, by rw [Owns, ← HL.out, show M.length = 14 from by rw [HL.out]; rfl]; exact HO.out, HB.out⟩
end Go.Proofs.Ytbjaogcejcfpbaa
