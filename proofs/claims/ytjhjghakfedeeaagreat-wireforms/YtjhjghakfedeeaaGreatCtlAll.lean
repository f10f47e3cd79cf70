/-
  All that a queue holds, as a row; and the controller's Go: each by a contract. Conditions: the controller lies in memory as told.
-/
import Derived.Test.YtjhjghakfedeeaaGreatCtlRunAll
import Derived.Test.YtjhjghakfedeeaaGreatCtlRegs
namespace Go.Proofs.YtjhjghakfedeeaaGreat
open Go.RowKit Plain
set_option linter.unusedVariables false

/-- The row under way: i numbers, then noughts. -/
def partL (L : List Int) (i : Nat) : List Int := L.take i ++ List.replicate (L.length - i) 0
theorem partL_length (L : List Int) (i : Nat) (h : i ≤ L.length) : (partL L i).length = L.length := by simp [partL, Nat.min_eq_left h]; omega
theorem partL_zero (L : List Int) : partL L 0 = List.replicate L.length 0 := by simp [partL]
theorem partL_all (L : List Int) : partL L L.length = L := by simp [partL]
theorem partL_set (L : List Int) (i : Nat) (h : i < L.length) : (partL L i).set i (L.getD i 0) = partL L (i + 1) := by
  unfold partL
  have e1 : (L.take i).length = i := by rw [List.length_take]; omega
  rw [List.set_append_right _ _ (by omega), e1, Nat.sub_self]
  obtain ⟨d, hd⟩ : ∃ d, L.length - i = d + 1 := ⟨L.length - i - 1, by omega⟩
  rw [hd, show L.length - (i + 1) = d by omega, List.replicate_succ, List.set_cons_zero, List.getD_eq_getElem?_getD, List.getElem?_eq_getElem h, ← List.take_append_getElem h, List.append_assoc]
  rfl
theorem drop_cons' (L : List Int) (i : Nat) (h : i < L.length) : L.drop i = L.getD i 0 :: L.drop (i + 1) := by
  rw [List.drop_eq_getElem_cons h, List.getD_eq_getElem?_getD, List.getElem?_eq_getElem h]; rfl
/-- The row in block g, its own. -/
theorem own_blk {w : World} {B g : Nat} {L : List Int} (h : Blk w g 3 (L.map (Value.int .i64))) (hB : B ≤ g) (hl : L.length ≤ 1000) : Owns B w (.slice (some ⟨g, 0, none⟩) L.length L.length) L :=
  ⟨by simp, .inr ⟨g, L.length, (L.map (Value.int .i64)).toArray, rfl, hB, h, Nat.le_refl _, by unfold maxLen; omega, by simp, by rw [List.toList_toArray, Nat.mul_one, List.take_of_length_le (by simp)]⟩⟩
theorem blk_own {w : World} {B g n : Nat} {L : List Int} (h : w.ownsRow B 3 1 (.slice (some ⟨g, 0, none⟩) n n) n (L.map (Value.int .i64))) (hn : L.length = n) : Blk w g 3 (L.map (Value.int .i64)) := by
  rcases h.2 with ⟨h1, _⟩ | ⟨g', cap, cur, hv, hb, hg, h1, h2, h3, h4⟩
  · simp at h1
  · injection hv with q1 q2 q3
    injection q1 with q1
    injection q1 with q1
    subst q1; subst q3
    unfold Blk
    rw [hg]
    have : cur = (L.map (Value.int .i64)).toArray := by
      rw [← h4, List.take_of_length_le (by rw [Array.length_toList, h3]; exact Nat.le_refl _)]
    rw [this]

set_option maxRecDepth 100000 in
set_option maxHeartbeats 2000000 in
theorem all_any (R : List Int) (f : Nat) (L : List Int) (w : World) (H : Holds R f L) :
    Calls Tryz.prog 85 #[.agg (ringCells R f L.length).toArray] w fun e w' => ∃ u, e = .returned u ∧ Owns w.heap.size w' u L ∧ Below w.heap.size w w' := by
  have hb := Blk.new w 139 (ringCells R f L.length) _ rfl
  have HRA : Hid (RingAt (w.alloc (.cells (ringCells R f L.length).toArray 139)) w.heap.size 139 0 [] [] R f L.length) := ⟨H.ring, rfl, by rw [List.append_nil]; exact hb⟩
  have B0 : Hid (Below w.heap.size w (w.alloc (.cells (ringCells R f L.length).toArray 139))) := below_new _ _
  have HH : Hid (Holds R f L) := H
  have HS : Hid ((w.alloc (.cells (ringCells R f L.length).toArray 139)).heap.size = w.heap.size + 1) := by simp [Hid]
  have HF : Hid (L.length ≤ 16) := H.few
  obtain ⟨n, hn⟩ : ∃ n, L.length = n := ⟨_, rfl⟩
  have HN : Hid (L.length = n) := hn
  have hn16 : n ≤ 16 := by rw [← hn]; exact HF.out
  rw [hn] at HRA B0 HS ⊢
  clear H hb hn
  go_enter Tryz.func85, Tryz.ntmps85
  go_upto_region 1 with fail
  generalize hW : (w.alloc (.cells (ringCells R f n).toArray 139)) = W1 at HRA B0 HS ⊢
  obtain ⟨q, hq⟩ : ∃ q, w.heap.size = q := ⟨_, rfl⟩
  have HQ : Hid (w.heap.size = q) := hq
  rw [hq] at HRA
  try rw [hq]
  clear hW hq
  obtain ⟨W2, hmk, hown, hbel⟩ := lmake_ints W1 n (by omega)
  go_wp2_with (go_at_call 82; refine (len_any q 0 139 [] [] R f n _ HRA.out).mono ?_; rintro e w1 ⟨rfl, rfl⟩)
  obtain ⟨g, Hg⟩ : ∃ g, Hid (W1.heap.size = g) := ⟨_, rfl⟩
  rw [Hg.out] at hown hbel
  try rw [Hg.out]
  have HB2 : Hid (Below g W1 W2) := hbel
  have HX2 : Hid (Blk W2 g 3 ((partL L 0).map (Value.int .i64))) := by rw [partL_zero, HN.out]; exact blk_own hown (by simp)
  have HR2 : Hid (∃ R' f', Holds R' f' (L.drop 0) ∧ RingAt W2 q 139 0 [] [] R' f' (L.drop 0).length) := ⟨R, f, HH.out, by rw [List.drop_zero, HN.out]; exact HRA.out.same (hbel.block q (by have := HS.out; have := Hg.out; have := HQ.out; omega))⟩
  have HBW : Hid (Below w.heap.size w W2) := B0.out.trans (hbel.mono (by have := HS.out; have := Hg.out; omega))
  have HNE : Hid (q ≠ g ∧ w.heap.size ≤ q ∧ w.heap.size ≤ g) := by have := HS.out; have := Hg.out; have := HQ.out; unfold Hid; omega
  clear hown hbel hmk HRA B0
  go_wp2_with fail
  go_loopw [9] (fun i wr => ∃ j : Nat, j ≤ n ∧ i = .int .i64 j ∧ Hid (∃ R' f', Holds R' f' (L.drop j) ∧ RingAt wr q 139 0 [] [] R' f' (L.drop j).length) ∧ Hid (Blk wr g 3 ((partL L j).map (Value.int .i64))) ∧ Hid (Below w.heap.size w wr)) (fun i _ => n - (intOf i).toNat)
  case atStart => exact ⟨0, Nat.zero_le _, rfl, HR2.out, HX2.out, HBW.out⟩
  case round =>
    obtain ⟨j, hj, rfl, HR, HX, HB⟩ := hrel
    clear HR2 HX2 HBW
    by_cases hlt : j < n
    · obtain ⟨R', f', h1, h2⟩ := HR.out
      have hjL : j < L.length := by rw [HN.out]; exact hlt
      rw [drop_cons' L j hjL] at h1 h2
      have hP := pop_yes q 0 139 [] [] R' f' (L.getD j 0) (L.drop (j + 1)) wr h2 h1
      have HP : Hid (Calls _ _ _ _ _) := hP
      have HSet : Hid (∀ v : World, Blk v g 3 ((partL L j).map (Value.int .i64)) → Blk (v.setCell ⟨g, j, none⟩ (.int .i64 (L.getD j 0))) g 3 ((partL L (j + 1)).map (Value.int .i64))) := fun v hv => by
        have := hv.set j (.int .i64 (L.getD j 0))
        rw [← partL_set L j hjL, List.map_set]
        exact this
      have hget : ((partL L j).map (Value.int .i64))[j]? = some (.int .i64 ((partL L j).getD j 0)) := by
        rw [List.getElem?_map, List.getD_eq_getElem?_getD, List.getElem?_eq_getElem (by rw [partL_length L j (by omega)]; exact hjL)]; rfl
      have HGet : Hid (((partL L j).map (Value.int .i64))[j]? = some (.int .i64 ((partL L j).getD j 0))) := hget
      obtain ⟨x, hx⟩ : ∃ x, L.getD j 0 = x := ⟨_, rfl⟩
      rw [hx] at HP HSet
      clear h1 h2 hP hget hx hjL HR
      go_wp2_with fail
      refine HP.out.mono ?_
      rintro e w5 ⟨rfl, hr, o5⟩
      have HR5 : Hid (∃ R' f', Holds R' f' (L.drop (j + 1)) ∧ RingAt w5 q 139 0 [] [] R' f' (L.drop (j + 1)).length) := hr
      have hX5 := o5.blk HX.out (by have := HNE.out; omega)
      have HX5 : Hid (Blk w5 g 3 ((partL L j).map (Value.int .i64))) := hX5
      have cj := hX5.cell j HGet.out
      have fj := hX5.frozen j
      have HB5 : Hid (Below w.heap.size w w5) := HB.out.trans (o5.old HNE.out.2.1 HB.out.size)
      have HX6 : Hid (Blk (w5.setCell ⟨g, j, none⟩ (.int .i64 x)) g 3 ((partL L (j + 1)).map (Value.int .i64))) := HSet.out _ HX5.out
      have HR6 : Hid (∃ R' f', Holds R' f' (L.drop (j + 1)) ∧ RingAt (w5.setCell ⟨g, j, none⟩ (.int .i64 x)) q 139 0 [] [] R' f' (L.drop (j + 1)).length) := by
        obtain ⟨R', f', h1, h2⟩ := hr
        exact ⟨R', f', h1, h2.same (Below.heap_setCell _ _ _ _ (by exact HNE.out.1))⟩
      have HB6 : Hid (Below w.heap.size w (w5.setCell ⟨g, j, none⟩ (.int .i64 x))) := HB5.out.setCell (by exact HNE.out.2.2) _
      clear hr o5 hX5 HP HSet HX HB HGet HR5 HX5 HB5
      go_wp2
      go_roundw
      case rel => exact ⟨j + 1, by omega, by go_num, HR6.out, HX6.out, HB6.out⟩
      case measure => simp [intOf]; omega
    · have hjn : j = n := by omega
      subst hjn
      have hO : Owns w.heap.size wr (.slice (some ⟨g, 0, none⟩) j j) L := by
        have h := HX.out
        rw [← HN.out, partL_all] at h
        have h2 := own_blk (B := w.heap.size) h HNE.out.2.2 (by have := HF.out; omega)
        rw [HN.out] at h2
        exact h2
      have HO : Hid (Owns w.heap.size wr (.slice (some ⟨g, 0, none⟩) j j) L) := hO
      clear hO HR HX
      go_wp2
      go_ret
      exact ⟨_, rfl, HO.out, HB.out⟩
end Go.Proofs.YtjhjghakfedeeaaGreat
