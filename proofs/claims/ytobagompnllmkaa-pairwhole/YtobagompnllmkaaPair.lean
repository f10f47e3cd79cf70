/-
  The calls of package pair, and of the document's answer for it, each by one contract for every argument; a text over and over. Conditions: the texts are no longer than any text may be; the number of bytes is at most 4096.
-/
import Derived.Test.YtobagompnllmkaaBits
namespace Go.Proofs.Ytobagompnllmkaa
open Go.RowKit Plain
set_option linter.unusedVariables false

/-- A slot, made of the bytes of s: each of them, and behind them each with its bits turned. -/
def put (s : ByteArray) : ByteArray := tab 64 fun j => if j < 32 then ub s j else ~~~(ub s (j - 32))
def putS (s : ByteArray) : ByteArray := if s.size = 32 then put s else ⟨#[]⟩
def putN (s : ByteArray) : Int := if s.size = 32 then 0 else 200
def getB (t : ByteArray) : Bool := decide (t.size = 64 ∧ put (t.extract 0 32) = t)
def getS (t : ByteArray) : ByteArray := if getB t then t.extract 0 32 else ⟨#[]⟩
def getN (t : ByteArray) : Int := if getB t then 0 else 200
/-- The text over and over, in n bytes. -/
def txt (s : ByteArray) (n : Nat) : ByteArray := tab n fun j => if s.size = 0 then 0 else ub s (j % s.size)

theorem put_step (s : ByteArray) (k j : Nat) (hk : k < 32) (hj : j < 64) :
    (if j = 32 + k then ~~~(ub s k) else if j = k then ub s k else if j < k then ub s j else if 32 ≤ j ∧ j < 32 + k then ~~~(ub s (j - 32)) else 0) =
    if j < k + 1 then ub s j else if 32 ≤ j ∧ j < 32 + (k + 1) then ~~~(ub s (j - 32)) else 0 := by
  by_cases e : j = 32 + k
  · subst e
    rw [if_pos rfl, if_neg (by omega), if_pos (by omega), show 32 + k - 32 = k by omega]
  · rw [if_neg e]
    by_cases e2 : j = k
    · subst e2
      rw [if_pos rfl, if_pos (by omega)]
    · rw [if_neg e2]
      by_cases h : j < k
      · rw [if_pos h, if_pos (by omega)]
      · rw [if_neg h, if_neg (show ¬ j < k + 1 by omega)]
        by_cases h2 : 32 ≤ j ∧ j < 32 + k
        · rw [if_pos h2, if_pos (by omega)]
        · rw [if_neg h2, if_neg (by omega)]

theorem put_no (s : ByteArray) (w : World) (hs : s.size ≤ maxLen) (h : s.size ≠ 32) :
    Calls Try.prog 9 #[.string s] w fun e w' => e = .returned (.tuple #[.string ⟨#[]⟩, .int .i64 200]) ∧ w = w' := by
  unfold maxLen at hs
  go_enter Try.func9, Try.ntmps9
  go_wp2
  go_ret2
  exact ⟨rfl, rfl⟩
theorem refPut_no (s : ByteArray) (w : World) (hs : s.size ≤ maxLen) (h : s.size ≠ 32) :
    Calls Try.prog 10 #[.string s] w fun e w' => e = .returned (.tuple #[.string ⟨#[]⟩, .int .i64 200]) ∧ w = w' := by
  unfold maxLen at hs
  go_enter Try.func10, Try.ntmps10
  go_wp2
  go_ret2
  exact ⟨rfl, rfl⟩

set_option maxRecDepth 100000 in
set_option maxHeartbeats 1000000 in
theorem put_yes (s : ByteArray) (w : World) (h : s.size = 32) :
    Calls Try.prog 9 #[.string s] w fun e w' => ∃ R, e = .returned (.tuple #[.string R, .int .i64 0]) ∧ Hid (R = put s) ∧ Below w.heap.size w w' := by
  have hget := get_ub s
  obtain ⟨W1, hmk, hb0, hbel, hsz⟩ := make_bytes w 64 (by omega)
  have hmk' : (Instr.makeSlice 36 (.int .i64 64) (.int .i64 64)).run Try.prog w = .ok (.slice (some ⟨w.heap.size, 0, none⟩) 64 64) W1 := hmk
  clear hmk
  go_enter Try.func9, Try.ntmps9
  go_wp2
  go_loopw [10] (fun i wr => ∃ k : Nat, k ≤ 32 ∧ i = .int .i64 k ∧ Bytes wr w.heap.size 64 (fun j => if j < k then ub s j else if 32 ≤ j ∧ j < 32 + k then ~~~(ub s (j - 32)) else 0) ∧ Below w.heap.size w wr) (fun i _ => 32 - (intOf i).toNat)
  case atStart => exact ⟨0, Nat.zero_le _, rfl, hb0.congr (fun j hj => by rw [if_neg (by omega), if_neg (by omega)]), hbel⟩
  case round =>
    obtain ⟨k, hk, rfl, hb, hbl⟩ := hrel
    clear hmk' hb0 hbel
    by_cases hlt : k < 32
    · have hc := (hb k (by omega)).1
      have hf := (hb k (by omega)).2
      have hb2 := hb.set k (by omega) (ub s k)
      have hc2 := (hb2 (32 + k) (by omega)).1
      have hf2 := (hb2 (32 + k) (by omega)).2
      have HB : Hid (Bytes _ w.heap.size 64 _) := hb2
      have HL : Hid (Below w.heap.size w wr) := hbl
      clear hb hb2 hbl
      go_wp2
      go_roundw
      case rel => exact ⟨k + 1, by omega, by go_num, (HB.out.set_is (32 + k) (by omega) (not_u8 (ub s k))).congr (fun j hj => put_step s k j hlt hj), (HL.out.setCell (Nat.le_refl _) _).setCell (Nat.le_refl _) _⟩
      case measure => simp [intOf]; omega
    · obtain ⟨R, hbk, HR⟩ := hb.back_is (f' := fun j => if j < 32 then ub s j else ~~~(ub s (j - 32))) (fun j hj => by rw [show k = 32 by omega]; by_cases e : j < 32; (rw [if_pos e, if_pos e]); (rw [if_neg e, if_neg e, if_pos (by omega)])) 64
      clear hb
      go_wp2
      go_ret2
      exact ⟨R, rfl, HR.out, hbl⟩

theorem not_step (s : ByteArray) (k j : Nat) : (if j = k then ~~~(ub s k) else if j < k then ~~~(ub s j) else ub s j) = if j < k + 1 then ~~~(ub s j) else ub s j := by
  by_cases e : j = k
  · subst e
    rw [if_pos rfl, if_pos (by omega)]
  · rw [if_neg e]
    by_cases h : j < k
    · rw [if_pos h, if_pos (by omega)]
    · rw [if_neg h, if_neg (by omega)]
theorem put_append (s R : ByteArray) (h : s.size = 32) (hR : R = tab 32 fun j => ~~~(ub s j)) : s ++ R = put s := by
  have sR : R.size = 32 := by rw [hR]; exact tab_size _ _
  refine ext_ub (by rw [ByteArray.size_append, h, sR]; exact (tab_size _ _).symm) fun j hj => ?_
  rw [ByteArray.size_append, h, sR] at hj
  unfold put
  rw [ub_tab _ _ _ hj]
  by_cases e : j < 32
  · rw [if_pos e, ub_of _ _ (by rw [ByteArray.size_append]; omega), ub_of _ _ (by omega)]
    exact ByteArray.getElem_append_left (by omega)
  · rw [if_neg e, ub_of _ _ (by rw [ByteArray.size_append]; omega), ByteArray.getElem_append_right (by omega)]
    rw [← ub_of R (j - s.size) (by omega), hR, ub_tab _ _ _ (by omega), h]

set_option maxRecDepth 100000 in
set_option maxHeartbeats 1000000 in
theorem refPut_yes (s : ByteArray) (w : World) (h : s.size = 32) :
    Calls Try.prog 10 #[.string s] w fun e w' => ∃ R, e = .returned (.tuple #[.string R, .int .i64 0]) ∧ Hid (R = put s) ∧ Below w.heap.size w w' := by
  obtain ⟨W1, cap, hcv, hcap, hby, hbel, hsz⟩ := to_bytes_of w s 32 h
  go_enter Try.func10, Try.ntmps10
  go_wp2
  go_loopw [5] (fun i wr => ∃ k : Nat, k ≤ 32 ∧ i = .int .i64 k ∧ Bytes wr w.heap.size 32 (fun j => if j < k then ~~~(ub s j) else ub s j) ∧ Below w.heap.size w wr) (fun i _ => 32 - (intOf i).toNat)
  case atStart => exact ⟨0, Nat.zero_le _, rfl, hby.congr (fun j hj => by rw [if_neg (by omega)]), hbel⟩
  case round =>
    obtain ⟨k, hk, rfl, hb, hbl⟩ := hrel
    clear hcv hby hbel
    by_cases hlt : k < 32
    · have hc := hb.cell_is k hlt (if_neg (by omega))
      have hf := (hb k hlt).2
      have HB : Hid (Bytes wr w.heap.size 32 _) := hb
      have HL : Hid (Below w.heap.size w wr) := hbl
      clear hb hbl
      go_wp2
      go_roundw
      case rel => exact ⟨k + 1, by omega, by go_num, (HB.out.set_is k (by omega) (not_u8 (ub s k))).congr (fun j hj => not_step s k j), HL.out.setCell (Nat.le_refl _) _⟩
      case measure => simp [intOf]; omega
    · obtain ⟨R, hbk, HR⟩ := hb.back_is (f' := fun j => ~~~(ub s j)) (fun j hj => by rw [if_pos (by omega)]) cap
      clear hb
      have sR : R.size = 32 := by rw [HR.out]; exact tab_size _ _
      go_wp2
      go_ret2
      exact ⟨_, rfl, put_append s R h HR.out, hbl⟩

theorem put_any (s : ByteArray) (w : World) (hs : s.size ≤ maxLen) :
    Calls Try.prog 9 #[.string s] w (Answers w (putS s) (putN s)) := by
  by_cases h : s.size = 32
  · exact (put_yes s w h).mono fun e w' ⟨R, he, hR, hb⟩ => ⟨R, _, he, by unfold putS; rw [if_pos h]; exact hR, by unfold putN; rw [if_pos h]; rfl, hb⟩
  · exact (put_no s w hs h).mono fun e w' ⟨he, hw⟩ => ⟨_, _, he, by unfold putS; rw [if_neg h]; rfl, by unfold putN; rw [if_neg h]; rfl, hw ▸ Below.refl _ _⟩
theorem refPut_any (s : ByteArray) (w : World) (hs : s.size ≤ maxLen) :
    Calls Try.prog 10 #[.string s] w (Answers w (putS s) (putN s)) := by
  by_cases h : s.size = 32
  · exact (refPut_yes s w h).mono fun e w' ⟨R, he, hR, hb⟩ => ⟨R, _, he, by unfold putS; rw [if_pos h]; exact hR, by unfold putN; rw [if_pos h]; rfl, hb⟩
  · exact (refPut_no s w hs h).mono fun e w' ⟨he, hw⟩ => ⟨_, _, he, by unfold putS; rw [if_neg h]; rfl, by unfold putN; rw [if_neg h]; rfl, hw ▸ Below.refl _ _⟩

theorem getB_true {t : ByteArray} : getB t = true ↔ t.size = 64 ∧ put (t.extract 0 32) = t := by simp [getB]
theorem half_size {t : ByteArray} (h : t.size = 64) : (t.extract 0 32).size = 32 := by rw [ByteArray.size_extract]; omega

set_option maxHeartbeats 400000 in
theorem get_any (t : ByteArray) (w : World) (ht : t.size ≤ maxLen) :
    Calls Try.prog 11 #[.string t] w (Answers w (getS t) (getN t)) := by
  unfold maxLen at ht
  by_cases h : t.size = 64
  · by_cases h2 : put (t.extract 0 32) = t
    · have hb : getB t = true := getB_true.2 ⟨h, h2⟩
      go_enter Try.func11, Try.ntmps11
      go_wp2_with fail
      refine (put_yes _ _ (half_size h)).mono ?_
      rintro e w1 ⟨R, rfl, HR, b1⟩
      obtain rfl : t = R := (HR.out.trans h2).symm
      clear h2 HR
      go_wp2_with fail
      go_ret2
      exact ⟨_, _, rfl, by unfold getS; rw [hb]; rfl, by unfold getN; rw [hb]; rfl, b1⟩
    · have hb : getB t = false := by rw [Bool.eq_false_iff]; exact fun h' => h2 (getB_true.1 h').2
      go_enter Try.func11, Try.ntmps11
      go_wp2_with fail
      refine (put_yes _ _ (half_size h)).mono ?_
      rintro e w1 ⟨R, rfl, HR, b1⟩
      have hne : (R.toList == t.toList) = false := by rw [eq_iff]; exact decide_eq_false fun e => h2 (HR.out.symm.trans e)
      clear h2 HR
      go_wp2_with fail
      go_ret2
      exact ⟨_, _, rfl, by unfold getS; rw [hb]; rfl, by unfold getN; rw [hb]; rfl, b1⟩
  · have hb : getB t = false := by rw [Bool.eq_false_iff]; exact fun h' => h (getB_true.1 h').1
    go_enter Try.func11, Try.ntmps11
    go_wp2
    go_ret2
    exact ⟨_, _, rfl, by unfold getS; rw [hb]; rfl, by unfold getN; rw [hb]; rfl, Below.refl _ _⟩
set_option maxHeartbeats 400000 in
theorem refGet_any (t : ByteArray) (w : World) (ht : t.size ≤ maxLen) :
    Calls Try.prog 12 #[.string t] w (Answers w (getS t) (getN t)) := by
  unfold maxLen at ht
  by_cases h : t.size = 64
  · by_cases h2 : put (t.extract 0 32) = t
    · have hb : getB t = true := getB_true.2 ⟨h, h2⟩
      go_enter Try.func12, Try.ntmps12
      go_wp2_with fail
      refine (refPut_yes _ _ (half_size h)).mono ?_
      rintro e w1 ⟨R, rfl, HR, b1⟩
      obtain rfl : t = R := (HR.out.trans h2).symm
      clear h2 HR
      go_wp2_with fail
      go_ret2
      exact ⟨_, _, rfl, by unfold getS; rw [hb]; rfl, by unfold getN; rw [hb]; rfl, b1⟩
    · have hb : getB t = false := by rw [Bool.eq_false_iff]; exact fun h' => h2 (getB_true.1 h').2
      go_enter Try.func12, Try.ntmps12
      go_wp2_with fail
      refine (refPut_yes _ _ (half_size h)).mono ?_
      rintro e w1 ⟨R, rfl, HR, b1⟩
      have hne : (R.toList == t.toList) = false := by rw [eq_iff]; exact decide_eq_false fun e => h2 (HR.out.symm.trans e)
      clear h2 HR
      go_wp2_with fail
      go_ret2
      exact ⟨_, _, rfl, by unfold getS; rw [hb]; rfl, by unfold getN; rw [hb]; rfl, b1⟩
  · have hb : getB t = false := by rw [Bool.eq_false_iff]; exact fun h' => h (getB_true.1 h').1
    go_enter Try.func12, Try.ntmps12
    go_wp2
    go_ret2
    exact ⟨_, _, rfl, by unfold getS; rw [hb]; rfl, by unfold getN; rw [hb]; rfl, Below.refl _ _⟩

theorem txt_step (s : ByteArray) (k j : Nat) : (if j = k then ub s (k % s.size) else if j < k then ub s (j % s.size) else 0) = if j < k + 1 then ub s (j % s.size) else 0 := by
  by_cases h : j < k
  · rw [if_pos h, if_pos (show j < k + 1 by omega), if_neg (by omega)]
  · by_cases e : j = k
    · rw [if_pos e, if_pos (by omega), e]
    · rw [if_neg e, if_neg h, if_neg (by omega)]

set_option maxRecDepth 100000 in
set_option maxHeartbeats 400000 in
theorem text_any (s : ByteArray) (n : Nat) (w : World) (hs : s.size ≤ maxLen) (hn : n ≤ 4096) :
    Calls Try.prog 15 #[.string s, .int .i64 (n : Int)] w fun e w' => ∃ R, e = .returned (.string R) ∧ Hid (R = txt s n) ∧ Below w.heap.size w w' := by
  unfold maxLen at hs
  have hget := get_ub s
  obtain ⟨W1, hmk, hb0, hbel, hsz⟩ := make_bytes w n (by omega)
  go_enter Try.func15, Try.ntmps15
  go_wp2
  go_loopw [6] (fun i wr => ∃ k : Nat, k ≤ n ∧ i = .int .i64 k ∧ (0 < k → 0 < s.size) ∧ Bytes wr w.heap.size n (fun j => if j < k then ub s (j % s.size) else 0) ∧ Below w.heap.size w wr) (fun i _ => n - (intOf i).toNat)
  case atStart => exact ⟨0, Nat.zero_le _, rfl, fun h => absurd h (by omega), hb0.congr (fun j hj => by rw [if_neg (by omega)]), hbel⟩
  case round =>
    obtain ⟨k, hk, rfl, hpos, hbb, hbl⟩ := hrel
    clear hmk hb0 hbel
    by_cases hlt : k < n ∧ 0 < s.size
    · obtain ⟨hlt, hp⟩ := hlt
      have hc := (hbb k hlt).1
      have hf := (hbb k hlt).2
      have hlm : k % s.size < s.size := Nat.mod_lt _ hp
      go_wp2
      go_roundw
      case rel => exact ⟨k + 1, by omega, by go_num, fun _ => hp, (hbb.set k hlt _).congr (fun j _ => txt_step s k j), hbl.setCell (Nat.le_refl _) _⟩
      case measure => simp [intOf]; omega
    · have hend : ∀ j, j < n → (if j < k then ub s (j % s.size) else 0) = (if s.size = 0 then 0 else ub s (j % s.size)) := fun j hj => by
        by_cases h0 : s.size = 0
        · rw [if_pos h0, if_neg (by omega)]
        · rw [if_neg h0, if_pos (by omega)]
      obtain ⟨R, hbk, HR⟩ := hbb.back_is hend n
      clear hend hbb
      by_cases h4 : k < n
      · have h0 : s.size = 0 := by omega
        go_wp2
        go_ret
        exact ⟨R, rfl, HR, hbl⟩
      · go_wp2
        go_ret
        exact ⟨R, rfl, HR, hbl⟩
end Go.Proofs.Ytobagompnllmkaa
