/-
  The seat's first check (awake) answers true, in every world; plain facts on slots. No conditions but those of each statement.
-/
import Derived.Test.YtobagompnllmkaaPair
namespace Go.Proofs.Ytobagompnllmkaa
open Go.RowKit Plain
set_option linter.unusedVariables false

theorem put_size (s : ByteArray) : (put s).size = 64 := tab_size _ _
theorem txt_size (s : ByteArray) (n : Nat) : (txt s n).size = n := tab_size _ _
theorem put_low (s : ByteArray) {j : Nat} (h : j < 32) : ub (put s) j = ub s j := by unfold put; rw [ub_tab _ _ _ (by omega), if_pos h]
theorem put_high (s : ByteArray) {j : Nat} (h : j < 32) : ub (put s) (32 + j) = ~~~(ub s j) := by unfold put; rw [ub_tab _ _ _ (by omega), if_neg (by omega), show 32 + j - 32 = j by omega]
theorem put_half {s : ByteArray} (h : s.size = 32) : (put s).extract 0 32 = s := by
  refine ext_ub (by rw [ByteArray.size_extract, put_size, h]; rfl) fun j hj => ?_
  rw [ByteArray.size_extract, put_size] at hj
  rw [ub_extract _ _ _ _ (by omega) (by rw [put_size]; omega), Nat.zero_add, put_low s (by omega)]
theorem getB_put {s : ByteArray} (h : s.size = 32) : getB (put s) = true := getB_true.2 ⟨put_size s, by rw [put_half h]⟩
theorem getS_put {s : ByteArray} (h : s.size = 32) : getS (put s) = s := by unfold getS; rw [getB_put h, if_pos rfl, put_half h]
theorem getN_put {s : ByteArray} (h : s.size = 32) : getN (put s) = 0 := by unfold getN; rw [getB_put h]; rfl
theorem getN_size {t : ByteArray} (h : t.size ≠ 64) : getN t = 200 := by
  unfold getN
  rw [if_neg fun h' => h (getB_true.1 h').1]
theorem putS_yes {s : ByteArray} (h : s.size = 32) : putS s = put s := if_pos h
theorem putN_yes {s : ByteArray} (h : s.size = 32) : putN s = 0 := if_pos h
theorem putN_no {s : ByteArray} (h : s.size ≠ 32) : putN s = 200 := if_neg h

theorem abz_ub {S : ByteArray} (h : S = txt ⟨#[97, 98, 0]⟩ 32) : ub S 0 = 97 ∧ ub S 1 = 98 ∧ ub S 2 = 0 := by
  subst h
  unfold txt
  refine ⟨?_, ?_, ?_⟩ <;> rw [ub_tab _ _ _ (by omega), if_neg (by decide)] <;> rfl
theorem three_is {t : ByteArray} {lo : Nat} {a b c : UInt8} (h : lo + 3 ≤ t.size) (h0 : ub t lo = a) (h1 : ub t (lo + 1) = b) (h2 : ub t (lo + 2) = c) : t.extract lo (lo + 3) = ⟨#[a, b, c]⟩ := by
  refine ext_ub (by rw [ByteArray.size_extract]; show _ = 3; omega) fun j hj => ?_
  rw [ByteArray.size_extract] at hj
  rw [ub_extract _ _ _ _ (by omega) (by omega)]
  rcases (show j = 0 ∨ j = 1 ∨ j = 2 by omega) with rfl | rfl | rfl
  · exact h0
  · exact h1
  · exact h2
theorem awake_facts2 {S T : ByteArray} (hS : S = txt ⟨#[97, 98, 0]⟩ 32) (hT : T = put S) : T.size = 64 ∧ T.extract 0 3 = ⟨#[97, 98, 0]⟩ ∧ T.extract 32 35 = ⟨#[158, 157, 255]⟩ := by
  obtain ⟨h0, h1, h2⟩ := abz_ub hS
  have sT : T.size = 64 := by rw [hT]; exact put_size S
  refine ⟨sT, three_is (lo := 0) (by omega) ?_ ?_ ?_, three_is (lo := 32) (by omega) ?_ ?_ ?_⟩
  · rw [hT, put_low S (by omega), h0]
  · rw [hT, put_low S (by omega), h1]
  · rw [hT, put_low S (by omega), h2]
  · rw [hT, show 32 = 32 + 0 from rfl, put_high S (by omega), h0]; rfl
  · rw [hT, put_high S (by omega), h1]; rfl
  · rw [hT, put_high S (by omega), h2]; rfl

/-- A call that answers a text and no error. -/
theorem put_gives (s : ByteArray) (w : World) (h : s.size = 32) :
    Calls Try.prog 9 #[.string s] w fun e w' => ∃ R, e = .returned (.tuple #[.string R, .int .i64 0]) ∧ Hid (R = put s) ∧ Hid (R.size = 64) ∧ Below w.heap.size w w' :=
  (put_yes s w h).mono fun e w' ⟨R, he, hR, hb⟩ => ⟨R, he, hR, by rw [Hid, hR.out]; exact put_size s, hb⟩
theorem get_gives (s t : ByteArray) (w : World) (h : s.size = 32) (ht : t = put s) :
    Calls Try.prog 11 #[.string t] w fun e w' => e = .returned (.tuple #[.string s, .int .i64 0]) ∧ Below w.heap.size w w' := by
  subst ht
  exact (get_any _ w (by rw [put_size]; unfold maxLen; omega)).mono fun e w' ⟨R, n, he, hR, hn, hb⟩ => by
    have h1 : R = s := hR.out.trans (getS_put h)
    have h2 : n = 0 := hn.out.trans (getN_put h)
    subst h1 h2
    exact ⟨he, hb⟩
theorem text_gives (s : ByteArray) (n : Nat) (w : World) (hs : s.size ≤ maxLen) (hn : n ≤ 4096) :
    Calls Try.prog 15 #[.string s, .int .i64 (n : Int)] w fun e w' => ∃ R, e = .returned (.string R) ∧ Hid (R = txt s n) ∧ Hid (R.size = n) ∧ Below w.heap.size w w' :=
  (text_any s n w hs hn).mono fun e w' ⟨R, he, hR, hb⟩ => ⟨R, he, hR, by rw [Hid, hR.out]; exact txt_size s n, hb⟩
theorem abz_ok : (⟨#[97, 98, 0]⟩ : ByteArray).size ≤ maxLen := by unfold maxLen; decide

set_option maxRecDepth 100000 in
set_option maxHeartbeats 1000000 in
theorem awake_any (w : World) :
    Calls Try.prog 14 #[] w fun e w' => e = .returned (.bool true) ∧ Below w.heap.size w w' := by
  go_enter Try.func14, Try.ntmps14
  go_wp2_with fail
  refine (text_gives _ 32 _ abz_ok (by omega)).mono ?_
  rintro e w1 ⟨S, rfl, HS, HS1, b1⟩
  go_wp2_with fail
  refine (put_gives _ _ HS1.out).mono ?_
  rintro e w2 ⟨T, rfl, HT, HT1, b2⟩
  go_wp2_with fail
  refine (get_gives S T _ HS1.out HT.out).mono ?_
  rintro e w3 ⟨rfl, b3⟩
  obtain ⟨sT, t0, t1⟩ := awake_facts2 HS.out HT.out
  clear HS HT
  go_wp2_with fail
  refine (get_any _ _ (by rw [ByteArray.size_extract]; unfold maxLen; omega)).mono ?_
  rintro e w4 ⟨U, n1, rfl, HU, N1, b4⟩
  obtain rfl : n1 = 200 := N1.out.trans (getN_size (by rw [ByteArray.size_extract]; omega))
  go_wp2_with fail
  refine (put_any _ _ (one_ok _)).mono ?_
  rintro e w5 ⟨V, n2, rfl, HV, N2, b5⟩
  obtain rfl : n2 = 200 := N2.out.trans (putN_no (by rw [one_size]; omega))
  have bel : Hid (Below w.heap.size w w5) := below_then (below_then (below_then (below_then b1 b2) b3) b4) b5
  clear HU HV N1 N2 b1 b2 b3 b4 b5 HS1 HT1
  go_wp2_with (go_at_call 13; refine (num_any _ _).mono ?_; rintro e w' ⟨rfl, rfl⟩)
  go_ret
  exact ⟨rfl, bel.out⟩
end Go.Proofs.Ytobagompnllmkaa
