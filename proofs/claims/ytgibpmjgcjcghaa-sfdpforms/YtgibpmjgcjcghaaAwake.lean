/-
  What the document's own Get tells of any text, and what every program answers that is one. No conditions but those of each statement.
-/
import Derived.Test.YtgibpmjgcjcghaaSays
import Derived.BigQuiet
import Derived.Deep.QuietTactic
namespace Go.Proofs.Ytgibpmjgcjcghaa
open Go.RowKit Plain
set_option linter.unusedVariables false

theorem get_of (s : ByteArray) (w : World) (a b c : Nat) (f : Int) (hs : s.size ≤ maxLen) (h : GetIs s a b c f) :
    Calls Try.prog 9 #[.string s] w fun e w' => e = .returned (.tuple #[.int .i64 (a : Int), .int .i64 (b : Int), .int .i64 (c : Int), .int .i64 f]) ∧ Below w.heap.size w w' :=
  (get_says s w hs).mono fun e w' ⟨x, y, z, g, h1, h2, h3⟩ => by
    obtain ⟨rfl, rfl, rfl, rfl⟩ := h.one h2.out
    exact ⟨h1, h3⟩
theorem put_of (a b c : Nat) (w : World) (ha : mayB (a : Int) = true) (hb : mayB (b : Int) = true) (hc : mayB (c : Int) = true) :
    Calls Try.prog 7 #[.int .i64 (a : Int), .int .i64 (b : Int), .int .i64 (c : Int)] w fun e w' => ∃ T, e = .returned (.tuple #[.string T, .int .i64 0]) ∧ Hid (T = putT a b c) ∧ Below w.heap.size w w' := by
  obtain ⟨h1, h2⟩ := putX_yes a b c ha hb hc
  have := put_says (a : Int) (b : Int) (c : Int) w
  rw [h1, h2] at this
  exact this
theorem put_none (a b c : Int) (w : World) (h : mays a b c = false) :
    Calls Try.prog 7 #[.int .i64 a, .int .i64 b, .int .i64 c] w fun e w' => e = .returned (.tuple #[.string ⟨#[]⟩, .int .i64 700]) ∧ Below w.heap.size w w' := by
  obtain ⟨h1, h2⟩ := putX_no h
  refine (put_says a b c w).mono fun e w' ⟨T, h3, h4, h5⟩ => ?_
  have h4 := h4.out
  rw [h1] at h4
  rw [h2] at h3
  subst h4
  exact ⟨h3, h5⟩
theorem getIs_put (a b c : Nat) (ha : mayB (a : Int) = true) (hb : mayB (b : Int) = true) (hc : mayB (c : Int) = true) : GetIs (putT a b c) a b c 0 := Or.inl ⟨rfl, ha, hb, hc, rfl⟩
theorem getIs_size {s : ByteArray} (h : s.size ≠ 32) : GetIs s 0 0 0 700 := Or.inr ⟨rfl, rfl, rfl, rfl, fun x y z _ _ _ e => h (by rw [e, put_size])⟩

theorem mid (p q r : ByteArray) (n m : Nat) (hp : p.size = n) (hq : n + q.size = m) : (p ++ (q ++ r)).extract n m = q := by
  have hs : (p ++ (q ++ r)).size = p.size + (q.size + r.size) := by rw [ByteArray.size_append, ByteArray.size_append]
  refine ext_ub (by rw [ByteArray.size_extract]; omega) fun i hi => ?_
  rw [ByteArray.size_extract] at hi
  rw [ub_extract _ _ _ _ (by omega) (by omega), ub_append, if_neg (by omega), ub_append, if_pos (by omega)]
  congr 1; omega
theorem parts {s : ByteArray} {x y z : Nat} (hx : x < 4294967296) (hy : y < 4294967296) (hz : z < 4294967296) (h : s = putT x y z) : numOf (s.extract 8 12) = x ∧ numOf (s.extract 12 16) = y ∧ numOf (s.extract 16 20) = z := by
  rw [putT_parts] at h
  refine ⟨?_, ?_, ?_⟩
  · rw [h, mid headT (fourT x) _ 8 12 rfl (by rw [four_size]), numOf_four x hx]
  · rw [h, ← ByteArray.append_assoc, mid (headT ++ fourT x) (fourT y) _ 12 16 (by rw [ByteArray.size_append, four_size]; rfl) (by rw [four_size]), numOf_four y hy]
  · rw [h, ← ByteArray.append_assoc, ← ByteArray.append_assoc, mid (headT ++ fourT x ++ fourT y) (fourT z) _ 16 20 (by rw [ByteArray.size_append, ByteArray.size_append, four_size, four_size]; rfl) (by rw [four_size]), numOf_four z hz]
theorem getIs_not {s : ByteArray} {a b c : Nat} (ha : numOf (s.extract 8 12) = a) (hb : numOf (s.extract 12 16) = b) (hc : numOf (s.extract 16 20) = c) (h : mays a b c = false ∨ putX a b c ≠ s) : GetIs s 0 0 0 700 := by
  refine Or.inr ⟨rfl, rfl, rfl, rfl, fun x y z hx hy hz e => ?_⟩
  obtain ⟨h1, h2, h3⟩ := parts (may_lt hx) (may_lt hy) (may_lt hz) e
  obtain rfl : x = a := h1.symm.trans ha
  obtain rfl : y = b := h2.symm.trans hb
  obtain rfl : z = c := h3.symm.trans hc
  rcases h with h | h
  · unfold mays at h; rw [hx, hy, hz] at h; cases h
  · exact h (by rw [(putX_yes x y z hx hy hz).1, e])
set_option maxHeartbeats 1000000 in
theorem refGet_says (s : ByteArray) (w : World) :
    Calls Try.prog 10 #[.string s] w fun e w' => ∃ (a b c : Nat) (f : Int), e = .returned (.tuple #[.int .i64 (a : Int), .int .i64 (b : Int), .int .i64 (c : Int), .int .i64 f]) ∧ Hid (GetIs s a b c f) ∧ Below w.heap.size w w' := by
  by_cases hs : s.size = 32
  · have cn : Hid (∀ p u, p.size ≤ 4 → Calls Try.prog 22 #[.string p] u fun e w' => e = .returned (.int .i64 (numOf p : Int)) ∧ w' = u) := fun p u h => (refNumber_any p u h).mono fun _ _ ⟨x, y⟩ => ⟨x, y.symm⟩
    go_enter Try.func10, Try.ntmps10
    go_upto_region 3 with fail
    go_quiet (first | (go_at_call 22; exact Calls.quiet_of_same (cn.out _ _ (by rw [ByteArray.size_extract]; omega))))
    generalize ha : numOf (s.extract 8 12) = a
    generalize hb : numOf (s.extract 12 16) = b
    generalize hc : numOf (s.extract 16 20) = c
    have Ha : Hid (numOf (s.extract 8 12) = a) := ha
    have Hb : Hid (numOf (s.extract 12 16) = b) := hb
    have Hc : Hid (numOf (s.extract 16 20) = c) := hc
    clear ha hb hc cn
    go_wp2_with fail
    refine (refPut_says _ _ _ _).mono ?_
    rintro e w1 ⟨T, rfl, HT, b1⟩
    have B1 : Hid (Below w.heap.size w w1) := (below_drewN (Below.refl _ _) _).trans (b1.mono (by simp))
    cases hm : mays (a : Int) (b : Int) (c : Int)
    · obtain ⟨hX, hE⟩ := putX_no hm
      rw [hE]
      have HG : Hid (GetIs s 0 0 0 700) := getIs_not Ha.out Hb.out Hc.out (Or.inl hm)
      clear hm hX hE HT b1
      go_wp2
      refine bodyPost_ret (v := .tuple #[.int .i64 0, .int .i64 0, .int .i64 0, .int .i64 700]) (by simp [results, Try.results10, go_sem]) rfl ?_
      exact ⟨0, 0, 0, 700, rfl, HG, B1.out⟩
    · have hE : putE (a : Int) (b : Int) (c : Int) = 0 := by unfold putE; rw [if_pos hm]
      rw [hE]
      have heq := eq_iff T s
      by_cases ht : T = s
      · rw [decide_eq_true ht] at heq
        have HG : Hid (GetIs s a b c 0) := by
          have hm' := hm
          unfold mays at hm'
          simp only [Bool.and_eq_true] at hm'
          refine Or.inl ⟨rfl, hm'.1, hm'.2.1, hm'.2.2, ?_⟩
          rw [← ht, HT.out, (putX_yes a b c hm'.1 hm'.2.1 hm'.2.2).1]
        clear hm hE ht HT b1
        go_wp2
        refine bodyPost_ret (v := .tuple #[.int .i64 (a : Int), .int .i64 (b : Int), .int .i64 (c : Int), .int .i64 0]) (by simp [results, Try.results10, go_sem]) rfl ?_
        exact ⟨a, b, c, 0, rfl, HG, B1.out⟩
      · rw [decide_eq_false ht] at heq
        have HG : Hid (GetIs s 0 0 0 700) := getIs_not Ha.out Hb.out Hc.out (Or.inr (by rw [← HT.out]; exact ht))
        clear hm hE ht HT b1
        go_wp2
        refine bodyPost_ret (v := .tuple #[.int .i64 0, .int .i64 0, .int .i64 0, .int .i64 700]) (by simp [results, Try.results10, go_sem]) rfl ?_
        exact ⟨0, 0, 0, 700, rfl, HG, B1.out⟩
  · have HG : Hid (GetIs s 0 0 0 700) := getIs_size hs
    go_enter Try.func10, Try.ntmps10
    go_wp2
    refine bodyPost_ret (v := .tuple #[.int .i64 0, .int .i64 0, .int .i64 0, .int .i64 700]) (by simp [results, Try.results10, go_sem]) rfl ?_
    exact ⟨0, 0, 0, 700, rfl, HG, Below.refl _ _⟩

theorem may_4096 : mayB 4096 = true := by decide +kernel
theorem may_512 : mayB 512 = true := by decide +kernel
theorem may_32 : mayB 32 = true := by decide +kernel
set_option maxHeartbeats 1000000 in
theorem awake_any (w : World) :
    Calls Try.prog 12 #[] w fun e w' => e = .returned (.bool true) ∧ Below w.heap.size w w' := by
  go_enter Try.func12, Try.ntmps12
  go_wp2_with fail
  refine (put_of 4096 512 32 _ may_4096 may_512 may_32).mono ?_
  rintro e w1 ⟨T, rfl, HT, b1⟩
  have hT : T.size = 32 := by rw [HT.out, put_size]
  have hd : (T.extract 0 12).toList = [83, 70, 68, 80, 6, 1, 0, 255, 0, 16, 0, 0] := by rw [HT.out, ByteArray.toList_eq]; decide +kernel
  go_wp2_with fail
  refine (get_of T _ 4096 512 32 0 (by unfold maxLen; omega) (by rw [HT.out]; exact getIs_put _ _ _ may_4096 may_512 may_32)).mono ?_
  rintro e w2 ⟨rfl, b2⟩
  have B2 : Hid (Below w.heap.size w w2) := below_then b1 b2
  clear b1 b2 HT
  go_wp2_with fail
  refine (put_none 3 1 1 _ (by decide +kernel)).mono ?_
  rintro e w3 ⟨rfl, b3⟩
  go_wp2_with fail
  refine (get_of ⟨#[]⟩ _ 0 0 0 700 (by decide) (getIs_size (by decide))).mono ?_
  rintro e w4 ⟨rfl, b4⟩
  have B4 : Hid (Below w.heap.size w w4) := below_then (below_then B2.out b3) b4
  clear b3 b4 B2
  go_wp2_with (go_at_call 11; refine (num_any _ _).mono ?_; rintro e w' ⟨rfl, rfl⟩)
  go_ret
  exact ⟨rfl, B4.out⟩
end Go.Proofs.Ytgibpmjgcjcghaa
