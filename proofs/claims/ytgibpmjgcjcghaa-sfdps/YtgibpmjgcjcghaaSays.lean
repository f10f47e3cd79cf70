/-
  What Put and Get tell, the program's and the document's own, by contracts at every argument. No conditions but those of each statement.
-/
import Derived.Test.YtgibpmjgcjcghaaFacts
import Derived.Test.YtgibpmjgcjcghaaPut
namespace Go.Proofs.Ytgibpmjgcjcghaa
open Go.RowKit Plain
set_option linter.unusedVariables false

def mays (a b c : Int) : Bool := mayB a && (mayB b && mayB c)
def putX (a b c : Int) : ByteArray := if mays a b c then putT a.toNat b.toNat c.toNat else ⟨#[]⟩
def putE (a b c : Int) : Int := if mays a b c then 0 else 700
theorem putX_yes (a b c : Nat) (ha : mayB (a : Int) = true) (hb : mayB (b : Int) = true) (hc : mayB (c : Int) = true) : putX a b c = putT a b c ∧ putE a b c = 0 := by
  have : mays a b c = true := by unfold mays; rw [ha, hb, hc]; rfl
  unfold putX putE
  rw [if_pos this, if_pos this]
  exact ⟨rfl, rfl⟩
theorem putX_no {a b c : Int} (h : mays a b c = false) : putX a b c = ⟨#[]⟩ ∧ putE a b c = 700 := by
  unfold putX putE
  rw [h]
  exact ⟨rfl, rfl⟩
theorem mays_a {a b c : Int} (h : mayB a = false) : mays a b c = false := by unfold mays; rw [h]; rfl
theorem mays_b {a b c : Int} (h : mayB b = false) : mays a b c = false := by unfold mays; rw [h]; simp
theorem mays_c {a b c : Int} (h : mayB c = false) : mays a b c = false := by unfold mays; rw [h]; simp
theorem put_says (a b c : Int) (w : World) :
    Calls Try.prog 7 #[.int .i64 a, .int .i64 b, .int .i64 c] w fun e w' => ∃ T, e = .returned (.tuple #[.string T, .int .i64 (putE a b c)]) ∧ Hid (T = putX a b c) ∧ Below w.heap.size w w' := by
  cases ha : mayB a
  · obtain ⟨h1, h2⟩ := putX_no (mays_a (b := b) (c := c) ha)
    rw [h1, h2]
    exact (put_no1 a b c w ha).mono fun e w' h => ⟨_, h.1, rfl, h.2⟩
  · cases hb : mayB b
    · obtain ⟨h1, h2⟩ := putX_no (mays_b (a := a) (c := c) hb)
      rw [h1, h2]
      obtain ⟨k, rfl, _, hk⟩ := mayB_nat ha
      exact (put_no2 k b c w ha hb hk).mono fun e w' h => ⟨_, h.1, rfl, h.2⟩
    · obtain ⟨k, rfl, _, hk⟩ := mayB_nat ha
      obtain ⟨l, rfl, _, hl⟩ := mayB_nat hb
      cases hc : mayB c
      · obtain ⟨h1, h2⟩ := putX_no (mays_c (a := k) (b := l) hc)
        rw [h1, h2]
        exact (put_no3 k l c w ha hb hc hk hl).mono fun e w' h => ⟨_, h.1, rfl, h.2⟩
      · obtain ⟨m, rfl, _, hm⟩ := mayB_nat hc
        obtain ⟨h1, h2⟩ := putX_yes k l m ha hb hc
        rw [h1, h2]
        exact put_yes k l m w ha hb hc hk hl hm

set_option maxHeartbeats 1000000 in
theorem get_says (s : ByteArray) (w : World) (hs : s.size ≤ maxLen) :
    Calls Try.prog 9 #[.string s] w fun e w' => ∃ (a b c : Nat) (f : Int), e = .returned (.tuple #[.int .i64 (a : Int), .int .i64 (b : Int), .int .i64 (c : Int), .int .i64 f]) ∧ Hid (GetIs s a b c f) ∧ Below w.heap.size w w' := by
  go_enter Try.func9, Try.ntmps9
  go_wp2_with fail
  refine (same_any w.heap.size s headT false _ ⟨by simp, by simp, by simp, by simp⟩ (by decide) hs).mono ?_
  rintro e w1 ⟨rfl, T1, B1⟩
  replace B1 : Hid (Below w.heap.size w w1) := (below_new _ _).trans B1
  go_wp2_with fail
  refine (number_any w.heap.size _ _ _ T1 (Nat.le_trans (tkR_size _ _) hs)).mono ?_
  rintro e w2 ⟨rfl, T2, B2⟩
  replace B2 : Hid (Below w.heap.size w w2) := B1.out.trans B2
  clear T1 B1
  go_wp2_with fail
  refine (number_any w.heap.size _ _ _ T2 (Nat.le_trans (tkR_size _ _) (Nat.le_trans (tkR_size _ _) hs))).mono ?_
  rintro e w3 ⟨rfl, T3, B3⟩
  replace B3 : Hid (Below w.heap.size w w3) := B2.out.trans B3
  clear T2 B2
  go_wp2_with fail
  refine (number_any w.heap.size _ _ _ T3 (Nat.le_trans (tkR_size _ _) (Nat.le_trans (tkR_size _ _) (Nat.le_trans (tkR_size _ _) hs)))).mono ?_
  rintro e w4 ⟨rfl, T4, B4⟩
  replace B4 : Hid (Below w.heap.size w w4) := B3.out.trans B4
  clear T3 B3
  go_wp2_with fail
  refine (tail_any _).mono ?_
  rintro e w5 ⟨rfl, b5⟩
  have T5 : Hid (Tk w5 w.heap.size _ _) := ⟨(b5.cell (cell_lt T4.1)).trans T4.1, (b5.cell (cell_lt T4.2.1)).trans T4.2.1, (b5.frozen (cell_lt T4.1)).trans T4.2.2.1, (b5.frozen (cell_lt T4.2.1)).trans T4.2.2.2⟩
  have B5 : Hid (Below w.heap.size w w5) := B4.out.trans (b5.mono B4.out.size)
  clear T4 B4 b5
  go_wp2_with fail
  refine (same_any w.heap.size _ endT _ _ T5.out (by decide) (Nat.le_trans (tkR_size _ _) (Nat.le_trans (tkR_size _ _) (Nat.le_trans (tkR_size _ _) (Nat.le_trans (tkR_size _ _) hs))))).mono ?_
  rintro e w6 ⟨rfl, T6, B6⟩
  replace B6 : Hid (Below w.heap.size w w6) := B5.out.trans B6
  clear T5 B5
  go_wp2_with fail
  refine (whole_any w.heap.size _ _ _ T6).mono ?_
  rintro e w7 ⟨he, rfl⟩
  obtain rfl : e = .returned (.bool (tkOk s)) := he
  clear T6
  cases hk : tkOk s
  · have HG : Hid (GetIs s 0 0 0 700) := get_no hk
    clear hk
    go_wp2
    refine bodyPost_ret (v := .tuple #[.int .i64 0, .int .i64 0, .int .i64 0, .int .i64 700]) (by simp [results, Try.results9, go_sem]) rfl ?_
    exact ⟨0, 0, 0, 700, rfl, HG, B6.out⟩
  · have HG : Hid (GetIs s (tkN (tkR s 8)) (tkN (tkR (tkR s 8) 4)) (tkN (tkR (tkR (tkR s 8) 4) 4)) 0) := get_yes hk
    clear hk
    go_wp2
    refine bodyPost_ret (v := .tuple #[.int .i64 (tkN (tkR s 8) : Int), .int .i64 (tkN (tkR (tkR s 8) 4) : Int), .int .i64 (tkN (tkR (tkR (tkR s 8) 4) 4) : Int), .int .i64 0]) (by simp [results, Try.results9, go_sem]; exact ⟨rfl, rfl, rfl⟩) rfl ?_
    exact ⟨_, _, _, 0, rfl, HG, B6.out⟩

theorem lit_text (w : World) (a b c d : UInt8) : (convert 35 9 (.slice (some ⟨w.heap.size, 0, none⟩) 4 4)).run Try.prog (w.alloc (.cells #[.int .u8 (a.toNat : Int), .int .u8 (b.toNat : Int), .int .u8 (c.toNat : Int), .int .u8 (d.toNat : Int)] 5)) = .ok (.string ⟨#[a, b, c, d]⟩) (w.alloc (.cells #[.int .u8 (a.toNat : Int), .int .u8 (b.toNat : Int), .int .u8 (c.toNat : Int), .int .u8 (d.toNat : Int)] 5)) := by
  have hb : Bytes (w.alloc (.cells #[.int .u8 (a.toNat : Int), .int .u8 (b.toNat : Int), .int .u8 (c.toNat : Int), .int .u8 (d.toNat : Int)] 5)) w.heap.size 4 (fun j => [a, b, c, d].getD j 0) := fun j hj => by
    rcases (by omega : j = 0 ∨ j = 1 ∨ j = 2 ∨ j = 3) with rfl | rfl | rfl | rfl <;> simp
  have := hb.back 4
  rw [tab_list 4 [a, b, c, d] rfl] at this
  exact this
theorem ofNat_int (n : Nat) : (((UInt8.ofNat n).toNat : Nat) : Int) = (n : Int) % 256 := by
  rw [UInt8.toNat_ofNat']
  omega
theorem four_any (n : Nat) (h : n < 4294967296) (w : World) : Calls Try.prog 17 #[.int .i64 (n : Int)] w fun e w' => e = .returned (.string (fourT n)) ∧ Below w.heap.size w w' := by
  have hl := lit_text w (UInt8.ofNat (n / 256 ^ 0)) (UInt8.ofNat (n / 256 ^ 1)) (UInt8.ofNat (n / 256 ^ 2)) (UInt8.ofNat (n / 256 ^ 3))
  rw [ofNat_int, ofNat_int, ofNat_int, ofNat_int, show ((n / 256 ^ 0 : Nat) : Int) % 256 = (n : Int) % 256 by simp, show ((n / 256 ^ 1 : Nat) : Int) % 256 = (n : Int) / 256 % 256 by simp, show ((n / 256 ^ 2 : Nat) : Int) % 256 = (n : Int) / 65536 % 256 by simp,
    show ((n / 256 ^ 3 : Nat) : Int) % 256 = (n : Int) / 16777216 by simp; omega, show (⟨#[UInt8.ofNat (n / 256 ^ 0), UInt8.ofNat (n / 256 ^ 1), UInt8.ofNat (n / 256 ^ 2), UInt8.ofNat (n / 256 ^ 3)]⟩ : ByteArray) = fourT n from rfl] at hl
  obtain ⟨F, HF⟩ : ∃ F, Hid (fourT n = F) := ⟨_, rfl⟩
  rw [HF.out] at hl ⊢
  go_enter Try.func17, Try.ntmps17
  go_wp2
  go_ret
  exact ⟨rfl, below_new _ _⟩

theorem full_end : full 12 = endT := by decide +kernel
theorem four_is (n : Nat) (h : n < 4294967296) (w : World) : Calls Try.prog 17 #[.int .i64 (n : Int)] w fun e w' => ∃ F, e = .returned (.string F) ∧ F.size = 4 ∧ Hid (F = fourT n) ∧ Below w.heap.size w w' :=
  (four_any n h w).mono fun e w' ⟨h1, h2⟩ => ⟨_, h1, four_size n, rfl, h2⟩
set_option maxRecDepth 100000 in
set_option maxHeartbeats 1000000 in
theorem refPut_yes (a b c : Nat) (w : World) (ha : mayB (a : Int) = true) (hb : mayB (b : Int) = true) (hc : mayB (c : Int) = true) :
    Calls Try.prog 8 #[.int .i64 (a : Int), .int .i64 (b : Int), .int .i64 (c : Int)] w fun e w' => ∃ T, e = .returned (.tuple #[.string T, .int .i64 0]) ∧ Hid (T = putT a b c) ∧ Below w.heap.size w w' := by
  go_enter Try.func8, Try.ntmps8
  go_wp2_with fail
  refine (power_any _ _).mono ?_
  rintro e w' ⟨rfl, rfl⟩
  rw [ha]
  go_wp2_with fail
  refine (power_any _ _).mono ?_
  rintro e w' ⟨rfl, rfl⟩
  rw [hb]
  go_wp2_with fail
  refine (power_any _ _).mono ?_
  rintro e w' ⟨rfl, rfl⟩
  rw [hc]
  go_wp2_with fail
  refine (four_is a (may_lt ha) _).mono ?_
  rintro e w1 ⟨A, rfl, sA, HA, b1⟩
  go_wp2_with fail
  refine (four_is b (may_lt hb) _).mono ?_
  rintro e w2 ⟨B, rfl, sB, HB, b2⟩
  go_wp2_with fail
  refine (four_is c (may_lt hc) _).mono ?_
  rintro e w3 ⟨C, rfl, sC, HC, b3⟩
  have HL : Hid (Below w.heap.size w w3) := below_then (below_then b1 b2) b3
  clear b1 b2 b3
  go_wp2_with fail
  refine (full_12 _).mono ?_
  rintro e w4 ⟨rfl, b4⟩
  have HL4 : Hid (Below w.heap.size w w4) := below_then HL.out b4
  obtain ⟨U, HU⟩ : ∃ U, Hid (full 12 = U) := ⟨_, rfl⟩
  rw [HU.out]
  have HT : Hid (({ data := #[83, 70, 68, 80, 6, 1, 0, 255] } ++ A ++ B ++ C : ByteArray) ++ U = putT a b c) := by
    rw [← HU.out, full_end, HA.out, HB.out, HC.out, putT_parts]
    simp only [ByteArray.append_assoc]
    rfl
  have hUs : U.size = 12 := by rw [← HU.out]; exact tab_size _ _
  clear b4
  go_wp2
  go_ret2
  exact ⟨_, rfl, HT, HL4.out⟩
theorem refPut_no (a b c : Int) (w : World) (h : mays a b c = false) :
    Calls Try.prog 8 #[.int .i64 a, .int .i64 b, .int .i64 c] w fun e w' => e = .returned (.tuple #[.string ⟨#[]⟩, .int .i64 700]) ∧ w = w' := by
  have h1 : (mayB a = false) ∨ (mayB a = true ∧ mayB b = false) ∨ (mayB a = true ∧ mayB b = true ∧ mayB c = false) := by
    unfold mays at h
    cases h1 : mayB a <;> cases h2 : mayB b <;> cases h3 : mayB c <;> simp_all
  rcases h1 with h1 | ⟨h1, h2⟩ | ⟨h1, h2, h3⟩
  · go_enter Try.func8, Try.ntmps8
    go_wp2_with fail
    refine (power_any _ _).mono ?_
    rintro e w' ⟨rfl, rfl⟩
    rw [h1]
    go_wp2
    go_ret2
    exact ⟨rfl, rfl⟩
  · go_enter Try.func8, Try.ntmps8
    go_wp2_with fail
    refine (power_any _ _).mono ?_
    rintro e w' ⟨rfl, rfl⟩
    rw [h1]
    go_wp2_with fail
    refine (power_any _ _).mono ?_
    rintro e w' ⟨rfl, rfl⟩
    rw [h2]
    go_wp2
    go_ret2
    exact ⟨rfl, rfl⟩
  · go_enter Try.func8, Try.ntmps8
    go_wp2_with fail
    refine (power_any _ _).mono ?_
    rintro e w' ⟨rfl, rfl⟩
    rw [h1]
    go_wp2_with fail
    refine (power_any _ _).mono ?_
    rintro e w' ⟨rfl, rfl⟩
    rw [h2]
    go_wp2_with fail
    refine (power_any _ _).mono ?_
    rintro e w' ⟨rfl, rfl⟩
    rw [h3]
    go_wp2
    go_ret2
    exact ⟨rfl, rfl⟩
theorem refPut_says (a b c : Int) (w : World) :
    Calls Try.prog 8 #[.int .i64 a, .int .i64 b, .int .i64 c] w fun e w' => ∃ T, e = .returned (.tuple #[.string T, .int .i64 (putE a b c)]) ∧ Hid (T = putX a b c) ∧ Below w.heap.size w w' := by
  cases h : mays a b c
  · obtain ⟨h1, h2⟩ := putX_no h
    rw [h1, h2]
    exact (refPut_no a b c w h).mono fun e w' h => ⟨_, h.1, rfl, by rw [← h.2]; exact Below.refl _ _⟩
  · unfold mays at h
    simp only [Bool.and_eq_true] at h
    obtain ⟨k, rfl, _, hk⟩ := mayB_nat h.1
    obtain ⟨l, rfl, _, hl⟩ := mayB_nat h.2.1
    obtain ⟨m, rfl, _, hm⟩ := mayB_nat h.2.2
    obtain ⟨h1, h2⟩ := putX_yes k l m h.1 h.2.1 h.2.2
    rw [h1, h2]
    exact refPut_yes k l m w h.1 h.2.1 h.2.2
end Go.Proofs.Ytgibpmjgcjcghaa
