/-
  A clock of the chip, and what is under way: each by a contract. Conditions: the chip lies in memory as told and is one that may be.
-/
import Derived.Test.YtjhjghakfedeeaaGreatData
import Derived.Test.YtjhjghakfedeeaaGreatWhole
namespace Go.Proofs.YtjhjghakfedeeaaGreat
open Go.RowKit Plain
set_option linter.unusedVariables false

set_option maxHeartbeats 1000000 in
theorem on_any (s : St) (m : ByteArray) (w : World) (hA : s.A.size = 4096) (ha : s.wat < 4096) (hd : s.wat + s.wdata.size ≤ 4096) (hm : m.size ≤ maxLen) :
    Calls Tryz.prog 69 #[.agg #[.int .i64 (s.left : Int), .bool s.erases, .int .i64 (s.wat : Int), .string s.wdata], .string s.A, .string m] w fun e w' => ∃ R, e = .returned (.string R) ∧ Hid (R = s.on m) ∧ Below w.heap.size w w' := by
  cases he : s.erases with
  | true =>
    have e1 : s.on m = erase s.A (s.wat / 512) m := by unfold St.on; rw [he]; rfl
    rw [e1]
    go_enter Tryz.func69, Tryz.ntmps69
    go_wp2_with (go_at_call 113; refine (eraseCut_yes s.A (s.wat / 512) m _ hA (by omega) hm).mono ?_; rintro e w' ⟨R, rfl, HR, b1⟩)
    go_ret
    exact ⟨R, rfl, HR, below_lit b1⟩
  | false =>
    have e1 : s.on m = prog s.A s.wat s.wdata m := by unfold St.on; rw [he]; rfl
    rw [e1]
    go_enter Tryz.func69, Tryz.ntmps69
    go_wp2_with (go_at_call 114; refine (programCut_yes s.A s.wat s.wdata m _ hA hd hm).mono ?_; rintro e w' ⟨R, rfl, HR, b1⟩)
    go_ret
    exact ⟨R, rfl, HR, below_lit b1⟩

theorem ff_ok : (⟨#[255]⟩ : ByteArray).size ≤ maxLen := by unfold maxLen; decide

set_option maxRecDepth 100000 in
set_option maxHeartbeats 1600000 in
theorem countDown_any (n b : Nat) (s : St) (ds : Value) (w : World) (h : At w b s ds) (hs : s.Ok n) :
    Calls Tryz.prog 95 #[.pointer (some ⟨b, 0, none⟩)] w fun e w' => e = .returned (.tuple #[]) ∧ At w' b s.countDown ds ∧ Only b w w' := by
  cases hb : s.busy with
  | false =>
    have e1 : s.countDown = s := by unfold St.countDown; rw [hb]; rfl
    rw [e1]
    go_enter Tryz.func95, Tryz.ntmps95
    go_wp2_with (go_at_call 108; refine (busy_any b s ds _ h).mono ?_; rintro e w1 ⟨rfl, b1⟩; rw [hb])
    first | go_end0 | refine bodyPost_ret (results_none rfl _ _ _) rfl ?_
    exact ⟨rfl, Blk.below h b1, Only.of_below b1⟩
  | true =>
    have hl : 0 < s.left := by
      have h0 : (decide (0 < s.left) && !s.sus) = true := hb
      exact of_decide_eq_true (Bool.and_eq_true_iff.1 h0).1
    have hl2 := hs.left
    obtain ⟨l, Hl⟩ : ∃ l, Hid (s.left = l + 1) := ⟨s.left - 1, by show _ = _; omega⟩
    have hl3 : l < 400 := by have := Hl.out; omega
    by_cases e0 : 0 < l
    · have HE : Hid (s.countDown = { s with left := l }) := by
        show _ = _
        unfold St.countDown
        rw [hb, if_pos rfl, if_pos (by rw [Hl.out]; omega), Hl.out]; rfl
      have e0' : decide (0 < l) = true := decide_eq_true e0
      clear hl hl2
      go_enter Tryz.func95, Tryz.ntmps95
      go_wp2_with (first | (go_at_call 108; refine (busy_any b s ds _ h).mono ?_; rintro e w1 ⟨rfl, b1⟩; rw [hb]; (have h1 : At w1 b s ds := Blk.below h b1); (have c20 : w1.cell? ⟨b, 20, none⟩ = some (.int .i64 ((l : Int) + 1)) := (by rw [Blk.cell h1 20 (show _ = some (Value.int .i64 (s.left : Int)) from rfl), Hl.out]; rfl)); (have f20 := Blk.frozen h1 20); (have c21 : w1.cell? ⟨b, 21, none⟩ = some (.bool s.erases) := Blk.cell h1 21 rfl); (have c22 : w1.cell? ⟨b, 22, none⟩ = some (.int .i64 (s.wat : Int)) := Blk.cell h1 22 rfl); (have c23 : w1.cell? ⟨b, 23, none⟩ = some (.string s.wdata) := Blk.cell h1 23 rfl)) | (go_at_call 68; refine (goes_any l _ _ _ _).mono ?_; rintro e w2 ⟨rfl, b2⟩; rw [e0']))
      first | go_end0 | refine bodyPost_ret (results_none rfl _ _ _) rfl ?_
      rw [HE.out]
      have h2 : At (w1.setCell ⟨b, 20, none⟩ (.int .i64 (l : Int))) b { s with left := l } ds := Blk.set h1 20 _
      exact ⟨rfl, Blk.below h2 b2, ((Only.of_below b1).set 20 _).below b2⟩
    · have l0 : l = 0 := by omega
      subst l0
      have HE : Hid (s.countDown = { s with A := s.on ⟨#[255]⟩, left := 0, erases := false, wat := 0, wdata := ⟨#[]⟩, en := false }) := by
        show _ = _
        unfold St.countDown
        rw [hb, if_pos rfl, if_neg (by rw [Hl.out]; omega)]
      have Hon : Hid (∀ u : World, Calls Tryz.prog 69 #[.agg #[.int .i64 0, .bool s.erases, .int .i64 (s.wat : Int), .string s.wdata], .string s.A, .string ⟨#[255]⟩] u fun e w' => ∃ R, e = .returned (.string R) ∧ Hid (R = s.on ⟨#[255]⟩) ∧ Below u.heap.size u w') :=
        fun u => on_any { s with left := 0 } ⟨#[255]⟩ u hs.A hs.wat hs.wdata ff_ok
      clear hl hl2
      go_enter Tryz.func95, Tryz.ntmps95
      go_wp2_with (first | (go_at_call 108; refine (busy_any b s ds _ h).mono ?_; rintro e w1 ⟨rfl, b1⟩; rw [hb]; (have h1 : At w1 b s ds := Blk.below h b1); (have c20 : w1.cell? ⟨b, 20, none⟩ = some (.int .i64 1) := (by rw [Blk.cell h1 20 (show _ = some (Value.int .i64 (s.left : Int)) from rfl), Hl.out]; rfl)); (have f20 := Blk.frozen h1 20); (have c21 : w1.cell? ⟨b, 21, none⟩ = some (.bool s.erases) := Blk.cell h1 21 rfl); (have c22 : w1.cell? ⟨b, 22, none⟩ = some (.int .i64 (s.wat : Int)) := Blk.cell h1 22 rfl); (have c23 : w1.cell? ⟨b, 23, none⟩ = some (.string s.wdata) := Blk.cell h1 23 rfl)) | (go_at_call 68; refine (goes_any 0 _ _ _ _).mono ?_; rintro e w2 ⟨rfl, b2⟩))
      have h2 : At w2 b { s with left := 0 } ds := Blk.below (show At (w1.setCell ⟨b, 20, none⟩ (.int .i64 0)) b { s with left := 0 } ds from Blk.set h1 20 _) b2
      have o2 : Only b w w2 := ((Only.of_below b1).set 20 _).below b2
      clear c20 c21 c22 c23 f20 h1 b1 b2
      have d0 : w2.cell? ⟨b, 0, none⟩ = some (.string s.A) := Blk.cell h2 0 rfl
      have d20 : w2.cell? ⟨b, 20, none⟩ = some (.int .i64 0) := Blk.cell h2 20 rfl
      have d21 : w2.cell? ⟨b, 21, none⟩ = some (.bool s.erases) := Blk.cell h2 21 rfl
      have d22 : w2.cell? ⟨b, 22, none⟩ = some (.int .i64 (s.wat : Int)) := Blk.cell h2 22 rfl
      have d23 : w2.cell? ⟨b, 23, none⟩ = some (.string s.wdata) := Blk.cell h2 23 rfl
      go_region_with (go_at_call 69; refine (Hon.out _).mono ?_; rintro e w3 ⟨R, rfl, HR, b3⟩; (have h3 : At w3 b { s with left := 0 } ds := Blk.below (Blk.drew h2) b3); (have q0 : w3.cell? ⟨b, 0, none⟩ = some (.string s.A) := Blk.cell h3 0 rfl); (have z0 := Blk.frozen h3 0))
      all_goals (
        have h4 : At (w3.setCell ⟨b, 0, none⟩ (.string R)) b { s with left := 0, A := R } ds := Blk.set h3 0 _
        have o4 : Only b w (w3.setCell ⟨b, 0, none⟩ (.string R)) := (o2.drew.below b3).set 0 _
        generalize (w3.setCell ⟨b, 0, none⟩ (.string R)) = W4 at h4 o4 ⊢
        clear d0 d20 d21 d22 d23 q0 z0 h3 b3 h2 o2
        have g20 : W4.cell? ⟨b, 20, none⟩ = some (.int .i64 0) := Blk.cell h4 20 rfl
        have g21 : W4.cell? ⟨b, 21, none⟩ = some (.bool s.erases) := Blk.cell h4 21 rfl
        have g22 : W4.cell? ⟨b, 22, none⟩ = some (.int .i64 (s.wat : Int)) := Blk.cell h4 22 rfl
        have g23 : W4.cell? ⟨b, 23, none⟩ = some (.string s.wdata) := Blk.cell h4 23 rfl
        have g16 : W4.cell? ⟨b, 16, none⟩ = some (.bool s.en) := Blk.cell h4 16 rfl
        have f20 := Blk.frozen h4 20
        have f21 := Blk.frozen h4 21
        have f22 := Blk.frozen h4 22
        have f23 := Blk.frozen h4 23
        have f16 := Blk.frozen h4 16
        go_wp2
        first | go_end0 | refine bodyPost_ret (results_none rfl _ _ _) rfl ?_
        rw [HE.out, ← HR.out]
        exact ⟨rfl, Blk.set (Blk.set (Blk.set (Blk.set (Blk.set h4 20 _) 21 _) 22 _) 23 _) 16 _, ((((o4.set 20 _).set 21 _).set 22 _).set 23 _).set 16 _⟩)

theorem countDown_k (s : St) : s.countDown.k = s.k := by unfold St.countDown; split; · split <;> rfl
                                                         · rfl
theorem countDown_sel (s : St) : s.countDown.sel = s.sel := by unfold St.countDown; split; · split <;> rfl
                                                               · rfl
theorem on_size (s : St) (m : ByteArray) : (s.on m).size = s.A.size := by
  unfold St.on; split
  · exact tab_size _ _
  · exact tab_size _ _
theorem countDown_ok {n : Nat} {s : St} (h : s.Ok n) : s.countDown.Ok n := by
  unfold St.countDown
  split
  · split
    · exact ⟨h.A, h.durs, by have := h.left; show s.left - 1 ≤ 400; omega, h.wat, h.wdata, h.k⟩
    · exact ⟨(on_size s _).trans h.A, h.durs, Nat.zero_le _, by show 0 < 4096; omega, by show 0 + 0 ≤ 4096; omega, h.k⟩
  · exact h

set_option maxRecDepth 100000 in
set_option maxHeartbeats 1600000 in
theorem clock_any (n b : Nat) (s : St) (ds : Value) (x : Nat) (w : World) (h : At w b s ds) (hs : s.Ok n) (hn : n < 4611686018427387903) (hx : x < 16) :
    Calls Tryz.prog 58 #[.pointer (some ⟨b, 0, none⟩), .int .i64 (x : Int)] w fun e w' => e = .returned (.tuple #[.int .i64 ((s.clock x).2 : Int), .int .i64 0]) ∧ At w' b (s.clock x).1 ds ∧ Only b w w' := by
  have HC : Hid (s.clock x = s.countDown.heard x) := rfl
  obtain ⟨t, Ht⟩ : ∃ t, Hid (s.countDown = t) := ⟨_, rfl⟩
  have ht : t.Ok n := by rw [← Ht.out]; exact countDown_ok hs
  have Hcd : Hid (∀ u : World, At u b s ds → Calls Tryz.prog 95 #[.pointer (some ⟨b, 0, none⟩)] u fun e w' => e = .returned (.tuple #[]) ∧ At w' b t ds ∧ Only b u w') := fun u hu => by rw [← Ht.out]; exact countDown_any n b s ds u hu hs
  rw [HC.out, Ht.out]
  clear HC Ht
  cases hl : t.sel with
  | false =>
    have HE : Hid (t.heard x = (t, 15)) := by show _ = _; unfold St.heard; rw [if_pos hl]
    go_enter Tryz.func58, Tryz.ntmps58
    go_wp2_with (go_at_call 95; refine (Hcd.out _ h).mono ?_; rintro e w1 ⟨rfl, h1, o1⟩; (have c15 : w1.cell? ⟨b, 15, none⟩ = some (.bool false) := (by rw [Blk.cell h1 15 (show _ = some (Value.bool t.sel) from rfl), hl])))
    go_ret2
    rw [HE.out]
    exact ⟨rfl, h1, o1⟩
  | true =>
    cases hp : t.k.speaks with
    | true =>
      have hp4 : t.k.part = 4 := by
        have h0 : (decide (t.k.part = 4) && !t.k.op.inn) = true := hp
        exact of_decide_eq_true (Bool.and_eq_true_iff.1 h0).1
      have HE : Hid (t.heard x = t.tell) := by show _ = _; unfold St.heard; rw [if_neg (by rw [hl]; decide), if_pos hp]
      go_enter Tryz.func58, Tryz.ntmps58
      go_wp2_with (first | (go_at_call 95; refine (Hcd.out _ h).mono ?_; rintro e w1 ⟨rfl, h1, o1⟩; (have c15 : w1.cell? ⟨b, 15, none⟩ = some (.bool true) := (by rw [Blk.cell h1 15 (show _ = some (Value.bool t.sel) from rfl), hl]))) | (go_at_call 96; refine (speaks_any b 24 t.k _ (cmd_at h1)).mono ?_; rintro e w2 ⟨rfl, rfl⟩; rw [hp]) | (go_at_call 97; refine (tell_any n b t ds _ h1 ht.A ht.k hp4 hn).mono ?_; rintro e w3 ⟨rfl, h3, o3⟩))
      go_ret2
      rw [HE.out]
      exact ⟨rfl, h3, o1.trans o3⟩
    | false =>
      have HE : Hid (t.heard x = (t.hear x, 15)) := by show _ = _; unfold St.heard; rw [if_neg (by rw [hl]; decide), if_neg (by rw [hp]; decide)]
      go_enter Tryz.func58, Tryz.ntmps58
      go_wp2_with (first | (go_at_call 95; refine (Hcd.out _ h).mono ?_; rintro e w1 ⟨rfl, h1, o1⟩; (have c15 : w1.cell? ⟨b, 15, none⟩ = some (.bool true) := (by rw [Blk.cell h1 15 (show _ = some (Value.bool t.sel) from rfl), hl]))) | (go_at_call 96; refine (speaks_any b 24 t.k _ (cmd_at h1)).mono ?_; rintro e w2 ⟨rfl, rfl⟩; rw [hp]) | (go_at_call 98; refine (hear_any n b t ds x _ h1 ht.k hn hx).mono ?_; rintro e w3 ⟨rfl, h3, o3⟩))
      go_ret2
      rw [HE.out]
      exact ⟨rfl, h3, o1.trans o3⟩
end Go.Proofs.YtjhjghakfedeeaaGreat
