/-
  A clock: the document's chip, by one contract. Conditions: the chip lies in memory as told, and is one that may be.
-/
import Derived.Test.YtlemmabgbaleiaaGreatRClock
namespace Go.Proofs.YtlemmabgbaleiaaGreat
open Go.RowKit Plain
set_option linter.unusedVariables false

theorem rclock_no (b : Nat) (x : Int) (w : World) (hx : x < 0 ∨ 15 < x) :
    Calls Tryz.prog 91 #[.pointer (some ⟨b, 0, none⟩), .int .i64 x] w fun e w' => e = .returned (.tuple #[.int .i64 0, .int .i64 600]) ∧ w = w' := by
  rcases hx with hx | hx
  · go_enter Tryz.func91, Tryz.ntmps91
    go_wp2
    go_ret2
    exact ⟨rfl, rfl⟩
  · have h0 : decide (x < 0) = false := decide_eq_false (by omega)
    go_enter Tryz.func91, Tryz.ntmps91
    go_wp2
    go_ret2
    exact ⟨rfl, rfl⟩
set_option maxRecDepth 100000 in
set_option maxHeartbeats 4000000 in
theorem rclock_idle (F : Nat → Prop) (n b : Nat) (u w : World) (r : RSt) (x : Nat) (h : RRun F n b u w r) (hx : x < 16) (hn : n < 1000000) (hb : r.busy = false) :
    Calls Tryz.prog 91 #[.pointer (some ⟨b, 0, none⟩), .int .i64 (x : Int)] w fun e w' => e = .returned (.tuple #[.int .i64 ((r.clock x).2 : Int), .int .i64 0]) ∧ RRun F (n + 1) b u w' (r.clock x).1 := by
  obtain ⟨wv, dv, iv, hA, hR⟩ := h.lies
  have HA : Hid (RAt w b r wv dv iv) := hA
  obtain ⟨r1, Hr1⟩ := hid_is r
  have Hr : Hid (r.clock x = r1.heard x) := by rw [Hid, ← Hr1.out]; unfold RSt.clock RSt.countDown; rw [if_neg (by rw [hb]; decide)]
  have H1 : Hid (RRun F n b u w r1) := by rw [← Hr1.out]; exact h
  have HB : Hid (r.busy = false) := hb
  obtain ⟨W, hW⟩ : ∃ W, W = w := ⟨_, rfl⟩
  clear hA hR h hb
  go_enter Tryz.func91, Tryz.ntmps91
  go_wp2_with fail
  refine (rbusy_any b r wv dv iv _ HA.out).mono ?_
  rintro e w' ⟨rfl, rfl⟩
  rw [HB.out]
  clear HA HB wv dv iv
  rw [← hW] at H1 ⊢
  clear hW
  go_upto_region 7 with fail
  obtain ⟨wv, dv, iv, hA, hR⟩ := H1.out.lies
  have c4 : W.cell? ⟨b, 4, none⟩ = some (.bool r1.sel) := Blk.cell hA 4 rfl
  have c20 : W.cell? ⟨b, 20, none⟩ = some (.bool r1.known) := Blk.cell hA 20 rfl
  have c19 : W.cell? ⟨b, 19, none⟩ = some (.bool r1.taken) := Blk.cell hA 19 rfl
  have hmore : Hid (RRun F (n + 1) b u W r1) := ⟨H1.out.turns, H1.out.mine, H1.out.ok.more (Nat.le_succ n), wv, dv, iv, hA, hR⟩
  cases es : r1.sel
  · rw [es] at c4
    have HE : Hid (r1.heard x = (r1, 15)) := if_pos es
    clear hA hR
    go_wp2
    go_ret2
    rw [Hr.out, HE.out]
    exact ⟨rfl, hmore.out⟩
  · rw [es] at c4
    cases ek : r1.known
    · rw [ek] at c20
      have c21 : W.cell? ⟨b, 21, none⟩ = some (.int .i64 (r1.bits : Int)) := Blk.cell hA 21 rfl
      have c22 : W.cell? ⟨b, 22, none⟩ = some (.int .i64 (r1.x : Int)) := Blk.cell hA 22 rfl
      have f21 := Blk.frozen hA 21
      have f22 := Blk.frozen hA 22
      have hb8 : r1.bits < 8 := H1.out.ok.bits8 (.inl ek)
      have hxs : r1.x < 16777216 := x_small H1.out.ok
      have HV : Hid (bits .or .i64 ((r1.x : Int) * 2) (bits .and .i64 (x : Int) 1) = ((r1.x * 2 + x % 2 : Nat) : Int)) := came_one r1.x x (x_small H1.out.ok)
      obtain ⟨X, HX⟩ := hid_is (r1.x * 2 + x % 2)
      rw [HX.out] at HV
      have hX8 : X < 2 ^ (r1.bits + 1) := by rw [← HX.out]; have := shl_lt (l := 1) (x := x) H1.out.ok.x; simpa using this
      have h2 : RAt ((W.setCell ⟨b, 22, none⟩ (.int .i64 (X : Int))).setCell ⟨b, 21, none⟩ (.int .i64 ((r1.bits : Int) + 1))) b { r1 with x := X, bits := r1.bits + 1 } wv dv iv := Blk.set (Blk.set hA 22 _) 21 _
      have o2 : Only b W ((W.setCell ⟨b, 22, none⟩ (.int .i64 (X : Int))).setCell ⟨b, 21, none⟩ (.int .i64 ((r1.bits : Int) + 1))) := ((Only.refl b W).set 22 _).set 21 _
      have HR : Hid (Rows3 F u W b r1.wiped r1.durs r1.inn wv dv iv) := hR
      clear hA hR
      go_upto_region 12 with fail
      rw [HV.out]
      generalize ((W.setCell ⟨b, 22, none⟩ (.int .i64 (X : Int))).setCell ⟨b, 21, none⟩ (.int .i64 ((r1.bits : Int) + 1))) = W2 at h2 o2 ⊢
      clear c4 c20 c19 c21 c22 f21 f22 HV
      have c21 : W2.cell? ⟨b, 21, none⟩ = some (.int .i64 ((r1.bits : Int) + 1)) := Blk.cell h2 21 rfl
      have c22 : W2.cell? ⟨b, 22, none⟩ = some (.int .i64 (X : Int)) := Blk.cell h2 22 rfl
      have HO : Hid ((r1.heard x).1.Ok (n + 1)) := ok_heard H1.out.ok x
      by_cases e8 : r1.bits + 1 = 8
      · have ed : (((r1.bits : Int) + 1) == 8) = true := beq_iff_eq.2 (by omega)
        have HE : Hid (r1.heard x = (RSt.command { r1 with x := X, bits := r1.bits + 1 } X, 15)) := by
          rw [Hid, ← HX.out]; unfold RSt.heard; rw [if_neg (by rw [es]; decide), if_pos ek, if_pos e8]
        have hX256 : X < 256 := by rw [e8] at hX8; exact hX8
        clear e8 hX8
        go_wp2_with fail
        refine (rcommand_any b _ wv dv iv X _ h2 hX256).mono ?_
        rintro e w3 ⟨rfl, h3, o3⟩
        go_wp2
        go_ret2
        rw [HE.out] at HO
        rw [Hr.out, HE.out]
        exact ⟨rfl, (H1.out.turns.only o2 H1.out.mine).only o3 H1.out.mine, H1.out.mine, HO.out, wv, dv, iv, h3, (HR.out.only o2).only o3⟩
      · have ed : (((r1.bits : Int) + 1) == 8) = false := beq_eq_false_iff_ne.2 (by omega)
        have HE : Hid (r1.heard x = ({ r1 with x := X, bits := r1.bits + 1 }, 15)) := by
          rw [Hid, ← HX.out]; unfold RSt.heard; rw [if_neg (by rw [es]; decide), if_pos ek, if_neg e8]
        clear e8 hX8
        go_wp2
        go_ret2
        rw [HE.out] at HO
        rw [Hr.out, HE.out]
        exact ⟨rfl, H1.out.turns.only o2 H1.out.mine, H1.out.mine, HO.out, wv, dv, iv, h2, HR.out.only o2⟩
    · rw [ek] at c20
      cases et : r1.taken
      · rw [et] at c19
        have HE : Hid (r1.heard x = (r1, 15)) := by rw [Hid]; unfold RSt.heard; rw [if_neg (by rw [es]; decide), if_neg (by rw [ek]; decide), if_pos et]
        clear hA hR
        go_wp2
        go_ret2
        rw [Hr.out, HE.out]
        exact ⟨rfl, hmore.out⟩
      · rw [et] at c19
        have HE : Hid (r1.heard x = r1.part1 x) := by rw [Hid]; unfold RSt.heard; rw [if_neg (by rw [es]; decide), if_neg (by rw [ek]; decide), if_neg (by rw [et]; decide)]
        have HK : Hid (r1.known = true) := ek
        obtain ⟨q, Hq⟩ := hid_is (r1.part1 x)
        have HP : Hid (Calls Tryz.prog 105 #[.pointer (some ⟨b, 0, none⟩), .int .i64 (x : Int)] W fun e w' => e = .returned (.int .i64 (q.2 : Int)) ∧ RRun F (n + 1) b u w' q.1) := by rw [← Hq.out]; exact rpart_run F n b u W r1 x H1.out HK.out hx hn
        clear hA hR hmore
        go_wp2_with fail
        refine HP.out.mono ?_
        rintro e w3 ⟨rfl, h3⟩
        go_wp2
        go_ret2
        rw [Hr.out, HE.out, Hq.out]
        exact ⟨rfl, h3⟩

set_option maxRecDepth 100000 in
set_option maxHeartbeats 4000000 in
theorem rclock_busy (F : Nat → Prop) (n b : Nat) (u w : World) (r : RSt) (x : Nat) (h : RRun F n b u w r) (hx : x < 16) (hn : n < 1000000) (hb : r.busy = true) (hl : r.left - 1 ≠ 0) :
    Calls Tryz.prog 91 #[.pointer (some ⟨b, 0, none⟩), .int .i64 (x : Int)] w fun e w' => e = .returned (.tuple #[.int .i64 ((r.clock x).2 : Int), .int .i64 0]) ∧ RRun F (n + 1) b u w' (r.clock x).1 := by
  obtain ⟨wv, dv, iv, hA, hR⟩ := h.lies
  have HA : Hid (RAt w b r wv dv iv) := hA
  obtain ⟨r1, Hr1⟩ := hid_is { r with left := r.left - 1 }
  have HC : Hid (r.countDown = r1) := by rw [Hid, ← Hr1.out]; unfold RSt.countDown; rw [if_pos hb, if_neg hl]
  have Hr : Hid (r.clock x = r1.heard x) := by rw [Hid, ← HC.out]; rfl
  have HO : r1.Ok n := by rw [← HC.out]; exact ok_countDown h.ok
  obtain ⟨L, hL⟩ : ∃ L, r.left = L := ⟨_, rfl⟩
  rw [hL] at hl Hr1
  have hL2 := h.ok.left
  rw [hL] at hL2
  have c10 : w.cell? ⟨b, 10, none⟩ = some (.int .i64 (L : Int)) := by rw [← hL]; exact Blk.cell hA 10 rfl
  have f10 := Blk.frozen hA 10
  have hLL : ((L : Int) - 1) = ((L - 1 : Nat) : Int) := by omega
  have h2 : RAt (w.setCell ⟨b, 10, none⟩ (.int .i64 ((L : Int) - 1))) b r1 wv dv iv := by rw [hLL, ← Hr1.out]; exact Blk.set hA 10 _
  have o2 : Only b w (w.setCell ⟨b, 10, none⟩ (.int .i64 ((L : Int) - 1))) := (Only.refl b w).set 10 _
  have H1 : Hid (RRun F n b u (w.setCell ⟨b, 10, none⟩ (.int .i64 ((L : Int) - 1))) r1) := ⟨h.turns.only o2 h.mine, h.mine, HO, wv, dv, iv, h2, by rw [← Hr1.out]; exact hR.only o2⟩
  have HB : Hid (r.busy = true) := hb
  have ed : (((L : Int) - 1) == 0) = false := beq_eq_false_iff_ne.2 (by omega)
  clear hA hR h hb HO h2 o2 hL hLL HC Hr1
  go_enter Tryz.func91, Tryz.ntmps91
  go_wp2_with fail
  refine (rbusy_any b r wv dv iv _ HA.out).mono ?_
  rintro e w' ⟨rfl, rfl⟩
  rw [HB.out]
  clear HA HB wv dv iv
  go_upto_region 7 with fail
  generalize w.setCell ⟨b, 10, none⟩ (.int .i64 ((L : Int) - 1)) = W at H1 ⊢
  clear c10 f10 ed
  obtain ⟨wv, dv, iv, hA, hR⟩ := H1.out.lies
  have c4 : W.cell? ⟨b, 4, none⟩ = some (.bool r1.sel) := Blk.cell hA 4 rfl
  have c20 : W.cell? ⟨b, 20, none⟩ = some (.bool r1.known) := Blk.cell hA 20 rfl
  have c19 : W.cell? ⟨b, 19, none⟩ = some (.bool r1.taken) := Blk.cell hA 19 rfl
  have hmore : Hid (RRun F (n + 1) b u W r1) := ⟨H1.out.turns, H1.out.mine, H1.out.ok.more (Nat.le_succ n), wv, dv, iv, hA, hR⟩
  cases es : r1.sel
  · rw [es] at c4
    have HE : Hid (r1.heard x = (r1, 15)) := if_pos es
    clear hA hR
    go_wp2
    go_ret2
    rw [Hr.out, HE.out]
    exact ⟨rfl, hmore.out⟩
  · rw [es] at c4
    cases ek : r1.known
    · rw [ek] at c20
      have c21 : W.cell? ⟨b, 21, none⟩ = some (.int .i64 (r1.bits : Int)) := Blk.cell hA 21 rfl
      have c22 : W.cell? ⟨b, 22, none⟩ = some (.int .i64 (r1.x : Int)) := Blk.cell hA 22 rfl
      have f21 := Blk.frozen hA 21
      have f22 := Blk.frozen hA 22
      have hb8 : r1.bits < 8 := H1.out.ok.bits8 (.inl ek)
      have hxs : r1.x < 16777216 := x_small H1.out.ok
      have HV : Hid (bits .or .i64 ((r1.x : Int) * 2) (bits .and .i64 (x : Int) 1) = ((r1.x * 2 + x % 2 : Nat) : Int)) := came_one r1.x x (x_small H1.out.ok)
      obtain ⟨X, HX⟩ := hid_is (r1.x * 2 + x % 2)
      rw [HX.out] at HV
      have hX8 : X < 2 ^ (r1.bits + 1) := by rw [← HX.out]; have := shl_lt (l := 1) (x := x) H1.out.ok.x; simpa using this
      have h2 : RAt ((W.setCell ⟨b, 22, none⟩ (.int .i64 (X : Int))).setCell ⟨b, 21, none⟩ (.int .i64 ((r1.bits : Int) + 1))) b { r1 with x := X, bits := r1.bits + 1 } wv dv iv := Blk.set (Blk.set hA 22 _) 21 _
      have o2 : Only b W ((W.setCell ⟨b, 22, none⟩ (.int .i64 (X : Int))).setCell ⟨b, 21, none⟩ (.int .i64 ((r1.bits : Int) + 1))) := ((Only.refl b W).set 22 _).set 21 _
      have HR : Hid (Rows3 F u W b r1.wiped r1.durs r1.inn wv dv iv) := hR
      clear hA hR
      go_upto_region 12 with fail
      rw [HV.out]
      generalize ((W.setCell ⟨b, 22, none⟩ (.int .i64 (X : Int))).setCell ⟨b, 21, none⟩ (.int .i64 ((r1.bits : Int) + 1))) = W2 at h2 o2 ⊢
      clear c4 c20 c19 c21 c22 f21 f22 HV
      have c21 : W2.cell? ⟨b, 21, none⟩ = some (.int .i64 ((r1.bits : Int) + 1)) := Blk.cell h2 21 rfl
      have c22 : W2.cell? ⟨b, 22, none⟩ = some (.int .i64 (X : Int)) := Blk.cell h2 22 rfl
      have HO : Hid ((r1.heard x).1.Ok (n + 1)) := ok_heard H1.out.ok x
      by_cases e8 : r1.bits + 1 = 8
      · have ed : (((r1.bits : Int) + 1) == 8) = true := beq_iff_eq.2 (by omega)
        have HE : Hid (r1.heard x = (RSt.command { r1 with x := X, bits := r1.bits + 1 } X, 15)) := by
          rw [Hid, ← HX.out]; unfold RSt.heard; rw [if_neg (by rw [es]; decide), if_pos ek, if_pos e8]
        have hX256 : X < 256 := by rw [e8] at hX8; exact hX8
        clear e8 hX8
        go_wp2_with fail
        refine (rcommand_any b _ wv dv iv X _ h2 hX256).mono ?_
        rintro e w3 ⟨rfl, h3, o3⟩
        go_wp2
        go_ret2
        rw [HE.out] at HO
        rw [Hr.out, HE.out]
        exact ⟨rfl, (H1.out.turns.only o2 H1.out.mine).only o3 H1.out.mine, H1.out.mine, HO.out, wv, dv, iv, h3, (HR.out.only o2).only o3⟩
      · have ed : (((r1.bits : Int) + 1) == 8) = false := beq_eq_false_iff_ne.2 (by omega)
        have HE : Hid (r1.heard x = ({ r1 with x := X, bits := r1.bits + 1 }, 15)) := by
          rw [Hid, ← HX.out]; unfold RSt.heard; rw [if_neg (by rw [es]; decide), if_pos ek, if_neg e8]
        clear e8 hX8
        go_wp2
        go_ret2
        rw [HE.out] at HO
        rw [Hr.out, HE.out]
        exact ⟨rfl, H1.out.turns.only o2 H1.out.mine, H1.out.mine, HO.out, wv, dv, iv, h2, HR.out.only o2⟩
    · rw [ek] at c20
      cases et : r1.taken
      · rw [et] at c19
        have HE : Hid (r1.heard x = (r1, 15)) := by rw [Hid]; unfold RSt.heard; rw [if_neg (by rw [es]; decide), if_neg (by rw [ek]; decide), if_pos et]
        clear hA hR
        go_wp2
        go_ret2
        rw [Hr.out, HE.out]
        exact ⟨rfl, hmore.out⟩
      · rw [et] at c19
        have HE : Hid (r1.heard x = r1.part1 x) := by rw [Hid]; unfold RSt.heard; rw [if_neg (by rw [es]; decide), if_neg (by rw [ek]; decide), if_neg (by rw [et]; decide)]
        have HK : Hid (r1.known = true) := ek
        obtain ⟨q, Hq⟩ := hid_is (r1.part1 x)
        have HP : Hid (Calls Tryz.prog 105 #[.pointer (some ⟨b, 0, none⟩), .int .i64 (x : Int)] W fun e w' => e = .returned (.int .i64 (q.2 : Int)) ∧ RRun F (n + 1) b u w' q.1) := by rw [← Hq.out]; exact rpart_run F n b u W r1 x H1.out HK.out hx hn
        clear hA hR hmore
        go_wp2_with fail
        refine HP.out.mono ?_
        rintro e w3 ⟨rfl, h3⟩
        go_wp2
        go_ret2
        rw [Hr.out, HE.out, Hq.out]
        exact ⟨rfl, h3⟩

set_option maxRecDepth 100000 in
set_option maxHeartbeats 4000000 in
theorem rclock_last (F : Nat → Prop) (n b : Nat) (u w : World) (r : RSt) (x : Nat) (h : RRun F n b u w r) (hx : x < 16) (hn : n < 1000000) (hb : r.busy = true) (hl : r.left - 1 = 0) :
    Calls Tryz.prog 91 #[.pointer (some ⟨b, 0, none⟩), .int .i64 (x : Int)] w fun e w' => e = .returned (.tuple #[.int .i64 ((r.clock x).2 : Int), .int .i64 0]) ∧ RRun F (n + 1) b u w' (r.clock x).1 := by
  obtain ⟨wv, dv, iv, hA, hR⟩ := h.lies
  have HA : Hid (RAt w b r wv dv iv) := hA
  have hk0 : r.kind ≠ 0 := by intro e; unfold RSt.busy at hb; rw [e] at hb; simp at hb
  have hg := h.ok.going hk0
  have hk : r.kind = 2 ∨ r.kind = 32 := by have := h.ok.kind; omega
  have hl1 : r.left = 1 := by omega
  obtain ⟨r1, Hr1⟩ := hid_is (RSt.done { r with left := 0 })
  have HC : Hid (r.countDown = r1) := by rw [Hid, ← Hr1.out]; unfold RSt.countDown; rw [if_pos hb, if_pos hl, hl]
  have Hr : Hid (r.clock x = r1.heard x) := by rw [Hid, ← HC.out]; rfl
  have HO : Hid (r1.Ok n) := by rw [← HC.out]; exact ok_countDown h.ok
  have c10 : w.cell? ⟨b, 10, none⟩ = some (.int .i64 1) := by rw [Blk.cell hA 10 rfl, hl1]; rfl
  have f10 := Blk.frozen hA 10
  have h2 : RAt (w.setCell ⟨b, 10, none⟩ (.int .i64 0)) b { r with left := 0 } wv dv iv := Blk.set hA 10 _
  have o2 : Only b w (w.setCell ⟨b, 10, none⟩ (.int .i64 0)) := (Only.refl b w).set 10 _
  have HB : Hid (r.busy = true) := hb
  have HD : Hid (∀ v : World, RAt v b { r with left := 0 } wv dv iv → Calls Tryz.prog 104 #[.pointer (some ⟨b, 0, none⟩)] v fun e w' => e = .returned (.tuple #[]) ∧ RAt w' b r1 wv dv iv ∧ Only b v w') := fun v hv => by rw [← Hr1.out]; exact rdone_any b _ wv dv iv v hv h.ok.A h.ok.wat h.ok.wdata hk
  have HF : Hid (∀ v w' : World, Only b w v → RAt w' b r1 wv dv iv → Only b v w' → RRun F n b u w' r1) := fun v w' q1 q2 q3 => ⟨(h.turns.only q1 h.mine).only q3 h.mine, h.mine, HO.out, wv, dv, iv, q2, by rw [← Hr1.out]; exact (hR.only q1).only q3⟩
  clear hA hR h hb HC Hr1 hk0 hg hk hl hl1
  go_enter Tryz.func91, Tryz.ntmps91
  go_wp2_with fail
  refine (rbusy_any b r wv dv iv _ HA.out).mono ?_
  rintro e w' ⟨rfl, rfl⟩
  rw [HB.out]
  go_wp2_with fail
  refine (HD.out _ h2).mono ?_
  rintro e W ⟨rfl, h3, o3⟩
  have H1 : Hid (RRun F n b u W r1) := HF.out _ W o2 h3 o3
  clear HA HB HD HF h2 o2 h3 o3 c10 f10 wv dv iv
  go_upto_region 7 with fail
  obtain ⟨wv, dv, iv, hA, hR⟩ := H1.out.lies
  have c4 : W.cell? ⟨b, 4, none⟩ = some (.bool r1.sel) := Blk.cell hA 4 rfl
  have c20 : W.cell? ⟨b, 20, none⟩ = some (.bool r1.known) := Blk.cell hA 20 rfl
  have c19 : W.cell? ⟨b, 19, none⟩ = some (.bool r1.taken) := Blk.cell hA 19 rfl
  have hmore : Hid (RRun F (n + 1) b u W r1) := ⟨H1.out.turns, H1.out.mine, H1.out.ok.more (Nat.le_succ n), wv, dv, iv, hA, hR⟩
  cases es : r1.sel
  · rw [es] at c4
    have HE : Hid (r1.heard x = (r1, 15)) := if_pos es
    clear hA hR
    go_wp2
    go_ret2
    rw [Hr.out, HE.out]
    exact ⟨rfl, hmore.out⟩
  · rw [es] at c4
    cases ek : r1.known
    · rw [ek] at c20
      have c21 : W.cell? ⟨b, 21, none⟩ = some (.int .i64 (r1.bits : Int)) := Blk.cell hA 21 rfl
      have c22 : W.cell? ⟨b, 22, none⟩ = some (.int .i64 (r1.x : Int)) := Blk.cell hA 22 rfl
      have f21 := Blk.frozen hA 21
      have f22 := Blk.frozen hA 22
      have hb8 : r1.bits < 8 := H1.out.ok.bits8 (.inl ek)
      have hxs : r1.x < 16777216 := x_small H1.out.ok
      have HV : Hid (bits .or .i64 ((r1.x : Int) * 2) (bits .and .i64 (x : Int) 1) = ((r1.x * 2 + x % 2 : Nat) : Int)) := came_one r1.x x (x_small H1.out.ok)
      obtain ⟨X, HX⟩ := hid_is (r1.x * 2 + x % 2)
      rw [HX.out] at HV
      have hX8 : X < 2 ^ (r1.bits + 1) := by rw [← HX.out]; have := shl_lt (l := 1) (x := x) H1.out.ok.x; simpa using this
      have h2 : RAt ((W.setCell ⟨b, 22, none⟩ (.int .i64 (X : Int))).setCell ⟨b, 21, none⟩ (.int .i64 ((r1.bits : Int) + 1))) b { r1 with x := X, bits := r1.bits + 1 } wv dv iv := Blk.set (Blk.set hA 22 _) 21 _
      have o2 : Only b W ((W.setCell ⟨b, 22, none⟩ (.int .i64 (X : Int))).setCell ⟨b, 21, none⟩ (.int .i64 ((r1.bits : Int) + 1))) := ((Only.refl b W).set 22 _).set 21 _
      have HR : Hid (Rows3 F u W b r1.wiped r1.durs r1.inn wv dv iv) := hR
      clear hA hR
      go_upto_region 12 with fail
      rw [HV.out]
      generalize ((W.setCell ⟨b, 22, none⟩ (.int .i64 (X : Int))).setCell ⟨b, 21, none⟩ (.int .i64 ((r1.bits : Int) + 1))) = W2 at h2 o2 ⊢
      clear c4 c20 c19 c21 c22 f21 f22 HV
      have c21 : W2.cell? ⟨b, 21, none⟩ = some (.int .i64 ((r1.bits : Int) + 1)) := Blk.cell h2 21 rfl
      have c22 : W2.cell? ⟨b, 22, none⟩ = some (.int .i64 (X : Int)) := Blk.cell h2 22 rfl
      have HO : Hid ((r1.heard x).1.Ok (n + 1)) := ok_heard H1.out.ok x
      by_cases e8 : r1.bits + 1 = 8
      · have ed : (((r1.bits : Int) + 1) == 8) = true := beq_iff_eq.2 (by omega)
        have HE : Hid (r1.heard x = (RSt.command { r1 with x := X, bits := r1.bits + 1 } X, 15)) := by
          rw [Hid, ← HX.out]; unfold RSt.heard; rw [if_neg (by rw [es]; decide), if_pos ek, if_pos e8]
        have hX256 : X < 256 := by rw [e8] at hX8; exact hX8
        clear e8 hX8
        go_wp2_with fail
        refine (rcommand_any b _ wv dv iv X _ h2 hX256).mono ?_
        rintro e w3 ⟨rfl, h3, o3⟩
        go_wp2
        go_ret2
        rw [HE.out] at HO
        rw [Hr.out, HE.out]
        exact ⟨rfl, (H1.out.turns.only o2 H1.out.mine).only o3 H1.out.mine, H1.out.mine, HO.out, wv, dv, iv, h3, (HR.out.only o2).only o3⟩
      · have ed : (((r1.bits : Int) + 1) == 8) = false := beq_eq_false_iff_ne.2 (by omega)
        have HE : Hid (r1.heard x = ({ r1 with x := X, bits := r1.bits + 1 }, 15)) := by
          rw [Hid, ← HX.out]; unfold RSt.heard; rw [if_neg (by rw [es]; decide), if_pos ek, if_neg e8]
        clear e8 hX8
        go_wp2
        go_ret2
        rw [HE.out] at HO
        rw [Hr.out, HE.out]
        exact ⟨rfl, H1.out.turns.only o2 H1.out.mine, H1.out.mine, HO.out, wv, dv, iv, h2, HR.out.only o2⟩
    · rw [ek] at c20
      cases et : r1.taken
      · rw [et] at c19
        have HE : Hid (r1.heard x = (r1, 15)) := by rw [Hid]; unfold RSt.heard; rw [if_neg (by rw [es]; decide), if_neg (by rw [ek]; decide), if_pos et]
        clear hA hR
        go_wp2
        go_ret2
        rw [Hr.out, HE.out]
        exact ⟨rfl, hmore.out⟩
      · rw [et] at c19
        have HE : Hid (r1.heard x = r1.part1 x) := by rw [Hid]; unfold RSt.heard; rw [if_neg (by rw [es]; decide), if_neg (by rw [ek]; decide), if_neg (by rw [et]; decide)]
        have HK : Hid (r1.known = true) := ek
        obtain ⟨q, Hq⟩ := hid_is (r1.part1 x)
        have HP : Hid (Calls Tryz.prog 105 #[.pointer (some ⟨b, 0, none⟩), .int .i64 (x : Int)] W fun e w' => e = .returned (.int .i64 (q.2 : Int)) ∧ RRun F (n + 1) b u w' q.1) := by rw [← Hq.out]; exact rpart_run F n b u W r1 x H1.out HK.out hx hn
        clear hA hR hmore
        go_wp2_with fail
        refine HP.out.mono ?_
        rintro e w3 ⟨rfl, h3⟩
        go_wp2
        go_ret2
        rw [Hr.out, HE.out, Hq.out]
        exact ⟨rfl, h3⟩

theorem rclock_run (F : Nat → Prop) (n b : Nat) (u w : World) (r : RSt) (x : Nat) (h : RRun F n b u w r) (hx : x < 16) (hn : n < 1000000) :
    Calls Tryz.prog 91 #[.pointer (some ⟨b, 0, none⟩), .int .i64 (x : Int)] w fun e w' => e = .returned (.tuple #[.int .i64 ((r.clock x).2 : Int), .int .i64 0]) ∧ RRun F (n + 1) b u w' (r.clock x).1 := by
  cases hb : r.busy
  · exact rclock_idle F n b u w r x h hx hn hb
  · by_cases hl : r.left - 1 = 0
    · exact rclock_last F n b u w r x h hx hn hb hl
    · exact rclock_busy F n b u w r x h hx hn hb hl
end Go.Proofs.YtlemmabgbaleiaaGreat
