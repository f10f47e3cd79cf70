/-
  A program or an erase begins; the durations that come; the status is put: each by a contract. Conditions: the chip lies in memory as told and is one that may be.
-/
import Derived.Test.YtjhjghakfedeeaaGreatClock
namespace Go.Proofs.YtjhjghakfedeeaaGreat
open Go.RowKit Plain
set_option linter.unusedVariables false

set_option maxRecDepth 100000 in
set_option maxHeartbeats 1600000 in
theorem takeDuration_any (b : Nat) (s : St) (ds : Value) (w : World) (h : At w b s ds) (hd : Durs w b ds s.durs) :
    Calls Tryz.prog 154 #[.pointer (some ⟨b, 0, none⟩)] w fun e w' => e = .returned (.int .i64 (s.durs.headD 8)) ∧ ∃ ds', At w' b { s with durs := s.durs.tail } ds' ∧ Durs w' b ds' s.durs.tail ∧ Only b w w' ∧ ds'.ownBlock = ds.ownBlock := by
  obtain ⟨⟨a, cap, rfl, hr⟩, hd2, hd3⟩ := hd
  have c19 : w.cell? ⟨b, 19, none⟩ = some (.slice a s.durs.length cap) := Blk.cell h 19 rfl
  have f19 := Blk.frozen h 19
  cases hL : s.durs with
  | nil =>
    rw [hL] at c19
    simp at c19
    go_enter Tryz.func154, Tryz.ntmps154
    go_wp2
    go_ret
    refine ⟨rfl, _, h, ?_, Only.refl b w, by cases a <;> rfl⟩
    rw [hL]
    exact ⟨⟨a, cap, rfl, fun h => absurd h (by simp)⟩, fun _ _ _ _ _ h => absurd h (by simp), fun a n c e => by cases e; exact Nat.zero_le _⟩
  | cons d r =>
    rw [hL] at hr hd2 hd3 h
    obtain ⟨g, o, rfl, hc⟩ := hr (by simp)
    have hg := hd2 g o _ _ rfl (by simp)
    have c0 : w.cell? ⟨g, o, none⟩ = some (.int .i64 d) := hc 0 (by simp)
    have hcap : r.length + 1 ≤ cap := hd3 _ _ _ rfl
    rw [hL] at c19
    have c19' : w.cell? ⟨b, 19, none⟩ = some (.slice (some ⟨g, o, none⟩) (r.length + 1) cap) := c19
    clear c19 hr hd2 hd3 hL
    by_cases hc1 : cap = 1
    · subst hc1
      have hr0 : r = [] := List.eq_nil_of_length_eq_zero (by omega)
      subst hr0
      have hA : At (w.setCell ⟨b, 19, none⟩ (.slice (some ⟨g, o, none⟩) 0 0)) b { s with durs := [] } (.slice (some ⟨g, o, none⟩) 0 0) := Blk.set h 19 _
      clear hc
      go_enter Tryz.func154, Tryz.ntmps154
      go_wp2
      go_ret
      refine ⟨rfl, _, hA, ⟨⟨_, _, rfl, fun h => absurd h (by simp)⟩, fun _ _ _ _ _ h => absurd h (by simp), fun a n c e => by cases e; exact Nat.zero_le _⟩, (Only.refl b w).set 19 _, rfl⟩
    · have hA : At (w.setCell ⟨b, 19, none⟩ (.slice (some ⟨g, o + 1, none⟩) r.length (cap - 1))) b { s with durs := r } (.slice (some ⟨g, o + 1, none⟩) r.length (cap - 1)) := Blk.set h 19 _
      have Hc : Hid (∀ j, j < (d :: r).length → w.cell? ⟨g, o + j, none⟩ = some (.int .i64 ((d :: r).getD j 0))) := hc
      clear hc
      go_enter Tryz.func154, Tryz.ntmps154
      go_wp2
      go_ret
      refine ⟨rfl, _, hA, ⟨⟨_, _, rfl, fun h => ⟨g, o + 1, rfl, fun j hj => ?_⟩⟩, fun g' o' n' c' e _ => by cases e; exact hg, fun a n c e => by cases e; omega⟩, (Only.refl b w).set 19 _, rfl⟩
      rw [World.cell?_setCell_other _ _ _ _ (fun e => hg (congrArg Addr.block e).symm), show o + 1 + j = o + (j + 1) by omega]
      exact Hc.out (j + 1) (by simp; exact hj)

theorem At.wipe {w : World} {b : Nat} {s : St} {ds : Value} (h : At w b s ds) (j : Nat) (hj : j < 8) : w.cell? ⟨b, 3 + j, none⟩ = some (.int .i64 (s.wipes j)) := by
  rcases (by omega : j = 0 ∨ j = 1 ∨ j = 2 ∨ j = 3 ∨ j = 4 ∨ j = 5 ∨ j = 6 ∨ j = 7) with rfl | rfl | rfl | rfl | rfl | rfl | rfl | rfl <;> exact Blk.cell h _ rfl
theorem set_wipe (s : St) (ds : Value) (j : Nat) (hj : j < 8) (x : Int) : (chipCells s ds).set (3 + j) (.int .i64 x) = chipCells { s with wipes := fun i => if i = j then x else s.wipes i } ds := by
  rcases (by omega : j = 0 ∨ j = 1 ∨ j = 2 ∨ j = 3 ∨ j = 4 ∨ j = 5 ∨ j = 6 ∨ j = 7) with rfl | rfl | rfl | rfl | rfl | rfl | rfl | rfl <;> simp [chipCells, powCells, cmdCells]
theorem At.setWipe {w : World} {b : Nat} {s : St} {ds : Value} (h : At w b s ds) (j : Nat) (hj : j < 8) (x : Int) : At (w.setCell ⟨b, 3 + j, none⟩ (.int .i64 x)) b { s with wipes := fun i => if i = j then x else s.wipes i } ds := by
  have h1 := Blk.set h (3 + j) (.int .i64 x)
  rw [set_wipe s ds j hj x] at h1
  exact h1
theorem Only.setNew {b : Nat} {u v : World} (h : Only b u v) (c i : Nat) (x : Value) (hc : u.heap.size ≤ c) : Only b u (v.setCell ⟨c, i, none⟩ x) :=
  ⟨h.os, h.tape, h.output, by simpa using h.size, fun j hj hb => by rw [Below.heap_setCell _ _ _ _ (by show j ≠ c; omega)]; exact h.block j hj hb⟩
theorem Durs.elsewhere {w : World} {b c i : Nat} {ds x : Value} {L : List Int} (h : Durs w b ds L) (hc : ∀ g, ds.ownBlock = some g → 0 < L.length → g ≠ c) : Durs (w.setCell ⟨c, i, none⟩ x) b ds L := by
  refine ⟨?_, h.2⟩
  obtain ⟨a, cap, rfl, hr⟩ := h.1
  refine ⟨a, cap, rfl, fun h0 => ?_⟩
  obtain ⟨g, o, rfl, hcell⟩ := hr h0
  refine ⟨g, o, rfl, fun j hj => ?_⟩
  rw [World.cell?_setCell_other _ _ _ _ (fun e => hc g rfl h0 (congrArg Addr.block e).symm)]
  exact hcell j hj
theorem Durs.old {w : World} {b : Nat} {ds : Value} {L : List Int} (h : Durs w b ds L) : ∀ g, ds.ownBlock = some g → 0 < L.length → g < w.heap.size := by
  intro g hg h0
  obtain ⟨a, cap, rfl, hr⟩ := h.1
  obtain ⟨g', o, rfl, hcell⟩ := hr h0
  cases hg
  exact cell_lt (hcell 0 h0)
theorem pB_is (p : Bool) (a : Nat) : pB p (a : Int) = (p && decide (a < 2048)) := by
  unfold pB
  rw [show decide (0 ≤ (a : Int) ∧ (a : Int) < 2048) = decide (a < 2048) from decide_eq_decide.mpr (by omega)]
theorem wipe_at (f : Nat → Int) (j : Nat) : (fun i => if i = j then wrap64 (f i + 1) else f i) = fun i => if i = j then wrap64 (f j + 1) else f i := funext fun i => by
  by_cases e : i = j
  · rw [if_pos e, if_pos e, e]
  · rw [if_neg e, if_neg e]

set_option maxRecDepth 100000 in
set_option maxHeartbeats 1600000 in
theorem begin_any (n b : Nat) (s : St) (ds : Value) (er : Bool) (a : Nat) (d : ByteArray) (w : World) (h : At w b s ds) (hd : Durs w b ds s.durs) (hs : s.Ok n) (ha : a < 4096) :
    Calls Tryz.prog 133 #[.pointer (some ⟨b, 0, none⟩), .agg #[.int .i64 0, .bool er, .int .i64 (a : Int), .string d]] w fun e w' => e = .returned (.tuple #[]) ∧ ∃ ds', At w' b (s.begin er a d) ds' ∧ Durs w' b ds' (s.begin er a d).durs ∧ Only b w w' ∧ ds'.ownBlock = ds.ownBlock := by
  have hlt := Blk.lt h
  have h0 : At (w.alloc (.cells #[.int .i64 0, .bool er, .int .i64 (a : Int), .string d] 123)) b s ds := Blk.alloc h _
  have o0 : Only b w (w.alloc (.cells #[.int .i64 0, .bool er, .int .i64 (a : Int), .string d] 123)) := (Only.refl b w).alloc _
  have d0 := hd.only o0
  have g0 : Blk (w.alloc (.cells #[.int .i64 0, .bool er, .int .i64 (a : Int), .string d] 123)) w.heap.size 123 [.int .i64 0, .bool er, .int .i64 (a : Int), .string d] := Blk.new _ _ _ _ rfl
  have hne : w.heap.size ≠ b := by omega
  have c16 : (w.alloc (.cells #[.int .i64 0, .bool er, .int .i64 (a : Int), .string d] 123)).cell? ⟨b, 16, none⟩ = some (.bool s.en) := Blk.cell h0 16 rfl
  have c1 : (w.alloc (.cells #[.int .i64 0, .bool er, .int .i64 (a : Int), .string d] 123)).cell? ⟨b, 1, none⟩ = some (.bool s.prot) := Blk.cell h0 1 rfl
  have f16 := Blk.frozen h0 16
  have H0 : Hid (At (w.alloc (.cells #[.int .i64 0, .bool er, .int .i64 (a : Int), .string d] 123)) b s ds) := h0
  have D0 : Hid (Durs (w.alloc (.cells #[.int .i64 0, .bool er, .int .i64 (a : Int), .string d] 123)) b ds s.durs) := d0
  have G0 : Hid (Blk (w.alloc (.cells #[.int .i64 0, .bool er, .int .i64 (a : Int), .string d] 123)) w.heap.size 123 [.int .i64 0, .bool er, .int .i64 (a : Int), .string d]) := g0
  clear h0 d0 g0
  cases he : s.en with
  | false =>
    have HE : Hid (s.begin er a d = s) := by show _ = _; unfold St.begin; rw [if_pos he]
    rw [he] at c16
    go_enter Tryz.func133, Tryz.ntmps133
    go_wp2
    first | go_end0 | refine bodyPost_ret (results_none rfl _ _ _) rfl ?_
    rw [HE.out]
    exact ⟨rfl, ds, H0.out, D0.out, o0, rfl⟩
  | true =>
    rw [he] at c16
    cases hp : (s.prot && decide (a < 2048)) with
    | true =>
      have HE : Hid (s.begin er a d = { s with en := false }) := by show _ = _; unfold St.begin; rw [if_neg (by rw [he]; decide), if_pos hp]
      go_enter Tryz.func133, Tryz.ntmps133
      go_wp2_with fail
      generalize hW : (w.alloc (.cells #[.int .i64 0, .bool er, .int .i64 (a : Int), .string d] 123)) = W at *
      have ca : W.cell? ⟨w.heap.size, 2, none⟩ = some (.int .i64 (a : Int)) := Blk.cell G0.out 2 rfl
      clear hW
      go_region_with (go_at_call 153; refine (prot_any _ _ _).mono ?_; rintro e w' ⟨rfl, rfl⟩; rw [pB_is, hp])
      all_goals (
        go_wp2
        first | go_end0 | refine bodyPost_ret (results_none rfl _ _ _) rfl ?_
        rw [HE.out]
        exact ⟨rfl, ds, Blk.drew (Blk.set H0.out 16 _), D0.out.only (((Only.refl b W).set 16 _).drew), (o0.set 16 _).drew, rfl⟩)
    | false =>
      obtain ⟨l, Hl, hl⟩ : ∃ l : Nat, Hid (s.durs.headD 8 = (l : Int)) ∧ l ≤ 400 := by
        cases hL : s.durs with
        | nil => exact ⟨8, rfl, by decide⟩
        | cons x r =>
          have := hs.durs x (by rw [hL]; simp)
          exact ⟨x.toNat, by show x = _; omega, by omega⟩
      have Hdo : Hid (∀ g, ds.ownBlock = some g → 0 < s.durs.tail.length → g ≠ w.heap.size) := fun g hg h0 => by
        have h1 := hd.old g hg (by rw [List.length_tail] at h0; omega)
        omega
      cases er with
      | true =>
        have HE : Hid (s.begin true a d = { s with left := l, durs := s.durs.tail, erases := true, wat := a, wdata := d, wipes := fun i => if i = a / 512 then wrap64 (s.wipes (a / 512) + 1) else s.wipes i }) := by
          show _ = _; rw [← wipe_at]; unfold St.begin; rw [if_neg (by rw [he]; decide), if_neg (by rw [hp]; decide), Hl.out]; rfl
        go_enter Tryz.func133, Tryz.ntmps133
        go_wp2_with fail
        generalize hW : (w.alloc (.cells #[.int .i64 0, .bool true, .int .i64 (a : Int), .string d] 123)) = W at *
        have ca : W.cell? ⟨w.heap.size, 2, none⟩ = some (.int .i64 (a : Int)) := Blk.cell G0.out 2 rfl
        clear hW
        go_region_with (go_at_call 153; refine (prot_any _ _ _).mono ?_; rintro e w' ⟨rfl, rfl⟩; rw [pB_is, hp])
        all_goals (
          go_wp2_with (go_at_call 154; refine (takeDuration_any b s ds _ (Blk.drew H0.out) (D0.out.only (Only.refl b W).drew)).mono ?_; rintro e w1 ⟨rfl, ds1, h1, d1, o1, k1⟩; rw [Hl.out]; (have g1 : Blk w1 w.heap.size 123 [.int .i64 0, .bool true, .int .i64 (a : Int), .string d] := o1.blk (Blk.drew G0.out) hne); (have b0 : w1.cell? ⟨w.heap.size, 0, none⟩ = some (.int .i64 0) := Blk.cell g1 0 rfl); (have b1 : w1.cell? ⟨w.heap.size, 1, none⟩ = some (.bool true) := Blk.cell g1 1 rfl); (have b2 : w1.cell? ⟨w.heap.size, 2, none⟩ = some (.int .i64 (a : Int)) := Blk.cell g1 2 rfl); (have b3 : w1.cell? ⟨w.heap.size, 3, none⟩ = some (.string d) := Blk.cell g1 3 rfl); (have z0 := Blk.frozen g1 0); (have q20 : w1.cell? ⟨b, 20, none⟩ = some (.int .i64 (s.left : Int)) := Blk.cell h1 20 rfl); (have q21 : w1.cell? ⟨b, 21, none⟩ = some (.bool s.erases) := Blk.cell h1 21 rfl); (have q22 : w1.cell? ⟨b, 22, none⟩ = some (.int .i64 (s.wat : Int)) := Blk.cell h1 22 rfl); (have q23 : w1.cell? ⟨b, 23, none⟩ = some (.string s.wdata) := Blk.cell h1 23 rfl); (have y20 := Blk.frozen h1 20); (have y21 := Blk.frozen h1 21); (have y22 := Blk.frozen h1 22); (have y23 := Blk.frozen h1 23))
          have h2 : At (((((w1.setCell ⟨w.heap.size, 0, none⟩ (.int .i64 (l : Int))).setCell ⟨b, 20, none⟩ (.int .i64 (l : Int))).setCell ⟨b, 21, none⟩ (.bool true)).setCell ⟨b, 22, none⟩ (.int .i64 (a : Int))).setCell ⟨b, 23, none⟩ (.string d)) b { s with left := l, durs := s.durs.tail, erases := true, wat := a, wdata := d } ds1 := Blk.set (Blk.set (Blk.set (Blk.set (Blk.other h1 _ _ _ hne) 20 _) 21 _) 22 _) 23 _
          have o2 : Only b w (((((w1.setCell ⟨w.heap.size, 0, none⟩ (.int .i64 (l : Int))).setCell ⟨b, 20, none⟩ (.int .i64 (l : Int))).setCell ⟨b, 21, none⟩ (.bool true)).setCell ⟨b, 22, none⟩ (.int .i64 (a : Int))).setCell ⟨b, 23, none⟩ (.string d)) := (((((o0.drew.trans o1).setNew _ _ _ (Nat.le_refl _)).set 20 _).set 21 _).set 22 _).set 23 _
          have d2 : Durs (((((w1.setCell ⟨w.heap.size, 0, none⟩ (.int .i64 (l : Int))).setCell ⟨b, 20, none⟩ (.int .i64 (l : Int))).setCell ⟨b, 21, none⟩ (.bool true)).setCell ⟨b, 22, none⟩ (.int .i64 (a : Int))).setCell ⟨b, 23, none⟩ (.string d)) b ds1 s.durs.tail := (d1.elsewhere (fun g hg => Hdo.out g (k1 ▸ hg))).only (((((Only.refl b _).set 20 _).set 21 _).set 22 _).set 23 _)
          have r2 : (((((w1.setCell ⟨w.heap.size, 0, none⟩ (.int .i64 (l : Int))).setCell ⟨b, 20, none⟩ (.int .i64 (l : Int))).setCell ⟨b, 21, none⟩ (.bool true)).setCell ⟨b, 22, none⟩ (.int .i64 (a : Int))).setCell ⟨b, 23, none⟩ (.string d)).cell? ⟨w.heap.size, 2, none⟩ = some (.int .i64 (a : Int)) := by
            rw [World.cell?_setCell_other _ _ _ _ (fun e => hne (congrArg Addr.block e).symm), World.cell?_setCell_other _ _ _ _ (fun e => hne (congrArg Addr.block e).symm), World.cell?_setCell_other _ _ _ _ (fun e => hne (congrArg Addr.block e).symm), World.cell?_setCell_other _ _ _ _ (fun e => hne (congrArg Addr.block e).symm), World.cell?_setCell_other _ _ _ _ (by simp)]; exact b2
          generalize (((((w1.setCell ⟨w.heap.size, 0, none⟩ (.int .i64 (l : Int))).setCell ⟨b, 20, none⟩ (.int .i64 (l : Int))).setCell ⟨b, 21, none⟩ (.bool true)).setCell ⟨b, 22, none⟩ (.int .i64 (a : Int))).setCell ⟨b, 23, none⟩ (.string d)) = W2 at h2 o2 d2 r2 ⊢
          clear b0 b1 b2 b3 z0 q20 q21 q22 q23 y20 y21 y22 y23 g1 h1 d1 o1
          have hj : a / 512 < 8 := by omega
          have cw := h2.wipe (a / 512) hj
          have fw := Blk.frozen h2 (3 + a / 512)
          have cw' : W2.cell? ⟨b, 3 + a / 512, none⟩ = some (.int .i64 (s.wipes (a / 512))) := cw
          clear cw
          go_region
          first | go_end0 | refine bodyPost_ret (results_none rfl _ _ _) rfl ?_
          rw [HE.out]
          exact ⟨rfl, ds1, Blk.drew (h2.setWipe _ hj _), d2.only ((Only.refl b W2).set _ _).drew, (o2.set _ _).drew, k1⟩)
      | false =>
        have HE : Hid (s.begin false a d = { s with left := l, durs := s.durs.tail, erases := false, wat := a, wdata := d }) := by
          show _ = _; unfold St.begin; rw [if_neg (by rw [he]; decide), if_neg (by rw [hp]; decide), Hl.out]; rfl
        go_enter Tryz.func133, Tryz.ntmps133
        go_wp2_with fail
        generalize hW : (w.alloc (.cells #[.int .i64 0, .bool false, .int .i64 (a : Int), .string d] 123)) = W at *
        have ca : W.cell? ⟨w.heap.size, 2, none⟩ = some (.int .i64 (a : Int)) := Blk.cell G0.out 2 rfl
        clear hW
        go_region_with (go_at_call 153; refine (prot_any _ _ _).mono ?_; rintro e w' ⟨rfl, rfl⟩; rw [pB_is, hp])
        all_goals (
          go_wp2_with (go_at_call 154; refine (takeDuration_any b s ds _ (Blk.drew H0.out) (D0.out.only (Only.refl b W).drew)).mono ?_; rintro e w1 ⟨rfl, ds1, h1, d1, o1, k1⟩; rw [Hl.out]; (have g1 : Blk w1 w.heap.size 123 [.int .i64 0, .bool false, .int .i64 (a : Int), .string d] := o1.blk (Blk.drew G0.out) hne); (have b0 : w1.cell? ⟨w.heap.size, 0, none⟩ = some (.int .i64 0) := Blk.cell g1 0 rfl); (have b1 : w1.cell? ⟨w.heap.size, 1, none⟩ = some (.bool false) := Blk.cell g1 1 rfl); (have b2 : w1.cell? ⟨w.heap.size, 2, none⟩ = some (.int .i64 (a : Int)) := Blk.cell g1 2 rfl); (have b3 : w1.cell? ⟨w.heap.size, 3, none⟩ = some (.string d) := Blk.cell g1 3 rfl); (have z0 := Blk.frozen g1 0); (have q20 : w1.cell? ⟨b, 20, none⟩ = some (.int .i64 (s.left : Int)) := Blk.cell h1 20 rfl); (have q21 : w1.cell? ⟨b, 21, none⟩ = some (.bool s.erases) := Blk.cell h1 21 rfl); (have q22 : w1.cell? ⟨b, 22, none⟩ = some (.int .i64 (s.wat : Int)) := Blk.cell h1 22 rfl); (have q23 : w1.cell? ⟨b, 23, none⟩ = some (.string s.wdata) := Blk.cell h1 23 rfl); (have y20 := Blk.frozen h1 20); (have y21 := Blk.frozen h1 21); (have y22 := Blk.frozen h1 22); (have y23 := Blk.frozen h1 23))
          have h2 : At (((((w1.setCell ⟨w.heap.size, 0, none⟩ (.int .i64 (l : Int))).setCell ⟨b, 20, none⟩ (.int .i64 (l : Int))).setCell ⟨b, 21, none⟩ (.bool false)).setCell ⟨b, 22, none⟩ (.int .i64 (a : Int))).setCell ⟨b, 23, none⟩ (.string d)) b { s with left := l, durs := s.durs.tail, erases := false, wat := a, wdata := d } ds1 := Blk.set (Blk.set (Blk.set (Blk.set (Blk.other h1 _ _ _ hne) 20 _) 21 _) 22 _) 23 _
          have o2 : Only b w (((((w1.setCell ⟨w.heap.size, 0, none⟩ (.int .i64 (l : Int))).setCell ⟨b, 20, none⟩ (.int .i64 (l : Int))).setCell ⟨b, 21, none⟩ (.bool false)).setCell ⟨b, 22, none⟩ (.int .i64 (a : Int))).setCell ⟨b, 23, none⟩ (.string d)) := (((((o0.drew.trans o1).setNew _ _ _ (Nat.le_refl _)).set 20 _).set 21 _).set 22 _).set 23 _
          have d2 : Durs (((((w1.setCell ⟨w.heap.size, 0, none⟩ (.int .i64 (l : Int))).setCell ⟨b, 20, none⟩ (.int .i64 (l : Int))).setCell ⟨b, 21, none⟩ (.bool false)).setCell ⟨b, 22, none⟩ (.int .i64 (a : Int))).setCell ⟨b, 23, none⟩ (.string d)) b ds1 s.durs.tail := (d1.elsewhere (fun g hg => Hdo.out g (k1 ▸ hg))).only (((((Only.refl b _).set 20 _).set 21 _).set 22 _).set 23 _)
          have r2 : (((((w1.setCell ⟨w.heap.size, 0, none⟩ (.int .i64 (l : Int))).setCell ⟨b, 20, none⟩ (.int .i64 (l : Int))).setCell ⟨b, 21, none⟩ (.bool false)).setCell ⟨b, 22, none⟩ (.int .i64 (a : Int))).setCell ⟨b, 23, none⟩ (.string d)).cell? ⟨w.heap.size, 2, none⟩ = some (.int .i64 (a : Int)) := by
            rw [World.cell?_setCell_other _ _ _ _ (fun e => hne (congrArg Addr.block e).symm), World.cell?_setCell_other _ _ _ _ (fun e => hne (congrArg Addr.block e).symm), World.cell?_setCell_other _ _ _ _ (fun e => hne (congrArg Addr.block e).symm), World.cell?_setCell_other _ _ _ _ (fun e => hne (congrArg Addr.block e).symm), World.cell?_setCell_other _ _ _ _ (by simp)]; exact b2
          generalize (((((w1.setCell ⟨w.heap.size, 0, none⟩ (.int .i64 (l : Int))).setCell ⟨b, 20, none⟩ (.int .i64 (l : Int))).setCell ⟨b, 21, none⟩ (.bool false)).setCell ⟨b, 22, none⟩ (.int .i64 (a : Int))).setCell ⟨b, 23, none⟩ (.string d)) = W2 at h2 o2 d2 r2 ⊢
          clear b0 b1 b2 b3 z0 q20 q21 q22 q23 y20 y21 y22 y23 g1 h1 d1 o1
          first | go_end0 | refine bodyPost_ret (results_none rfl _ _ _) rfl ?_
          rw [HE.out]
          exact ⟨rfl, ds1, h2, d2, o2, k1⟩)
end Go.Proofs.YtjhjghakfedeeaaGreat
