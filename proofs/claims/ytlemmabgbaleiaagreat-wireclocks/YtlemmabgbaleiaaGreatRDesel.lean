/-
  Deselect: the document's chip, by a contract. Conditions: the chip lies in memory as told, and is one that may be.
-/
import Derived.Test.YtlemmabgbaleiaaGreatRBegin
namespace Go.Proofs.YtlemmabgbaleiaaGreat
open Go.RowKit Plain
set_option linter.unusedVariables false

set_option maxRecDepth 100000 in
theorem rdesel_no (b : Nat) (r : RSt) (wv dv iv : Value) (w : World) (h : RAt w b r wv dv iv) (hs : r.sel = false) :
    Calls Tryz.prog 38 #[.pointer (some ⟨b, 0, none⟩)] w fun e w' => e = .returned (.int .i64 600) ∧ w = w' := by
  have c4 : w.cell? ⟨b, 4, none⟩ = some (.bool false) := by rw [Blk.cell h 4 rfl, hs]
  clear hs h
  go_enter Tryz.func38, Tryz.ntmps38
  go_wp2
  go_ret
  exact ⟨rfl, rfl⟩
theorem and_4 (y : Nat) (hy : y < 256) : (bits .and .i64 (y : Int) 4 != 0) = decide (y / 4 % 2 = 1) := by
  revert hy; revert y; decide +kernel
theorem and_2 (y : Nat) (hy : y < 256) : (bits .and .i64 (y : Int) 2 != 0) = decide (y / 2 % 2 = 1) := by
  revert hy; revert y; decide +kernel
theorem robey_6 {r : RSt} (e : r.op.byte = 6) : r.obey = { r with en := r.en || r.alone } := if_pos e
theorem robey_4 {r : RSt} (e : r.op.byte = 4) : r.obey = { r with en := r.en && !r.alone } := by unfold RSt.obey; rw [if_neg (by omega), if_pos e]
theorem robey_117 {r : RSt} (e : r.op.byte = 117) : r.obey = { r with sus := r.sus || (r.alone && decide (r.kind = 32)) } := by unfold RSt.obey; rw [if_neg (by omega), if_neg (by omega), if_pos e]
theorem robey_122 {r : RSt} (e : r.op.byte = 122) : r.obey = { r with sus := r.sus && !r.alone } := by unfold RSt.obey; rw [if_neg (by omega), if_neg (by omega), if_neg (by omega), if_pos e]
theorem robey_1 {r : RSt} (e : r.op.byte = 1) : r.obey = if r.en = true ∧ r.inn.length = 2 then { r with prot := decide (r.inn.getD 0 0 / 4 % 2 = 1), quad := decide (r.inn.getD 1 0 / 2 % 2 = 1), en := false } else r := by unfold RSt.obey; rw [if_neg (by omega), if_neg (by omega), if_neg (by omega), if_neg (by omega), if_pos e]
theorem robey_2 {r : RSt} (e : r.op.byte = 2) : r.obey = if 0 < r.inn.length then r.begin else r := by unfold RSt.obey; rw [if_neg (by omega), if_neg (by omega), if_neg (by omega), if_neg (by omega), if_neg (by omega), if_pos e]
theorem robey_32 {r : RSt} (e : r.op.byte = 32) : r.obey = if r.alone then r.begin else r := by unfold RSt.obey; rw [if_neg (by omega), if_neg (by omega), if_neg (by omega), if_neg (by omega), if_neg (by omega), if_neg (by omega), if_pos e]
theorem robey_none {r : RSt} (e1 : r.op.byte ≠ 6) (e2 : r.op.byte ≠ 4) (e3 : r.op.byte ≠ 117) (e4 : r.op.byte ≠ 122) (e5 : r.op.byte ≠ 1) (e6 : r.op.byte ≠ 2) (e7 : r.op.byte ≠ 32) : r.obey = r := by unfold RSt.obey; rw [if_neg e1, if_neg e2, if_neg e3, if_neg e4, if_neg e5, if_neg e6, if_neg e7]
theorem mid_run {F : Nat → Prop} {n b : Nat} {u w : World} {r : RSt} (h : RMid F b u w r) (hm : Own F u b) (ho : r.Ok n) : RRun F n b u w r := ⟨h.1, hm, ho, h.2⟩
theorem mid_only {F : Nat → Prop} {b : Nat} {u w w' : World} {r' : RSt} {wv dv iv : Value} (ht : Turns F u w) (hm : Own F u b) (hR : Rows3 F u w b r'.wiped r'.durs r'.inn wv dv iv) (hA : RAt w' b r' wv dv iv) (k : Only b w w') : RMid F b u w' r' :=
  ⟨ht.only k hm, wv, dv, iv, hA, hR.only k⟩

set_option maxRecDepth 100000 in
set_option maxHeartbeats 4000000 in
theorem rdesel_mid (F : Nat → Prop) (n b : Nat) (u w : World) (r : RSt) (h : RRun F n b u w r) (hs : r.sel = true) (hn : n < 1000000) :
    Calls Tryz.prog 38 #[.pointer (some ⟨b, 0, none⟩)] w fun e w' => e = .returned (.int .i64 0) ∧ RMid F b u w' r.deselect := by
  obtain ⟨wv, dv, iv, hA, hR⟩ := h.lies
  have hm := h.mine
  have c4 : w.cell? ⟨b, 4, none⟩ = some (.bool true) := by rw [Blk.cell hA 4 rfl, hs]
  have f4 := Blk.frozen hA 4
  have h1 : RAt (w.setCell ⟨b, 4, none⟩ (.bool false)) b r.off wv dv iv := Blk.set hA 4 _
  have o1 : Only b w (w.setCell ⟨b, 4, none⟩ (.bool false)) := (Only.refl b w).set 4 _
  have T1 : Hid (Turns F u (w.setCell ⟨b, 4, none⟩ (.bool false))) := h.turns.only o1 hm
  have R1 : Hid (Rows3 F u (w.setCell ⟨b, 4, none⟩ (.bool false)) b r.wiped r.durs r.inn wv dv iv) := hR.only o1
  have HOK : Hid (r.Ok n) := h.ok
  clear h hA hR hs o1
  go_enter Tryz.func38, Tryz.ntmps38
  go_upto_region 4 with fail
  generalize w.setCell ⟨b, 4, none⟩ (.bool false) = W at h1 T1 R1 ⊢
  clear c4 f4
  have c19 : W.cell? ⟨b, 19, none⟩ = some (.bool r.taken) := Blk.cell h1 19 rfl
  have c13 : W.cell? ⟨b, 13, none⟩ = some (.int .i64 (r.op.byte : Int)) := Blk.cell h1 13 rfl
  have H1 : Hid (RAt W b r.off wv dv iv) := h1
  cases et : r.taken
  · rw [et] at c19
    have HE : Hid (r.deselect = r.off) := if_pos et
    clear h1
    go_wp2
    go_ret
    rw [HE.out]
    exact ⟨rfl, T1.out, wv, dv, iv, H1.out, R1.out⟩
  rw [et] at c19
  by_cases e235 : r.op.byte = 235
  · have HE : Hid (r.deselect = { r.off with goes := r.modes && decide (r.mode = 160) }) := by rw [Hid]; unfold RSt.deselect; rw [if_neg (by rw [et]; decide), if_pos e235]
    rw [e235] at c13
    have c26 : W.cell? ⟨b, 26, none⟩ = some (.bool r.modes) := Blk.cell h1 26 rfl
    have c25 : W.cell? ⟨b, 25, none⟩ = some (.int .i64 (r.mode : Int)) := Blk.cell h1 25 rfl
    have c6 : W.cell? ⟨b, 6, none⟩ = some (.bool r.goes) := Blk.cell h1 6 rfl
    have f6 := Blk.frozen h1 6
    have HF : Hid (∀ t : Bool, t = (r.modes && decide (r.mode = 160)) → RMid F b u (W.setCell ⟨b, 6, none⟩ (.bool t)) r.deselect) := fun t ht => by
      rw [HE.out, ← ht]; exact mid_only T1.out hm R1.out (Blk.set H1.out 6 _) ((Only.refl b W).set 6 _)
    clear h1
    cases em : r.modes
    · rw [em] at c26
      go_wp2
      go_ret
      exact ⟨rfl, HF.out false (by rw [em]; rfl)⟩
    · rw [em] at c26
      by_cases e160 : r.mode = 160
      · have d160 : ((r.mode : Int) == 160) = true := beq_iff_eq.2 (by omega)
        have E160 : Hid (r.mode = 160) := e160
        clear e160
        go_wp2
        go_ret
        exact ⟨rfl, HF.out true (by rw [em, E160.out]; rfl)⟩
      · have d160 : ((r.mode : Int) == 160) = false := beq_eq_false_iff_ne.2 (by omega)
        go_wp2
        go_ret
        exact ⟨rfl, HF.out false (by rw [em, decide_eq_false e160]; rfl)⟩
  have d235 : ((r.op.byte : Int) == 235) = false := beq_eq_false_iff_ne.2 (by omega)
  have c18 : W.cell? ⟨b, 18, none⟩ = some (.bool r.op.inn) := Blk.cell h1 18 rfl
  have c23 : W.cell? ⟨b, 23, none⟩ = some (.int .i64 (r.part : Int)) := Blk.cell h1 23 rfl
  have c21 : W.cell? ⟨b, 21, none⟩ = some (.int .i64 (r.bits : Int)) := Blk.cell h1 21 rfl
  have c28 : W.cell? ⟨b, 28, none⟩ = some (.int .i64 (r.clocks : Int)) := Blk.cell h1 28 rfl
  by_cases ein : r.op.inn = true ∧ (r.part ≠ 4 ∨ r.bits ≠ 0)
  · have HE : Hid (r.deselect = r.off) := by rw [Hid]; unfold RSt.deselect; rw [if_neg (by rw [et]; decide), if_neg e235, if_pos ein]
    obtain ⟨ei, ep⟩ := ein
    rw [ei] at c18
    clear h1
    by_cases p4 : r.part = 4
    · have d4 : ((r.part : Int) != 4) = false := by rw [p4]; rfl
      have db : ((r.bits : Int) != 0) = true := by simp; omega
      clear p4
      go_wp2
      go_ret
      rw [HE.out]
      exact ⟨rfl, T1.out, wv, dv, iv, H1.out, R1.out⟩
    · have d4 : ((r.part : Int) != 4) = true := by simp; omega
      go_wp2
      go_ret
      rw [HE.out]
      exact ⟨rfl, T1.out, wv, dv, iv, H1.out, R1.out⟩
  have HE : Hid (r.deselect = r.off.obey) := by rw [Hid]; unfold RSt.deselect; rw [if_neg (by rw [et]; decide), if_neg e235, if_neg ein]
  go_upto_region 9 with fail
  go_cut [2, 55] from 4 (fun v2 v55 wc => v2 = .int .i64 0 ∧ v55 = .bool false ∧ wc = W)
  case first =>
    cases ei : r.op.inn
    · rw [ei] at c18
      clear h1
      go_wp2_with fail
      go_meet
      case rel => exact ⟨rfl, rfl, rfl⟩
    · rw [ei] at c18
      have hp4 : r.part = 4 := by rcases Nat.decEq r.part 4 with h | h; exact absurd ⟨ei, .inl h⟩ ein; exact h
      have hb0 : r.bits = 0 := by rcases Nat.decEq r.bits 0 with h | h; exact absurd ⟨ei, .inr h⟩ ein; exact h
      rw [hp4] at c23
      rw [hb0] at c21
      clear h1 hp4 hb0 ein
      go_wp2_with fail
      go_meet
      case rel => exact ⟨rfl, rfl, rfl⟩
  case rest =>
    obtain ⟨rfl, rfl, hwc⟩ := hcut
    rw [hwc]
    clear hwc wc ein
    go_upto_region 11 with fail
    go_cut [2, 3] from 4 (fun v2 v3 wc => v2 = .int .i64 0 ∧ v3 = .bool r.alone ∧ wc = W)
    case first =>
      clear h1
      by_cases p4 : r.part = 4
      · rw [p4] at c23
        by_cases k0 : r.clocks = 0
        · have HAl : Hid (r.alone = true) := by rw [Hid]; unfold RSt.alone; rw [p4, k0]; rfl
          rw [k0] at c28
          clear p4 k0
          go_wp2_with fail
          go_meet
          case rel => rw [HAl.out]; exact ⟨rfl, rfl, rfl⟩
        · have HAl : Hid (r.alone = false) := by rw [Hid]; unfold RSt.alone; rw [decide_eq_false k0, Bool.and_false]
          have dk : ((r.clocks : Int) == 0) = false := beq_eq_false_iff_ne.2 (by omega)
          clear p4 k0
          go_wp2_with fail
          go_meet
          case rel => rw [HAl.out]; exact ⟨rfl, rfl, rfl⟩
      · have HAl : Hid (r.alone = false) := by rw [Hid]; unfold RSt.alone; rw [decide_eq_false p4, Bool.false_and]
        have dp : ((r.part : Int) == 4) = false := beq_eq_false_iff_ne.2 (by omega)
        clear p4
        go_wp2_with fail
        go_meet
        case rel => rw [HAl.out]; exact ⟨rfl, rfl, rfl⟩
    case rest =>
      obtain ⟨rfl, rfl, hwc⟩ := hcut
      rw [hwc]
      clear hwc wc c18 c19 c21 c23 c28 d235
      obtain ⟨A, HAl⟩ := hid_is r.alone
      rw [HAl.out]
      have c5 : W.cell? ⟨b, 5, none⟩ = some (.bool r.en) := Blk.cell h1 5 rfl
      have f5 := Blk.frozen h1 5
      have c11 : W.cell? ⟨b, 11, none⟩ = some (.bool r.sus) := Blk.cell h1 11 rfl
      have f11 := Blk.frozen h1 11
      have FE : Hid (∀ t : Bool, r.off.obey = { r.off with en := t } → RMid F b u (W.setCell ⟨b, 5, none⟩ (.bool t)) r.deselect) := fun t ht => by
        rw [HE.out, ht]; exact mid_only T1.out hm R1.out (Blk.set H1.out 5 _) ((Only.refl b W).set 5 _)
      have FS : Hid (∀ t : Bool, r.off.obey = { r.off with sus := t } → RMid F b u (W.setCell ⟨b, 11, none⟩ (.bool t)) r.deselect) := fun t ht => by
        rw [HE.out, ht]; exact mid_only T1.out hm R1.out (Blk.set H1.out 11 _) ((Only.refl b W).set 11 _)
      have FO : Hid (r.off.obey = r.off → RMid F b u W r.deselect) := fun ht => by
        rw [HE.out, ht]; exact ⟨T1.out, wv, dv, iv, H1.out, R1.out⟩
      have HAo : Hid (r.off.alone = A) := HAl.out
      by_cases e6 : r.op.byte = 6
      · have HQ : Hid (r.off.obey = { r.off with en := r.en || A }) := by rw [Hid, ← HAl.out]; exact robey_6 (r := r.off) e6
        rw [e6] at c13
        clear h1 e6
        cases ee : r.en
        · rw [ee] at c5 HQ
          go_wp2
          go_ret
          exact ⟨rfl, FE.out A HQ.out⟩
        · rw [ee] at c5 HQ
          go_wp2
          go_ret
          exact ⟨rfl, FE.out true HQ.out⟩
      have d6 : ((r.op.byte : Int) == 6) = false := beq_eq_false_iff_ne.2 (by omega)
      by_cases e4 : r.op.byte = 4
      · have HQ : Hid (r.off.obey = { r.off with en := r.en && !A }) := by rw [Hid, ← HAl.out]; exact robey_4 (r := r.off) e4
        rw [e4] at c13
        clear h1 e4 e6 d6
        cases ee : r.en
        · rw [ee] at c5 HQ
          go_wp2
          go_ret
          exact ⟨rfl, FE.out false HQ.out⟩
        · rw [ee] at c5 HQ
          go_wp2
          go_ret
          exact ⟨rfl, FE.out (!A) HQ.out⟩
      have d4 : ((r.op.byte : Int) == 4) = false := beq_eq_false_iff_ne.2 (by omega)
      by_cases e117 : r.op.byte = 117
      · have HQ : Hid (r.off.obey = { r.off with sus := r.sus || (A && decide (r.kind = 32)) }) := by rw [Hid, ← HAl.out]; exact robey_117 (r := r.off) e117
        have c7 : W.cell? ⟨b, 7, none⟩ = some (.int .i64 (r.kind : Int)) := Blk.cell h1 7 rfl
        rw [e117] at c13
        clear h1 e117 e4 e6 d6 d4
        cases es : r.sus
        · rw [es] at c11 HQ
          cases A
          · go_wp2
            go_ret
            exact ⟨rfl, FS.out false HQ.out⟩
          · by_cases e32 : r.kind = 32
            · have dk : ((r.kind : Int) == 32) = true := beq_iff_eq.2 (by omega)
              rw [decide_eq_true e32] at HQ
              clear e32
              go_wp2
              go_ret
              exact ⟨rfl, FS.out true HQ.out⟩
            · have dk : ((r.kind : Int) == 32) = false := beq_eq_false_iff_ne.2 (by omega)
              rw [decide_eq_false e32] at HQ
              clear e32
              go_wp2
              go_ret
              exact ⟨rfl, FS.out false HQ.out⟩
        · rw [es] at c11 HQ
          go_wp2
          go_ret
          exact ⟨rfl, FS.out true HQ.out⟩
      have d117 : ((r.op.byte : Int) == 117) = false := beq_eq_false_iff_ne.2 (by omega)
      by_cases e122 : r.op.byte = 122
      · have HQ : Hid (r.off.obey = { r.off with sus := r.sus && !A }) := by rw [Hid, ← HAl.out]; exact robey_122 (r := r.off) e122
        rw [e122] at c13
        clear h1 e122 e117 e4 e6 d6 d4 d117
        cases es : r.sus
        · rw [es] at c11 HQ
          go_wp2
          go_ret
          exact ⟨rfl, FS.out false HQ.out⟩
        · rw [es] at c11 HQ
          go_wp2
          go_ret
          exact ⟨rfl, FS.out (!A) HQ.out⟩
      have d122 : ((r.op.byte : Int) == 122) = false := beq_eq_false_iff_ne.2 (by omega)
      obtain ⟨ai, ci, ei, hri⟩ := R1.out.inn.reads
      rw [nsL_length] at ei hri
      subst ei
      have c27 : W.cell? ⟨b, 27, none⟩ = some (.slice ai r.inn.length ci) := Blk.cell h1 27 rfl
      by_cases e1 : r.op.byte = 1
      · rw [e1] at c13
        by_cases hen : r.en = true ∧ r.inn.length = 2
        · obtain ⟨he, hl⟩ := hen
          have HQ : Hid (r.off.obey = { r.off with prot := decide (r.inn.getD 0 0 / 4 % 2 = 1), quad := decide (r.inn.getD 1 0 / 2 % 2 = 1), en := false }) := by
            rw [Hid]; exact (robey_1 (r := r.off) e1).trans (if_pos ⟨he, hl⟩)
          obtain ⟨gi, oi, rfl, hci⟩ := hri (by omega)
          obtain ⟨y0, Hy0⟩ := hid_is (r.inn.getD 0 0)
          obtain ⟨y1, Hy1⟩ := hid_is (r.inn.getD 1 0)
          have hin := HOK.out.inn
          have hy0 : y0 < 256 := by rw [← Hy0.out, List.getD_eq_getElem?_getD, List.getElem?_eq_getElem (by omega)]; exact hin _ (List.getElem_mem _)
          have hy1 : y1 < 256 := by rw [← Hy1.out, List.getD_eq_getElem?_getD, List.getElem?_eq_getElem (by omega)]; exact hin _ (List.getElem_mem _)
          have ns : ∀ j, j < r.inn.length → (nsL r.inn).getD j 0 = ((r.inn.getD j 0 : Nat) : Int) := fun j hj => by
            rw [nsL, List.getD_eq_getElem?_getD, List.getElem?_map, List.getD_eq_getElem?_getD, List.getElem?_eq_getElem hj]; rfl
          have q0 : W.cell? ⟨gi, oi, none⟩ = some (.int .i64 (y0 : Int)) := by have := hci 0 (by omega); rw [ns 0 (by omega), Hy0.out] at this; exact this
          have q1 : W.cell? ⟨gi, oi + 1, none⟩ = some (.int .i64 (y1 : Int)) := by have := hci 1 (by omega); rw [ns 1 (by omega), Hy1.out] at this; exact this
          have a0 := and_4 y0 hy0
          have a1 := and_2 y1 hy1
          rw [Hy0.out, Hy1.out] at HQ
          have c1 : W.cell? ⟨b, 1, none⟩ = some (.bool r.prot) := Blk.cell h1 1 rfl
          have c2 : W.cell? ⟨b, 2, none⟩ = some (.bool r.quad) := Blk.cell h1 2 rfl
          have f1 := Blk.frozen h1 1
          have f2 := Blk.frozen h1 2
          have hgb : gi ≠ b := (R1.out.iblk gi rfl).1
          rw [he] at c5
          rw [hl] at c27
          have FF : Hid (RMid F b u (((W.setCell ⟨b, 1, none⟩ (.bool (decide (y0 / 4 % 2 = 1)))).setCell ⟨b, 2, none⟩ (.bool (decide (y1 / 2 % 2 = 1)))).setCell ⟨b, 5, none⟩ (.bool false)) r.deselect) := by
            rw [HE.out, HQ.out]
            exact mid_only T1.out hm R1.out (Blk.set (Blk.set (Blk.set H1.out 1 _) 2 _) 5 _) ((((Only.refl b W).set 1 _).set 2 _).set 5 _)
          generalize decide (y0 / 4 % 2 = 1) = B0 at a0 FF HQ
          generalize decide (y1 / 2 % 2 = 1) = B1 at a1 FF HQ
          have q1' : (W.setCell ⟨b, 1, none⟩ (.bool B0)).cell? ⟨gi, oi + 1, none⟩ = some (.int .i64 (y1 : Int)) := by
            rw [((Only.refl b W).set 1 (.bool B0)).cell (by exact cell_lt q1) hgb]; exact q1
          clear h1 hri hci HQ e1 e122 e117 e4 e6 he hl ns hin HE
          go_wp2
          go_ret
          exact ⟨rfl, FF.out⟩
        · have HQ : Hid (r.off.obey = r.off) := by
            rw [Hid]; exact (robey_1 (r := r.off) e1).trans (if_neg hen)
          clear h1 hri e1 e122 e117 e4 e6
          cases he : r.en
          · rw [he] at c5
            go_wp2
            go_ret
            exact ⟨rfl, FO.out HQ.out⟩
          · rw [he] at c5
            have hl2 : ((r.inn.length : Int) == 2) = false := beq_eq_false_iff_ne.2 (fun e => hen ⟨he, by omega⟩)
            clear hen
            go_wp2
            go_ret
            exact ⟨rfl, FO.out HQ.out⟩
      have d1 : ((r.op.byte : Int) == 1) = false := beq_eq_false_iff_ne.2 (by omega)
      have HRN : Hid (RRun F n b u W r.off) := ⟨T1.out, hm, ⟨HOK.out.A, HOK.out.wiped, HOK.out.durs, HOK.out.kind, HOK.out.left, HOK.out.going, HOK.out.wat, HOK.out.wdata, HOK.out.op, HOK.out.opm, HOK.out.x, HOK.out.x0, HOK.out.bits, HOK.out.bits8, HOK.out.outs, HOK.out.addr1, HOK.out.addr2, HOK.out.part, HOK.out.begun, HOK.out.adr, HOK.out.mode, HOK.out.inn, HOK.out.count, HOK.out.clocks, HOK.out.sent, HOK.out.out⟩, wv, dv, _, H1.out, R1.out⟩
      by_cases e2 : r.op.byte = 2
      · have HBG : Hid (Calls Tryz.prog 66 #[.pointer (some ⟨b, 0, none⟩)] W fun e w' => e = .returned (.tuple #[]) ∧ RMid F b u w' r.off.begin) := rbegin_run F n b u W r.off HRN.out (.inl e2) hn
        by_cases hl : 0 < r.inn.length
        · have HQ : Hid (r.deselect = r.off.begin) := by rw [Hid, HE.out]; exact (robey_2 (r := r.off) e2).trans (if_pos hl)
          rw [e2] at c13
          clear h1 hri e2 e1 e122 e117 e4 e6
          go_wp2_with fail
          refine HBG.out.mono ?_
          rintro e w2 ⟨rfl, m2⟩
          go_wp2
          go_ret
          rw [HQ.out]
          exact ⟨rfl, m2⟩
        · have HQ : Hid (r.off.obey = r.off) := by rw [Hid]; exact (robey_2 (r := r.off) e2).trans (if_neg hl)
          have hl0 : r.inn.length = 0 := by omega
          rw [e2] at c13
          rw [hl0] at c27
          clear h1 hri e2 e1 e122 e117 e4 e6 hl hl0
          go_wp2
          go_ret
          exact ⟨rfl, FO.out HQ.out⟩
      have d2 : ((r.op.byte : Int) == 2) = false := beq_eq_false_iff_ne.2 (by omega)
      by_cases e32 : r.op.byte = 32
      · have HBG : Hid (Calls Tryz.prog 66 #[.pointer (some ⟨b, 0, none⟩)] W fun e w' => e = .returned (.tuple #[]) ∧ RMid F b u w' r.off.begin) := rbegin_run F n b u W r.off HRN.out (.inr e32) hn
        have HQ0 : Hid (r.off.obey = if A then r.off.begin else r.off) := by rw [Hid, ← HAl.out]; exact robey_32 (r := r.off) e32
        rw [e32] at c13
        clear h1 hri e32 e2 e1 e122 e117 e4 e6
        cases A
        · go_wp2
          go_ret
          exact ⟨rfl, FO.out HQ0.out⟩
        · go_wp2_with fail
          refine HBG.out.mono ?_
          rintro e w2 ⟨rfl, m2⟩
          go_wp2
          go_ret
          rw [HE.out, HQ0.out]
          exact ⟨rfl, m2⟩
      have d32 : ((r.op.byte : Int) == 32) = false := beq_eq_false_iff_ne.2 (by omega)
      have HQ : Hid (r.off.obey = r.off) := by rw [Hid]; exact robey_none (r := r.off) e6 e4 e117 e122 e1 e2 e32
      clear h1 hri
      go_wp2
      go_ret
      exact ⟨rfl, FO.out HQ.out⟩
theorem ok_begin {n : Nat} {r : RSt} (h : r.Ok n) (hby : r.op.byte = 2 ∨ r.op.byte = 32) : r.begin.Ok n := by
  unfold RSt.begin
  split
  · exact h
  · split
    · exact ⟨h.A, h.wiped, h.durs, h.kind, h.left, h.going, h.wat, h.wdata, h.op, h.opm, h.x, h.x0, h.bits, h.bits8, h.outs, h.addr1, h.addr2, h.part, h.begun, h.adr, h.mode, h.inn, h.count, h.clocks, h.sent, h.out⟩
    · have hd : 1 ≤ (r.durs.headD 8).toNat ∧ (r.durs.headD 8).toNat ≤ 400 := by
        cases e : r.durs with
        | nil => exact ⟨by decide, by decide⟩
        | cons d D =>
          have := h.durs.2 d (by rw [e]; exact List.mem_cons_self)
          show 1 ≤ d.toNat ∧ d.toNat ≤ 400
          omega
      have ht : r.durs.tail.length ≤ 16 ∧ ∀ d ∈ r.durs.tail, 1 ≤ d ∧ d ≤ 400 := ⟨by rw [List.length_tail]; have := h.durs.1; omega, fun d hd => h.durs.2 d (List.mem_of_mem_tail hd)⟩
      have ha := h.adr
      split
      · exact ⟨h.A, (by show (r.wiped.set _ _).length = 8; rw [List.length_set]; exact h.wiped), ht, (.inr (.inr rfl)), hd.2, (fun _ => hd.1), h.adr, (fun e => absurd e (show ¬ (32 = 2) by decide)), h.op, h.opm, h.x, h.x0, h.bits, h.bits8, h.outs, h.addr1, h.addr2, h.part, h.begun, h.adr, h.mode, h.inn, h.count, h.clocks, h.sent, h.out⟩
      · have h2 : r.op.byte = 2 := by omega
        exact ⟨h.A, h.wiped, ht, (.inr (.inl h2)), hd.2, (fun _ => hd.1), (show r.adr / 32 * 32 < 4096 by omega), (fun _ => by show r.adr / 32 * 32 + (pageR r.adr r.inn).size ≤ 4096; rw [pageR, tab_size]; omega), h.op, h.opm, h.x, h.x0, h.bits, h.bits8, h.outs, h.addr1, h.addr2, h.part, h.begun, h.adr, h.mode, h.inn, h.count, h.clocks, h.sent, h.out⟩
theorem ok_obey {n : Nat} {r : RSt} (h : r.Ok n) : r.obey.Ok n := by
  unfold RSt.obey
  split
  · exact ⟨h.A, h.wiped, h.durs, h.kind, h.left, h.going, h.wat, h.wdata, h.op, h.opm, h.x, h.x0, h.bits, h.bits8, h.outs, h.addr1, h.addr2, h.part, h.begun, h.adr, h.mode, h.inn, h.count, h.clocks, h.sent, h.out⟩
  · split
    · exact ⟨h.A, h.wiped, h.durs, h.kind, h.left, h.going, h.wat, h.wdata, h.op, h.opm, h.x, h.x0, h.bits, h.bits8, h.outs, h.addr1, h.addr2, h.part, h.begun, h.adr, h.mode, h.inn, h.count, h.clocks, h.sent, h.out⟩
    · split
      · exact ⟨h.A, h.wiped, h.durs, h.kind, h.left, h.going, h.wat, h.wdata, h.op, h.opm, h.x, h.x0, h.bits, h.bits8, h.outs, h.addr1, h.addr2, h.part, h.begun, h.adr, h.mode, h.inn, h.count, h.clocks, h.sent, h.out⟩
      · split
        · exact ⟨h.A, h.wiped, h.durs, h.kind, h.left, h.going, h.wat, h.wdata, h.op, h.opm, h.x, h.x0, h.bits, h.bits8, h.outs, h.addr1, h.addr2, h.part, h.begun, h.adr, h.mode, h.inn, h.count, h.clocks, h.sent, h.out⟩
        · split
          · split
            · exact ⟨h.A, h.wiped, h.durs, h.kind, h.left, h.going, h.wat, h.wdata, h.op, h.opm, h.x, h.x0, h.bits, h.bits8, h.outs, h.addr1, h.addr2, h.part, h.begun, h.adr, h.mode, h.inn, h.count, h.clocks, h.sent, h.out⟩
            · exact h
          · split
            · rename_i e2
              split
              · exact ok_begin h (.inl e2)
              · exact h
            · split
              · rename_i e32
                split
                · exact ok_begin h (.inr e32)
                · exact h
              · exact h
theorem ok_deselect {n : Nat} {r : RSt} (h : r.Ok n) : r.deselect.Ok n := by
  have ho : r.off.Ok n := ⟨h.A, h.wiped, h.durs, h.kind, h.left, h.going, h.wat, h.wdata, h.op, h.opm, h.x, h.x0, h.bits, h.bits8, h.outs, h.addr1, h.addr2, h.part, h.begun, h.adr, h.mode, h.inn, h.count, h.clocks, h.sent, h.out⟩
  unfold RSt.deselect
  split
  · exact ho
  · split
    · exact ⟨h.A, h.wiped, h.durs, h.kind, h.left, h.going, h.wat, h.wdata, h.op, h.opm, h.x, h.x0, h.bits, h.bits8, h.outs, h.addr1, h.addr2, h.part, h.begun, h.adr, h.mode, h.inn, h.count, h.clocks, h.sent, h.out⟩
    · split
      · exact ho
      · exact ok_obey ho
theorem rdesel_run (F : Nat → Prop) (n b : Nat) (u w : World) (r : RSt) (h : RRun F n b u w r) (hs : r.sel = true) (hn : n < 1000000) :
    Calls Tryz.prog 38 #[.pointer (some ⟨b, 0, none⟩)] w fun e w' => e = .returned (.int .i64 0) ∧ RRun F n b u w' r.deselect :=
  (rdesel_mid F n b u w r h hs hn).mono fun e w' ⟨h1, h2⟩ => ⟨h1, mid_run h2 h.mine (ok_deselect h.ok)⟩
end Go.Proofs.YtlemmabgbaleiaaGreat
