/-
  Select, Deselect, Next, Loss keep both chips alike. No conditions but those of each statement. Deselect keeps both chips alike. No conditions but those of each statement.
-/
import Derived.Test.YtlemmabgbaleiaaGreatSim3
import Derived.Test.YtlemmabgbaleiaaGreatRDesel
/-! Select, Deselect, Next, Loss keep both chips alike. No conditions but those of each statement. -/
section
namespace Go.Proofs.YtlemmabgbaleiaaGreat
open Go.RowKit Plain
set_option linter.unusedVariables false

theorem sim_next {s : St} {r : RSt} (h : Sim s r) (L : List Int) : Sim (s.next L) (r.next L) :=
  ⟨h.A, h.prot, h.quad, h.wiped, h.sel, h.en, h.goes, h.sus, rfl, h.idle, h.work, h.sus32, h.go, h.rest, fun e => (h.cmd e).same rfl rfl rfl rfl rfl rfl rfl rfl rfl rfl rfl rfl rfl, h.gosel, h.held⟩
theorem sim_select {s : St} {r : RSt} (h : Sim s r) (hs : s.sel = false) : Sim s.select r.select := by
  have hk := h.rest hs
  have h0 : Sim { s with sel := true, goes := false } { r.fresh with goes := false } :=
    ⟨h.A, h.prot, h.quad, h.wiped, rfl, h.en, rfl, h.sus, h.durs, h.idle, h.work, h.sus32, fun e => absurd e (show ¬ (false = true) by decide), fun e => absurd e (show ¬ (true = false) by decide), fun _ => .byte rfl rfl (by show s.k.op = _; rw [hk]; rfl) (by show s.k.part = _; rw [hk]; rfl) (by show s.k.clocks = _; rw [hk]; rfl) (by show s.k.bits = _; rw [hk]; rfl) (by show s.k.adr = _; rw [hk]; rfl) (by show s.k.mode = _; rw [hk]; rfl) (by show s.k.count = _; rw [hk]; rfl) (show 0 < 8 by decide) rfl rfl rfl, fun _ e => absurd e (show ¬ (false = true) by decide), fun _ e => absurd e (show ¬ (false = true) by decide)⟩
  unfold St.select RSt.select
  rw [← h.goes]
  cases hg : s.goes
  · have e2 : r.fresh = { r.fresh with goes := false } := by rw [← hg, h.goes]; rfl
    rw [if_neg (by decide), if_neg (by decide), e2]
    exact h0
  · rw [if_pos rfl, if_pos rfl]
    obtain ⟨hq, hb⟩ := h.go hg
    have h1 := sim_take (s := { s with sel := true, goes := false }) (r := { r.fresh with goes := false }) h0 rfl s.k 235 0 0 (by rw [hk]; rfl) (by rw [hk]; rfl) (by rw [hk]; rfl) (by rw [hk]; rfl) (by rw [hk]; rfl) rfl rfl rfl (fun e => absurd e (show ¬ (false = true) by decide))
    -- the same with the read that goes on
    have ht : St.takes { s with sel := true, goes := false } 235 = true := by
      show (s.quad && !s.busy) = true
      rw [hq, hb]; rfl
    have hrt : r.taking 235 = true := by
      have := takes_is h 235
      rw [this]
      show (isOp 235 && (s.quad && !s.busy)) = true
      rw [hq, hb]; rfl
    have hgr : r.goes = true := h.goes.symm.trans hg
    refine ⟨h1.A, h1.prot, h1.quad, h1.wiped, h1.sel, h1.en, hgr.symm, h1.sus, h1.durs, h1.idle, h1.work, h1.sus32, fun _ => ⟨hq, hb⟩, fun e => absurd e (show ¬ (true = false) by decide), fun e => (h1.cmd rfl).same rfl rfl rfl rfl rfl rfl rfl rfl rfl rfl rfl rfl rfl, fun _ _ => ⟨rfl, hrt, rfl⟩, fun _ _ _ => ⟨fun _ => ⟨hq, hb⟩, fun e => absurd (show 235 = 1 ∨ 235 = 2 ∨ 235 = 32 from e) (by decide)⟩⟩
theorem sim_loss {n : Nat} {s : St} {r : RSt} (h : Sim s r) (ho : r.Ok n) (m : ByteArray) : Sim (s.loss m) (r.loss m) := by
  refine ⟨?_, h.prot, h.quad, h.wiped, rfl, rfl, rfl, rfl, rfl, fun _ => rfl, fun e => absurd rfl e, fun e => absurd e (show ¬ (false = true) by decide), fun e => absurd e (show ¬ (false = true) by decide), fun _ => rfl, fun e => absurd e (show ¬ (false = true) by decide), fun e => absurd e (show ¬ (false = true) by decide), fun e => absurd e (show ¬ (false = true) by decide)⟩
  show (if 0 < s.left then s.on m else s.A) = r.cut m
  unfold RSt.cut St.on
  rcases ho.kind with e | e | e
  · rw [h.idle e, if_neg (by decide), if_neg (by omega), if_neg (by omega)]; exact h.A
  · obtain ⟨w1, w2, w3, w4, w5⟩ := h.work (by omega)
    rw [if_pos w2, w3, if_neg (by rw [e]; decide), if_pos e, w4, w5 e, h.A]
  · obtain ⟨w1, w2, w3, w4, w5⟩ := h.work (by omega)
    rw [if_pos w2, w3, if_pos (by rw [e]; decide), if_neg (by omega), if_pos e, w4, h.A]

/-- The page, told by the document's way and by the program's. -/
theorem pageAt_is (a : Nat) (L : List Nat) (n j : Nat) (hj : j < 32) : pageAt a L n j = if (j + 32 - a % 32) % 32 < min n 32 then UInt8.ofNat (L.getD ((n - 1 - (n - 1 - (j + 32 - a % 32) % 32) % 32)) 0) else 255 := by
  induction n with
  | zero => show (255 : UInt8) = _; rw [if_neg (by omega)]
  | succ n ih =>
    rw [page_succ, ih]
    have ha := Nat.mod_lt a (show 0 < 32 by decide)
    generalize hd : (j + 32 - a % 32) % 32 = d
    have hd32 : d < 32 := by omega
    have hjd : j = (a + d) % 32 := by omega
    by_cases e : j = (a + n) % 32
    · rw [if_pos e]
      have hnd : n % 32 = d := by omega
      by_cases hn : n < 32
      · rw [if_pos (by omega)]
        congr 2
        have : n = d := by omega
        omega
      · rw [if_pos (by omega)]
        congr 2
        omega
    · rw [if_neg e]
      have hnd : n % 32 ≠ d := fun q => e (by omega)
      by_cases hn : d < min n 32
      · rw [if_pos hn, if_pos (by omega)]
        congr 2
        omega
      · rw [if_neg hn, if_neg (by omega)]
theorem page_is {k : Cmd} {r : RSt} (ha : k.adr = r.adr) (hn : k.count = r.inn.length) (hd : ∀ i, i < r.inn.length → r.inn.length ≤ i + 32 → k.data (i % 32) = UInt8.ofNat (r.inn.getD i 0)) : k.page = pageR r.adr r.inn := by
  unfold Cmd.page pageR
  refine tab_congr fun j hj => ?_
  rw [pageAt_is _ _ _ _ hj, ha, hn]
  generalize he : (j + 32 - r.adr % 32) % 32 = d
  have hd32 : d < 32 := by omega
  by_cases h : d < min r.inn.length 32
  · rw [if_pos h, if_pos h]
    have hi : r.inn.length - 1 - (r.inn.length - 1 - d) % 32 < r.inn.length := by omega
    rw [← hd _ hi (by omega)]
    congr 1
    omega
  · rw [if_neg h, if_neg h]
end Go.Proofs.YtlemmabgbaleiaaGreat
end

/-! Deselect keeps both chips alike. No conditions but those of each statement. -/
section
namespace Go.Proofs.YtlemmabgbaleiaaGreat
open Go.RowKit Plain
set_option linter.unusedVariables false

/-- Both chips at rest, alike but for the command. -/
theorem sim_off {s : St} {r : RSt} (h : Sim s r) (g : Bool) (hg : g = true → s.quad = true ∧ s.busy = false) : Sim { s with sel := false, k := noCmd, goes := g } { r.off with goes := g } :=
  ⟨h.A, h.prot, h.quad, h.wiped, rfl, h.en, rfl, h.sus, h.durs, h.idle, h.work, h.sus32, hg, fun _ => rfl, fun e => absurd e (show ¬ (false = true) by decide), fun e => absurd e (show ¬ (false = true) by decide), fun e => absurd e (show ¬ (false = true) by decide)⟩
theorem Sim.setEn {s : St} {r : RSt} (h : Sim s r) (hs : s.sel = false) (e : Bool) : Sim { s with en := e } { r with en := e } :=
  ⟨h.A, h.prot, h.quad, h.wiped, h.sel, rfl, h.goes, h.sus, h.durs, h.idle, h.work, h.sus32, h.go, h.rest, fun q => absurd (hs.symm.trans q) (by decide), fun q => absurd (hs.symm.trans q) (by decide), fun q => absurd (hs.symm.trans q) (by decide)⟩
theorem Sim.setSus {s : St} {r : RSt} (h : Sim s r) (hs : s.sel = false) (hg : s.goes = false) (e : Bool) (he : e = true → r.kind = 32) : Sim { s with sus := e } { r with sus := e } :=
  ⟨h.A, h.prot, h.quad, h.wiped, h.sel, h.en, h.goes, rfl, h.durs, h.idle, h.work, he, fun q => absurd (hg.symm.trans q) (by decide), h.rest, fun q => absurd (hs.symm.trans q) (by decide), fun q => absurd (hs.symm.trans q) (by decide), fun q => absurd (hs.symm.trans q) (by decide)⟩
theorem Sim.setStat {s : St} {r : RSt} (h : Sim s r) (hs : s.sel = false) (hg : s.goes = false) (p q : Bool) : Sim { s with prot := p, quad := q, en := false } { r with prot := p, quad := q, en := false } :=
  ⟨h.A, rfl, rfl, h.wiped, h.sel, rfl, h.goes, h.sus, h.durs, h.idle, h.work, h.sus32, fun q => absurd (hg.symm.trans q) (by decide), h.rest, fun q => absurd (hs.symm.trans q) (by decide), fun q => absurd (hs.symm.trans q) (by decide), fun q => absurd (hs.symm.trans q) (by decide)⟩
theorem wipeL_set (s : St) (j : Nat) (hj : j < 8) (t : St) (ht : t.wipes = fun i => if i = j then wrap64 (s.wipes i + 1) else s.wipes i) : wipeL t = (wipeL s).set j (wrap64 ((wipeL s).getD j 0 + 1)) := by
  unfold wipeL
  rw [ht]
  rcases (show j = 0 ∨ j = 1 ∨ j = 2 ∨ j = 3 ∨ j = 4 ∨ j = 5 ∨ j = 6 ∨ j = 7 by omega) with rfl | rfl | rfl | rfl | rfl | rfl | rfl | rfl <;> rfl
theorem head_pos {n : Nat} {r : RSt} (h : r.Ok n) : 0 < (r.durs.headD 8).toNat := by
  cases e : r.durs with
  | nil => decide
  | cons d D =>
    have := h.durs.2 d (by rw [e]; exact List.mem_cons_self)
    show 0 < d.toNat
    omega
/-- A program or an erase begins in both. -/
theorem sim_begin {n : Nat} {s : St} {r : RSt} (h : Sim s r) (hok : r.Ok n) (hs : s.sel = false) (hg : s.goes = false) (hk : r.kind = 0) (a : Nat) (er : Bool) (d : ByteArray)
    (hb : (r.op.byte = 32 ∧ er = true ∧ a = r.adr) ∨ (r.op.byte = 2 ∧ er = false ∧ a = r.adr / 32 * 32 ∧ d = pageR r.adr r.inn)) : Sim (s.begin er a d) r.begin := by
  have hsu : s.sus = false := by
    cases e : s.sus
    · rfl
    · have := h.sus32 e; omega
  unfold St.begin RSt.begin
  rw [h.en]
  split
  · exact h
  · have hp : (s.prot && decide (a < 2048)) = (r.prot && decide (r.adr < 2048)) := by
      rw [h.prot]
      congr 1
      apply decide_eq_decide.mpr
      rcases hb with ⟨_, _, e⟩ | ⟨_, _, e, _⟩ <;> omega
    rw [hp]
    split
    · exact h.setEn hs false
    · have hd := head_pos hok
      rcases hb with ⟨e32, rfl, rfl⟩ | ⟨e2, rfl, rfl, rfl⟩
      · rw [if_pos (show r.op.byte = 32 from e32)]
        refine ⟨h.A, h.prot, h.quad, ?_, h.sel, rfl, h.goes, h.sus, by show s.durs.tail = r.durs.tail; rw [h.durs], fun e => absurd e (show ¬ (32 = 0) by decide), fun _ => ⟨by show (s.durs.headD 8).toNat = (r.durs.headD 8).toNat; rw [h.durs], by show 0 < (s.durs.headD 8).toNat; rw [h.durs]; exact hd, rfl, rfl, fun e => absurd e (show ¬ (32 = 2) by decide)⟩, fun _ => rfl, fun q => absurd (hg.symm.trans q) (by decide), h.rest, fun q => absurd (hs.symm.trans q) (by decide), fun q => absurd (hs.symm.trans q) (by decide), fun q => absurd (hs.symm.trans q) (by decide)⟩
        show r.wiped.set (r.adr / 512) (wrap64 (r.wiped.getD (r.adr / 512) 0 + 1)) = _
        rw [h.wiped]
        exact (wipeL_set s (r.adr / 512) (by have := hok.adr; omega) _ rfl).symm
      · rw [if_neg (show ¬ r.op.byte = 32 by omega)]
        refine ⟨h.A, h.prot, h.quad, h.wiped, h.sel, rfl, h.goes, h.sus, by show s.durs.tail = r.durs.tail; rw [h.durs], fun e => absurd (e2.symm.trans e) (by decide), fun _ => ⟨by show (s.durs.headD 8).toNat = (r.durs.headD 8).toNat; rw [h.durs], by show 0 < (s.durs.headD 8).toNat; rw [h.durs]; exact hd, by show false = decide (r.op.byte = 32); rw [e2]; rfl, rfl, fun _ => rfl⟩, fun q => absurd (hsu.symm.trans q) (by decide), fun q => absurd (hg.symm.trans q) (by decide), h.rest, fun q => absurd (hs.symm.trans q) (by decide), fun q => absurd (hs.symm.trans q) (by decide), fun q => absurd (hs.symm.trans q) (by decide)⟩
theorem whole_not {k : Cmd} (h : k.part < 4) : k.whole = false := by unfold Cmd.whole; rw [decide_eq_false (by omega)]; rfl
/-- Whether a command without data is alone. -/
theorem whole_alone {k : Cmd} {r : RSt} (hP : PartSim k r) (hd : r.op.data = 0) : k.whole = r.alone := by
  unfold RSt.alone
  rcases hP with ⟨p, kp, _⟩ | ⟨p, kp, _⟩ | ⟨p, kp, _⟩ | ⟨p, _, kp, kc⟩ | ⟨_, d0, _⟩ | ⟨_, d0, _⟩
  · rw [whole_not (by omega), p]; rfl
  · rw [whole_not (by omega), p]; rfl
  · rw [whole_not (by omega), p]; rfl
  · unfold Cmd.whole; rw [kp, p, kc]; rfl
  · exact absurd hd d0
  · exact absurd hd d0
theorem obey_idle {s : St} {k : Cmd} (h : k.op.byte ≠ 6 ∧ k.op.byte ≠ 4 ∧ k.op.byte ≠ 117 ∧ k.op.byte ≠ 122 ∧ k.op.byte ≠ 1 ∧ k.op.byte ≠ 2 ∧ k.op.byte ≠ 32) : s.obey k = s := by
  unfold St.obey
  rw [if_neg h.1, if_neg h.2.1, if_neg h.2.2.1, if_neg h.2.2.2.1, if_neg h.2.2.2.2.1, if_neg h.2.2.2.2.2.1, if_neg h.2.2.2.2.2.2]
theorem sim_deselect {n : Nat} {s : St} {r : RSt} (h : Sim s r) (hok : r.Ok n) (hs : s.sel = true) : Sim s.deselect r.deselect := by
  have hoff : r.off.Ok n := ⟨hok.A, hok.wiped, hok.durs, hok.kind, hok.left, hok.going, hok.wat, hok.wdata, hok.op, hok.opm, hok.x, hok.x0, hok.bits, hok.bits8, hok.outs, hok.addr1, hok.addr2, hok.part, hok.begun, hok.adr, hok.mode, hok.inn, hok.count, hok.clocks, hok.sent, hok.out⟩
  -- where the command is none
  have plain : s.goes = false → s.k.mode = 0 → Sim s.ended r.off := fun hg hm => by
    have h1 := sim_off h false (fun e => absurd e (by decide))
    have e1 : s.ended = { s with sel := false, k := noCmd, goes := false } := by unfold St.ended; rw [hm]; rfl
    have e2 : r.off = { r.off with goes := false } := by
      have : r.goes = false := h.goes.symm.trans hg
      rw [← this]; rfl
    rw [e1, e2]; exact h1
  cases h.cmd hs with
  | byte hk ht ho hp hc hb ha hm hn h8 hms hi hse =>
    have hg : s.goes = false := by
      cases e : s.goes
      · rfl
      · have := (h.gosel hs e).1; rw [hk] at this; cases this
    have e1 : s.deselect = s.ended := by unfold St.deselect; rw [whole_not (by omega)]; rfl
    have e2 : r.deselect = r.off := if_pos ht
    rw [e1, e2]
    exact plain hg hm
  | none hk ht ho hp hm =>
    have hg : s.goes = false := by
      cases e : s.goes
      · rfl
      · have := (h.gosel hs e).2.1; rw [ht] at this; cases this
    have e1 : s.deselect = s.ended := by
      unfold St.deselect
      split
      · exact obey_idle (by rw [ho]; decide)
      · rfl
    have e2 : r.deselect = r.off := if_pos ht
    rw [e1, e2]
    exact plain hg hm
  | taken hk ht ho hop hm hnm ha0 ha hP =>
    have hc := op_cases hop
    simp only [List.mem_cons, List.not_mem_nil, or_false] at hc
    have hnt : ¬ (r.taken = false) := by rw [ht]; decide
    by_cases b235 : r.op.byte = 235
    · have e2 : r.deselect = { r.off with goes := r.modes && decide (r.mode = 160) } := by unfold RSt.deselect; rw [if_neg hnt, if_pos b235]
      have e1 : s.deselect = s.ended := by
        unfold St.deselect
        split
        · exact obey_idle (by rw [ho, b235]; decide)
        · rfl
      have e3 : s.ended = { s with sel := false, k := noCmd, goes := r.modes && decide (r.mode = 160) } := by
        unfold St.ended
        rw [hm]
        cases r.modes <;> rfl
      rw [e1, e2, e3]
      exact sim_off h _ (fun _ => (h.held hs hk ht).1 b235)
    · have hg : s.goes = false := by
        cases e : s.goes
        · rfl
        · exact absurd (h.gosel hs e).2.2 b235
      have hmd : r.op.mode = false := by
        rcases hc with e | e | e | e | e | e | e | e | e | e | e | e | e | e <;> rw [e] at b235 ⊢ <;> revert b235 <;> decide
      have hm0 : s.k.mode = 0 := by rw [hm, hnm hmd]; rfl
      have hE := plain hg hm0
      have hEs : s.ended.sel = false := rfl
      have hEg : s.ended.goes = false := by show decide (s.k.mode = 160) = false; rw [hm0]; rfl
      by_cases hin : r.op.inn = true ∧ (r.part ≠ 4 ∨ r.bits ≠ 0)
      · have e2 : r.deselect = r.off := by unfold RSt.deselect; rw [if_neg hnt, if_neg b235, if_pos hin]
        have hw : s.k.whole = false := by
          rcases hP with ⟨p, kp, _⟩ | ⟨p, kp, _⟩ | ⟨p, kp, _⟩ | ⟨p, d0, kp, kc⟩ | ⟨p, d0, _, kp, kc, _⟩ | ⟨p, d0, i0, _⟩
          · exact whole_not (by omega)
          · exact whole_not (by omega)
          · exact whole_not (by omega)
          · have := hok.op.inn hin.1; omega
          · unfold Cmd.whole
            rw [kc, decide_eq_false (p := r.bits = 0) (by rcases hin.2 with q | q; exact absurd p q; exact q), Bool.and_false]
          · rw [hin.1] at i0; cases i0
        have e1 : s.deselect = s.ended := by unfold St.deselect; rw [hw]; rfl
        rw [e1, e2]
        exact hE
      · have e2 : r.deselect = r.off.obey := by unfold RSt.deselect; rw [if_neg hnt, if_neg b235, if_neg hin]
        rw [e2]
        cases hinn : r.op.inn
        · -- commands that take nothing in
          by_cases d0 : r.op.data = 0
          · have hwa := whole_alone hP d0
            have hoa : r.off.alone = r.alone := rfl
            unfold St.deselect
            rw [hwa]
            by_cases b6 : r.op.byte = 6
            · rw [robey_6 (r := r.off) b6, hoa]
              cases hal : r.alone
              · rw [if_neg (by decide), Bool.or_false]; exact hE
              · rw [if_pos rfl]
                have e1 : s.ended.obey s.k = { s.ended with en := true } := by unfold St.obey; rw [if_pos (by rw [ho]; exact b6)]
                rw [e1, Bool.or_true]; exact hE.setEn hEs true
            by_cases b4 : r.op.byte = 4
            · rw [robey_4 (r := r.off) b4, hoa]
              cases hal : r.alone
              · rw [if_neg (by decide), Bool.not_false, Bool.and_true]; exact hE
              · rw [if_pos rfl]
                have e1 : s.ended.obey s.k = { s.ended with en := false } := by unfold St.obey; rw [if_neg (by rw [ho]; exact b6), if_pos (by rw [ho]; exact b4)]
                rw [e1, Bool.not_true, Bool.and_false]; exact hE.setEn hEs false
            by_cases b117 : r.op.byte = 117
            · rw [robey_117 (r := r.off) b117, hoa]
              cases hal : r.alone
              · rw [if_neg (by decide), Bool.false_and, Bool.or_false]; exact hE
              · rw [if_pos rfl]
                have e1 : s.ended.obey s.k = { s.ended with sus := decide (0 < s.left) && s.erases } := by unfold St.obey; rw [if_neg (by rw [ho]; exact b6), if_neg (by rw [ho]; exact b4), if_pos (by rw [ho]; exact b117)]; rfl
                have e3 : (r.off.sus || (true && decide (r.off.kind = 32))) = (decide (0 < s.left) && s.erases) := by
                  show (r.sus || (true && decide (r.kind = 32))) = _
                  rw [h.left, Bool.true_and]
                  by_cases z : r.kind = 0
                  · have : r.sus = false := by cases q : r.sus; rfl; have := h.sus32 (h.sus.trans q); omega
                    rw [this, z]; rfl
                  · rw [decide_eq_true z, (h.work z).2.2.1, Bool.true_and]
                    cases q : r.sus
                    · rfl
                    · have := h.sus32 (h.sus.trans q); rw [this]; rfl
                rw [e1, e3]
                refine hE.setSus hEs hEg _ (fun q => ?_)
                show r.kind = 32
                by_cases z : r.kind = 0
                · rw [h.idle z] at q; cases q
                · rw [(h.work z).2.2.1] at q
                  by_cases z2 : r.kind = 32
                  · exact z2
                  · rw [decide_eq_false z2, Bool.and_false] at q; cases q
            by_cases b122 : r.op.byte = 122
            · rw [robey_122 (r := r.off) b122, hoa]
              cases hal : r.alone
              · rw [if_neg (by decide), Bool.not_false, Bool.and_true]; exact hE
              · rw [if_pos rfl]
                have e1 : s.ended.obey s.k = { s.ended with sus := false } := by unfold St.obey; rw [if_neg (by rw [ho]; exact b6), if_neg (by rw [ho]; exact b4), if_neg (by rw [ho]; exact b117), if_pos (by rw [ho]; exact b122)]
                rw [e1, Bool.not_true, Bool.and_false]; exact hE.setSus hEs hEg false (fun q => absurd q (by decide))
            have b32 : r.op.byte = 32 := by
              rcases hc with e | e | e | e | e | e | e | e | e | e | e | e | e | e <;> rw [e] at b235 b6 b4 b117 b122 d0 ⊢ <;> revert b235 b6 b4 b117 b122 d0 <;> decide
            rw [robey_32 (r := r.off) b32, hoa]
            have hap : 0 < r.op.addr := by
              rcases hc with e | e | e | e | e | e | e | e | e | e | e | e | e | e <;> rw [e] at b32 ⊢ <;> revert b32 <;> decide
            cases hal : r.alone
            · rw [if_neg (by decide), if_neg (by decide)]; exact hE
            · rw [if_pos rfl, if_pos rfl]
              have p4 : r.part = 4 := by unfold RSt.alone at hal; by_cases q : r.part = 4; exact q; rw [decide_eq_false q] at hal; cases hal
              have e1 : s.ended.obey s.k = s.ended.begin true r.adr ⟨#[]⟩ := by
                unfold St.obey
                rw [ho, if_neg b6, if_neg b4, if_neg b117, if_neg b122, if_neg (by omega), if_neg (by omega), if_pos b32, ha (by omega) hap]
              rw [e1]
              exact sim_begin hE hoff hEs hEg ((h.held hs hk ht).2 (.inr (.inr b32))) _ _ _ (.inl ⟨b32, rfl, rfl⟩)
          · have hr : r.op.byte ≠ 6 ∧ r.op.byte ≠ 4 ∧ r.op.byte ≠ 117 ∧ r.op.byte ≠ 122 ∧ r.op.byte ≠ 1 ∧ r.op.byte ≠ 2 ∧ r.op.byte ≠ 32 := by
              rcases hc with e | e | e | e | e | e | e | e | e | e | e | e | e | e <;> rw [e] at d0 hinn ⊢ <;> revert d0 hinn <;> decide
            have e1 : s.deselect = s.ended := by
              unfold St.deselect
              split
              · exact obey_idle (by rw [ho]; exact hr)
              · rfl
            rw [e1, robey_none (r := r.off) hr.1 hr.2.1 hr.2.2.1 hr.2.2.2.1 hr.2.2.2.2.1 hr.2.2.2.2.2.1 hr.2.2.2.2.2.2]
            exact hE
        · -- commands that take data in
          have hp4 : r.part = 4 := by rcases Nat.decEq r.part 4 with q | q; exact absurd ⟨hinn, .inl q⟩ hin; exact q
          have hb0 : r.bits = 0 := by rcases Nat.decEq r.bits 0 with q | q; exact absurd ⟨hinn, .inr q⟩ hin; exact q
          have d1 := hok.op.inn hinn
          obtain ⟨kp, kc, kn, kd⟩ : s.k.part = 4 ∧ s.k.clocks = 0 ∧ s.k.count = r.inn.length ∧ ∀ i, i < r.inn.length → r.inn.length ≤ i + 32 → s.k.data (i % 32) = UInt8.ofNat (r.inn.getD i 0) := by
            rcases hP with ⟨p, _⟩ | ⟨p, _⟩ | ⟨p, _⟩ | ⟨p, d0, _⟩ | ⟨p, d0, _, kp, kc, _, kn, kd⟩ | ⟨p, d0, i0, _⟩
            · omega
            · omega
            · omega
            · omega
            · exact ⟨kp, kc.trans hb0, kn, kd⟩
            · rw [hinn] at i0; cases i0
          have hw : s.k.whole = true := by unfold Cmd.whole; rw [kp, kc]; rfl
          have b12 : r.op.byte = 1 ∨ r.op.byte = 2 := by
            rcases hc with e | e | e | e | e | e | e | e | e | e | e | e | e | e <;> rw [e] at hinn ⊢ <;> revert hinn <;> decide
          unfold St.deselect
          rw [hw, if_pos rfl]
          have ofn : ∀ i, i < r.inn.length → (UInt8.ofNat (r.inn.getD i 0)).toNat = r.inn.getD i 0 := fun i hi => by
            have hlt : r.inn.getD i 0 < 256 := by rw [List.getD_eq_getElem?_getD, List.getElem?_eq_getElem hi]; exact hok.inn _ (List.getElem_mem hi)
            have := byte_of (r.inn.getD i 0)
            omega
          rcases b12 with b1 | b2
          · rw [robey_1 (r := r.off) b1]
            have e1 : s.ended.obey s.k = s.ended.putStatus s.k := by unfold St.obey; rw [ho, if_neg (by omega), if_neg (by omega), if_neg (by omega), if_neg (by omega), if_pos b1]
            rw [e1]
            unfold St.putStatus
            have hen : s.ended.en = r.off.en := h.en
            have hcn : (s.ended.en = true ∧ s.k.count = 2) ↔ (r.off.en = true ∧ r.off.inn.length = 2) := by rw [hen, kn]; exact Iff.rfl
            by_cases q : s.ended.en = true ∧ s.k.count = 2
            · rw [if_pos q, if_pos (hcn.1 q)]
              have hl : r.inn.length = 2 := kn.symm.trans q.2
              have q0 := kd 0 (by omega) (by omega)
              have q1 := kd 1 (by omega) (by omega)
              rw [show s.k.data 0 = _ from q0, show s.k.data 1 = _ from q1, ofn 0 (by omega), ofn 1 (by omega)]
              exact hE.setStat hEs hEg _ _
            · rw [if_neg q, if_neg (fun q2 => q (hcn.2 q2))]
              exact hE
          · rw [robey_2 (r := r.off) b2]
            have hap : 0 < r.op.addr := by
              rcases hc with e | e | e | e | e | e | e | e | e | e | e | e | e | e <;> rw [e] at b2 ⊢ <;> revert b2 <;> decide
            have had := ha (by omega) hap
            have e1 : s.ended.obey s.k = if 0 < s.k.count then s.ended.begin false (s.k.adr - s.k.adr % 32) s.k.page else s.ended := by unfold St.obey; rw [ho, if_neg (by omega), if_neg (by omega), if_neg (by omega), if_neg (by omega), if_neg (by omega), if_pos b2]
            rw [e1, kn]
            show Sim _ (if 0 < r.inn.length then r.off.begin else r.off)
            split
            · refine sim_begin hE hoff hEs hEg ((h.held hs hk ht).2 (.inr (.inl b2))) _ _ _ (.inr ⟨b2, rfl, ?_, page_is had kn kd⟩)
              show s.k.adr - s.k.adr % 32 = r.adr / 32 * 32
              rw [had]; omega
            · exact hE
end Go.Proofs.YtlemmabgbaleiaaGreat
end
