/-
  A clock keeps both chips alike, and both say the same. No conditions but those of each statement.
-/
import Derived.Test.YtlemmabgbaleiaaGreatSim2
import Derived.Test.YtlemmabgbaleiaaGreatRClock
namespace Go.Proofs.YtlemmabgbaleiaaGreat
open Go.RowKit Plain
set_option linter.unusedVariables false

theorem quiet_hear (s : St) (x : Nat) (hs : s.sel = true) (h : s.k.speaks = false) : s.heard x = (s.hear x, 15) := by
  unfold St.heard; rw [if_neg (by rw [hs]; decide), if_neg (by rw [h]; decide)]
theorem speaks_not {k : Cmd} (h : k.part ≠ 4) : k.speaks = false := by unfold Cmd.speaks; rw [decide_eq_false h]; rfl
theorem hear_more {s : St} {x : Nat} (h : s.k.clocks + 1 ≠ s.k.split.2) : s.hear x = s.setK (s.k.came x) := if_neg h
theorem hear_full {s : St} {x : Nat} (h : s.k.clocks + 1 = s.k.split.2) : s.hear x = (s.setK (s.k.came x)).complete := if_pos h

theorem heard_byte {s : St} {r : RSt} {x : Nat} (h : Sim s r) (hs : s.sel = true) (hk : r.known = false) (htk : r.taken = false) (ho : s.k.op = noOp) (hp : s.k.part = 0) (hc : s.k.clocks = r.bits) (hb : s.k.bits = r.x) (ha : s.k.adr = 0) (hm : s.k.mode = 0) (hn : s.k.count = 0) (h8 : r.bits < 8) (hms : r.modes = false) (hi : r.inn = []) (hse : r.sent = 0) :
    Sim (s.heard x).1 (r.heard x).1 ∧ (s.heard x).2 = (r.heard x).2 := by
  have hrs : r.sel = true := h.sel.symm.trans hs
  have hgo : s.goes = false := by
    cases e : s.goes
    · rfl
    · have := (h.gosel hs e).1; rw [hk] at this; cases this
  have hsp : s.k.split = (1, 8) := by unfold Cmd.split; rw [hp]; rfl
  rw [quiet_hear s x hs (speaks_not (by omega))]
  have er : r.heard x = (if r.bits + 1 = 8 then RSt.command { r with x := r.x * 2 + x % 2, bits := r.bits + 1 } (r.x * 2 + x % 2) else { r with x := r.x * 2 + x % 2, bits := r.bits + 1 }, 15) := by
    unfold RSt.heard; rw [if_neg (by rw [hrs]; decide), if_pos hk]
  have hcb : (s.k.came x).bits = r.x * 2 + x % 2 := by show s.k.bits * 2 ^ s.k.split.1 + x % 2 ^ s.k.split.1 = _; rw [hsp, hb]; simp
  rw [er]
  refine ⟨?_, rfl⟩
  by_cases e8 : r.bits + 1 = 8
  · have e1 : s.hear x = (s.setK (s.k.came x)).take (r.x * 2 + x % 2) := by
      rw [hear_full (by rw [hsp, hc]; exact e8)]
      unfold St.complete
      rw [if_pos (by exact hp)]
      show (s.setK (s.k.came x)).take (s.k.came x).bits = _
      rw [hcb]
    rw [e1]
    show Sim _ (if r.bits + 1 = 8 then _ else _)
    rw [if_pos e8]
    exact sim_take h hs (s.k.came x) _ _ _ ho hp ha hm hn hms hi hse (fun q => absurd (hgo.symm.trans q) (by decide))
  · rw [hear_more (by rw [hsp, hc]; exact e8)]
    show Sim _ (if r.bits + 1 = 8 then _ else _)
    rw [if_neg e8]
    exact h.step rfl hs (.byte hk htk ho hp (by show s.k.clocks + 1 = r.bits + 1; rw [hc]) hcb ha hm hn (by show r.bits + 1 < 8; omega) hms hi hse) (fun q => absurd (hgo.symm.trans q) (by decide)) (fun q => absurd (hk.symm.trans q) (by decide))
theorem heard_none {s : St} {r : RSt} {x : Nat} (h : Sim s r) (hs : s.sel = true) (hk : r.known = true) (ht : r.taken = false) (ho : s.k.op = noOp) (hp : s.k.part = 5) (hm : s.k.mode = 0) :
    Sim (s.heard x).1 (r.heard x).1 ∧ (s.heard x).2 = (r.heard x).2 := by
  have hrs : r.sel = true := h.sel.symm.trans hs
  have hsp : s.k.split = (0, 0) := by unfold Cmd.split; rw [hp]; rfl
  have er : r.heard x = (r, 15) := by unfold RSt.heard; rw [if_neg (by rw [hrs]; decide), if_neg (by rw [hk]; decide), if_pos ht]
  rw [quiet_hear s x hs (speaks_not (by omega)), er, hear_more (by rw [hsp]; exact Nat.succ_ne_zero _)]
  exact ⟨h.step rfl hs (.none hk ht ho hp hm) (fun q => absurd (ht.symm.trans (h.gosel hs q).2.1) (by decide)) (fun _ q => absurd (ht.symm.trans q) (by decide)), rfl⟩
theorem heard_part {r : RSt} {x : Nat} (hrs : r.sel = true) (hk : r.known = true) (ht : r.taken = true) : r.heard x = r.part1 x := by
  unfold RSt.heard; rw [if_neg (by rw [hrs]; decide), if_neg (by rw [hk]; decide), if_neg (by rw [ht]; decide)]
theorem mul_full {c l N B : Nat} (hl : l = 1 ∨ l = 4) (hN : N = 24 ∨ N = 8) (hB : c * l = B) : c + 1 = N / l ↔ B + l = N := by
  rcases hl with rfl | rfl <;> rcases hN with rfl | rfl <;> omega
theorem over_pos {l N : Nat} (hl : l = 1 ∨ l = 4) : over l N = (l, N / l) := by unfold over; rw [if_neg (by omega)]

theorem data_is {n : Nat} {s : St} {r : RSt} (h : Sim s r) (hok : r.Ok n) (ho : s.k.op = r.op) (hop : ∃ x : Nat, isOp (x : Int) = true ∧ r.op = opOf x) (hd : r.op.data ≠ 0) (hin : r.op.inn = false) (ha0 : r.op.addr = 0 → s.k.adr = 0) (ha : 0 < r.op.addr → s.k.adr = r.adr) (hse : r.sent = s.k.count) : s.dataByte = r.byteOut := by
  unfold St.dataByte RSt.byteOut
  rw [ho, h.first, h.second]
  have hc := op_cases hop
  simp only [List.mem_cons, List.not_mem_nil, or_false] at hc
  have e32 : sfdpT.size = 32 := by decide
  have e3 : idT.size = 3 := by decide
  have hA : s.A.size = 4096 := by rw [h.A]; exact hok.A
  by_cases b159 : r.op.byte = 159
  · rw [if_pos b159, if_pos b159]
    have hz : r.op.addr = 0 := by rcases hc with e | e | e | e | e | e | e | e | e | e | e | e | e | e <;> rw [e] at b159 ⊢ <;> revert b159 <;> decide
    unfold Cmd.around
    rw [ha0 hz, e3, Nat.zero_add, hse]
  · rw [if_neg b159, if_neg b159]
    by_cases b5 : r.op.byte = 5
    · rw [if_pos b5, if_pos b5]
    · rw [if_neg b5, if_neg b5]
      by_cases b53 : r.op.byte = 53
      · rw [if_pos b53, if_pos b53]
      · rw [if_neg b53, if_neg b53]
        have hp : 0 < r.op.addr := by
          rcases hc with e | e | e | e | e | e | e | e | e | e | e | e | e | e <;> rw [e] at b159 b5 b53 hd hin ⊢ <;> revert b159 b5 b53 hd hin <;> decide
        by_cases b90 : r.op.byte = 90
        · rw [if_pos b90, if_pos b90]
          unfold Cmd.around
          rw [ha hp, e32, hse]
        · rw [if_neg b90, if_neg b90]
          unfold Cmd.around
          rw [ha hp, hA, h.A, hse]
theorem heard_taken {n : Nat} {s : St} {r : RSt} {x : Nat} (h : Sim s r) (hok : r.Ok n) (hs : s.sel = true) (hk : r.known = true) (ht : r.taken = true) (ho : s.k.op = r.op) (hop : ∃ x : Nat, isOp (x : Int) = true ∧ r.op = opOf x) (hm : s.k.mode = if r.modes then r.mode else 0) (hnm : r.op.mode = false → r.modes = false)
    (ha0 : r.op.addr = 0 → s.k.adr = 0) (ha : r.part ≠ 1 → 0 < r.op.addr → s.k.adr = r.adr) (hP : PartSim s.k r) :
    Sim (s.heard x).1 (r.heard x).1 ∧ (s.heard x).2 = (r.heard x).2 := by
  have hrs : r.sel = true := h.sel.symm.trans hs
  have hgs : s.goes = true → r.op.byte = 235 := fun q => (h.gosel hs q).2.2
  rw [heard_part hrs hk ht]
  rcases hP with ⟨p, kp, kc, kb, kn, hi, hse⟩ | ⟨p, kp, kc, kb, kn, hi, hse⟩ | ⟨p, kp, kc, kn, hi, hse⟩ | ⟨p, d0, kp, kc⟩ | ⟨p, d0, hin, kp, kc, kb, kn, kd⟩ | ⟨p, d0, hin, kp, kc, ksd, kse⟩
  · obtain ⟨hl, -⟩ := hok.addr1 hk p
    have hsp : s.k.split = (r.op.addr, 24 / r.op.addr) := by unfold Cmd.split; rw [kp, ho]; exact over_pos hl
    have hcb : (s.k.came x).bits = r.x * 2 ^ r.op.addr + x % 2 ^ r.op.addr := by show s.k.bits * 2 ^ s.k.split.1 + x % 2 ^ s.k.split.1 = _; rw [hsp, kb]
    have e15 : (r.part1 x).2 = 15 := (part1_same r x (by omega) (by omega) (by omega)).1
    rw [quiet_hear s x hs (speaks_not (by omega)), e15]
    refine ⟨?_, rfl⟩
    have hiff := mul_full (N := 24) hl (.inl rfl) kc
    by_cases ef : r.bits + r.op.addr = 24
    · have e1 : (r.part1 x).1 = RSt.goOn { r with clocks := r.clocks + 1, x := r.x * 2 ^ r.op.addr + x % 2 ^ r.op.addr, bits := r.bits + r.op.addr, adr := (r.x * 2 ^ r.op.addr + x % 2 ^ r.op.addr) % 4096 } 1 := by unfold RSt.part1; rw [if_pos p, if_pos ef]
      have e2 : s.hear x = s.setK (Cmd.turn { s.k.came x with adr := (r.x * 2 ^ r.op.addr + x % 2 ^ r.op.addr) % 4096 }) := by
        rw [hear_full (by rw [hsp]; exact hiff.2 ef)]
        unfold St.complete
        rw [if_neg (by show ¬ s.k.part = 0; omega), if_pos (by exact kp)]
        show s.setK (Cmd.turn { s.k.came x with adr := (s.k.came x).bits % 4096 }) = _
        rw [hcb]
      rw [e1]
      show Sim (s.hear x) _
      rw [e2]
      exact h.step rfl hs (.taken hk ht ho hop hm hnm (fun q => absurd (show r.op.addr = 0 from q) (by omega)) (fun _ _ => rfl) (part_turn ho hop kp (by decide) kn hi hse)) (fun q => ⟨hk, ht, hgs q⟩) (fun _ _ => h.held hs hk ht)
    · have e1 : (r.part1 x).1 = { r with clocks := r.clocks + 1, x := r.x * 2 ^ r.op.addr + x % 2 ^ r.op.addr, bits := r.bits + r.op.addr } := by unfold RSt.part1; rw [if_pos p, if_neg ef]
      rw [e1]
      show Sim (s.hear x) _
      rw [hear_more (by rw [hsp]; exact fun q => ef (hiff.1 q))]
      refine h.step rfl hs (.taken hk ht ho hop hm hnm ha0 ha (.inl ⟨p, kp, ?_, hcb, kn, hi, hse⟩)) (fun q => ⟨hk, ht, hgs q⟩) (fun _ _ => h.held hs hk ht)
      show (s.k.clocks + 1) * r.op.addr = r.bits + r.op.addr
      rw [Nat.add_mul, kc, Nat.one_mul]
  · obtain ⟨hl4, -, -⟩ := hok.addr2 hk p
    have hmode : r.op.mode = true := by
      have hc := op_cases hop
      simp only [List.mem_cons, List.not_mem_nil, or_false] at hc
      rcases hc with e | e | e | e | e | e | e | e | e | e | e | e | e | e <;> rw [e] at hl4 ⊢ <;> revert hl4 <;> decide
    have hl : r.op.addr = 1 ∨ r.op.addr = 4 := .inr hl4
    have hsp : s.k.split = (r.op.addr, 8 / r.op.addr) := by unfold Cmd.split; rw [kp, ho]; show (if r.op.mode = true then over r.op.addr 8 else (0, 0)) = _; rw [if_pos hmode]; exact over_pos hl
    have hcb : (s.k.came x).bits = r.x * 2 ^ r.op.addr + x % 2 ^ r.op.addr := by show s.k.bits * 2 ^ s.k.split.1 + x % 2 ^ s.k.split.1 = _; rw [hsp, kb]
    have e15 : (r.part1 x).2 = 15 := (part1_same r x (by omega) (by omega) (by omega)).1
    rw [quiet_hear s x hs (speaks_not (by omega)), e15]
    refine ⟨?_, rfl⟩
    have hiff := mul_full (N := 8) hl (.inr rfl) kc
    by_cases ef : r.bits + r.op.addr = 8
    · have e1 : (r.part1 x).1 = RSt.goOn { r with clocks := r.clocks + 1, x := r.x * 2 ^ r.op.addr + x % 2 ^ r.op.addr, bits := r.bits + r.op.addr, mode := r.x * 2 ^ r.op.addr + x % 2 ^ r.op.addr, modes := true } 2 := by unfold RSt.part1; rw [if_neg (by omega), if_pos p, if_pos ef]
      have e2 : s.hear x = s.setK (Cmd.turn { s.k.came x with mode := r.x * 2 ^ r.op.addr + x % 2 ^ r.op.addr }) := by
        rw [hear_full (by rw [hsp]; exact hiff.2 ef)]
        unfold St.complete
        rw [if_neg (by show ¬ s.k.part = 0; omega), if_neg (by show ¬ s.k.part = 1; omega), if_pos (by exact kp)]
        show s.setK (Cmd.turn { s.k.came x with mode := (s.k.came x).bits }) = _
        rw [hcb]
      rw [e1]
      show Sim (s.hear x) _
      rw [e2]
      exact h.step rfl hs (.taken hk ht ho hop rfl (fun q => absurd (hmode.symm.trans q) (by decide)) ha0 (fun _ q => ha (by omega) q) (part_turn ho hop kp (by decide) kn hi hse)) (fun q => ⟨hk, ht, hgs q⟩) (fun _ _ => h.held hs hk ht)
    · have e1 : (r.part1 x).1 = { r with clocks := r.clocks + 1, x := r.x * 2 ^ r.op.addr + x % 2 ^ r.op.addr, bits := r.bits + r.op.addr } := by unfold RSt.part1; rw [if_neg (by omega), if_pos p, if_neg ef]
      rw [e1]
      show Sim (s.hear x) _
      rw [hear_more (by rw [hsp]; exact fun q => ef (hiff.1 q))]
      refine h.step rfl hs (.taken hk ht ho hop hm hnm ha0 ha (.inr (.inl ⟨p, kp, ?_, hcb, kn, hi, hse⟩))) (fun q => ⟨hk, ht, hgs q⟩) (fun _ _ => h.held hs hk ht)
      show (s.k.clocks + 1) * r.op.addr = r.bits + r.op.addr
      rw [Nat.add_mul, kc, Nat.one_mul]
  · have hsp : s.k.split = (1, r.op.dummy) := by unfold Cmd.split; rw [kp, ho]; rfl
    have e15 : (r.part1 x).2 = 15 := (part1_same r x (by omega) (by omega) (by omega)).1
    rw [quiet_hear s x hs (speaks_not (by omega)), e15]
    refine ⟨?_, rfl⟩
    by_cases ef : r.clocks + 1 = r.op.dummy
    · have e1 : (r.part1 x).1 = RSt.goOn { r with clocks := r.clocks + 1 } 3 := by unfold RSt.part1; rw [if_neg (by omega), if_neg (by omega), if_pos p, if_pos ef]
      have e2 : s.hear x = s.setK (Cmd.turn (s.k.came x)) := by
        rw [hear_full (by rw [hsp, kc]; exact ef)]
        unfold St.complete
        rw [if_neg (by show ¬ s.k.part = 0; omega), if_neg (by show ¬ s.k.part = 1; omega), if_neg (by show ¬ s.k.part = 2; omega), if_neg (by show ¬ s.k.part = 4; omega)]
        rfl
      rw [e1]
      show Sim (s.hear x) _
      rw [e2]
      exact h.step rfl hs (.taken hk ht ho hop hm hnm ha0 (fun _ q => ha (by omega) q) (part_turn ho hop kp (by decide) kn hi hse)) (fun q => ⟨hk, ht, hgs q⟩) (fun _ _ => h.held hs hk ht)
    · have e1 : (r.part1 x).1 = { r with clocks := r.clocks + 1 } := by unfold RSt.part1; rw [if_neg (by omega), if_neg (by omega), if_pos p, if_neg ef]
      rw [e1]
      show Sim (s.hear x) _
      rw [hear_more (by rw [hsp, kc]; exact ef)]
      exact h.step rfl hs (.taken hk ht ho hop hm hnm ha0 ha (.inr (.inr (.inl ⟨p, kp, by show s.k.clocks + 1 = r.clocks + 1; rw [kc], kn, hi, hse⟩)))) (fun q => ⟨hk, ht, hgs q⟩) (fun _ _ => h.held hs hk ht)
  · have hsp : s.k.split = (0, 0) := by unfold Cmd.split; rw [kp]; rfl
    have e1 : r.part1 x = ({ r with clocks := r.clocks + 1 }, 15) := by rw [part1_data r x p]; exact if_pos d0
    rw [quiet_hear s x hs (speaks_not (by omega)), e1, hear_more (by rw [hsp]; exact Nat.succ_ne_zero _)]
    exact ⟨h.step rfl hs (.taken hk ht ho hop hm hnm ha0 ha (.inr (.inr (.inr (.inl ⟨p, d0, kp, by show s.k.clocks + 1 = r.clocks + 1; rw [kc]⟩))))) (fun q => ⟨hk, ht, hgs q⟩) (fun _ _ => h.held hs hk ht), rfl⟩
  · have d1 : r.op.data = 1 := hok.op.inn hin
    have hsp : s.k.split = (1, 8) := by unfold Cmd.split; rw [kp, ho]; show over r.op.data 8 = _; rw [d1]; rfl
    have hsk : s.k.speaks = false := by unfold Cmd.speaks; rw [ho, hin]; simp
    have hcb : (s.k.came x).bits = r.x * 2 + x % 2 := by show s.k.bits * 2 ^ s.k.split.1 + x % 2 ^ s.k.split.1 = _; rw [hsp, kb]; simp
    rw [quiet_hear s x hs hsk, part1_data r x p]
    by_cases e8 : r.bits + 1 = 8
    · have e1 : RSt.data { r with clocks := r.clocks + 1 } x = ({ r with clocks := r.clocks + 1, inn := r.inn ++ [r.x * 2 + x % 2], bits := 0, x := 0 }, 15) := by
        unfold RSt.data; rw [if_neg d0, if_pos hin]; dsimp only; rw [if_pos e8]
      have e2 : s.hear x = s.setK { s.k.came x with data := fun j => if j = s.k.count % 32 then UInt8.ofNat (r.x * 2 + x % 2) else s.k.data j, count := s.k.count + 1, clocks := 0, bits := 0 } := by
        rw [hear_full (by rw [hsp, kc]; exact e8)]
        unfold St.complete
        rw [if_neg (by show ¬ s.k.part = 0; omega), if_neg (by show ¬ s.k.part = 1; omega), if_neg (by show ¬ s.k.part = 2; omega), if_pos (by exact kp)]
        show s.setK { s.k.came x with data := fun j => if j = s.k.count % 32 then UInt8.ofNat (s.k.came x).bits else s.k.data j, count := s.k.count + 1, clocks := 0, bits := 0 } = _
        rw [hcb]
      rw [e1, e2]
      refine ⟨h.step rfl hs (.taken hk ht ho hop hm hnm ha0 ha (.inr (.inr (.inr (.inr (.inl ⟨p, d0, hin, kp, rfl, rfl, ?_, fun i hi hl => ?_⟩)))))) (fun q => ⟨hk, ht, hgs q⟩) (fun _ _ => h.held hs hk ht), rfl⟩
      · show s.k.count + 1 = (r.inn ++ [_]).length
        rw [List.length_append, kn]; rfl
      · have hi' : i < r.inn.length + 1 := by have : i < (r.inn ++ [r.x * 2 + x % 2]).length := hi; rw [List.length_append] at this; exact this
        have hl' : r.inn.length + 1 ≤ i + 32 := by have : (r.inn ++ [r.x * 2 + x % 2]).length ≤ i + 32 := hl; rw [List.length_append] at this; exact this
        show (if i % 32 = s.k.count % 32 then UInt8.ofNat (r.x * 2 + x % 2) else s.k.data (i % 32)) = UInt8.ofNat ((r.inn ++ [r.x * 2 + x % 2]).getD i 0)
        by_cases ei : i = r.inn.length
        · rw [if_pos (by rw [ei, kn]), ei, List.getD_eq_getElem?_getD, List.getElem?_append_right (Nat.le_refl _), Nat.sub_self]; rfl
        · rw [if_neg (by rw [kn]; omega), kd i (by omega) (by omega), List.getD_eq_getElem?_getD, List.getD_eq_getElem?_getD, List.getElem?_append_left (by omega)]
    · have e1 : RSt.data { r with clocks := r.clocks + 1 } x = ({ r with clocks := r.clocks + 1, x := r.x * 2 + x % 2, bits := r.bits + 1 }, 15) := by
        unfold RSt.data; rw [if_neg d0, if_pos hin]; dsimp only; rw [if_neg e8]
      rw [e1, hear_more (by rw [hsp, kc]; exact e8)]
      exact ⟨h.step rfl hs (.taken hk ht ho hop hm hnm ha0 ha (.inr (.inr (.inr (.inr (.inl ⟨p, d0, hin, kp, by show s.k.clocks + 1 = r.bits + 1; rw [kc], hcb, kn, kd⟩)))))) (fun q => ⟨hk, ht, hgs q⟩) (fun _ _ => h.held hs hk ht), rfl⟩
  · have hdd : r.op.data = 1 ∨ r.op.data = 4 := by have := hok.op.data; omega
    have hsp : s.k.split = (r.op.data, 8 / r.op.data) := by unfold Cmd.split; rw [kp, ho]; exact over_pos hdd
    have hsk : s.k.speaks = true := by unfold Cmd.speaks; rw [ho, hin, kp]; rfl
    have hht : s.heard x = s.tell := by unfold St.heard; rw [if_neg (by rw [hs]; decide), if_pos hsk]
    have hiff := mul_full (N := 8) hdd (.inr rfl) kc
    have hb0 : s.k.clocks = 0 ↔ r.bits = 0 := by rcases hdd with e | e <;> rw [e] at kc <;> omega
    rw [hht, part1_data r x p]
    have hbg : s.begun.k = { s.k with said := (RSt.began { r with clocks := r.clocks + 1 }).out } ∧ Sim s.begun r := by
      unfold St.begun RSt.began
      by_cases z : s.k.clocks = 0
      · rw [if_pos z, if_pos (hb0.1 z)]
        have hse : r.sent = s.k.count := by rw [kse, if_pos z]; rfl
        have hd := data_is h hok ho hop d0 hin ha0 (ha (by omega)) hse
        refine ⟨?_, ?_⟩
        · show { s.k with said := s.dataByte } = { s.k with said := r.byteOut }
          rw [hd]
        · have h1 : Sim s.looked r := by unfold St.looked; split; exact h.made true; exact h
          exact h1.step rfl (by unfold St.looked; split <;> exact hs) (.taken hk ht ho hop hm hnm ha0 ha (.inr (.inr (.inr (.inr (.inr ⟨p, d0, hin, kp, kc, fun q => absurd z q, kse⟩)))))) (fun q => ⟨hk, ht, hgs (by revert q; unfold St.looked; split <;> exact fun q => q)⟩) (fun _ _ => h1.held (by unfold St.looked; split <;> exact hs) hk ht)
      · rw [if_neg z, if_neg (fun q => z (hb0.2 q))]
        refine ⟨?_, h⟩
        show s.k = { s.k with said := r.out }
        rw [← ksd z]
    obtain ⟨hk1, hS1⟩ := hbg
    have hs1 : s.begun.sel = true := by unfold St.begun; split; unfold St.looked; split <;> exact hs; exact hs
    have hgs1 : s.begun.goes = true → r.op.byte = 235 := fun q => (hS1.gosel hs1 q).2.2
    have hin' : ¬ (r.op.inn = true) := by rw [hin]; decide
    have ed : RSt.data { r with clocks := r.clocks + 1 } x = ({ RSt.began { r with clocks := r.clocks + 1 } with bits := if r.bits + r.op.data = 8 then 0 else r.bits + r.op.data }, tellOut ((RSt.began { r with clocks := r.clocks + 1 }).out / 2 ^ (8 - (r.bits + r.op.data)) % 2 ^ r.op.data) r.op.data) := by
      unfold RSt.data; rw [if_neg d0, if_neg hin']
    rw [ed]
    have hmul : (s.k.clocks + 1) * r.op.data = r.bits + r.op.data := by rw [Nat.add_mul, kc, Nat.one_mul]
    refine ⟨?_, ?_⟩
    · show Sim (s.begun.setK s.begun.k.told) _
      have hsent : (RSt.began { r with clocks := r.clocks + 1 }).sent = s.k.count + 1 := by
        unfold RSt.began
        split
        · rename_i z
          show r.sent + 1 = _
          rw [kse, if_pos (hb0.2 z)]
        · rename_i z
          show r.sent = _
          rw [kse, if_neg (fun q => z (hb0.1 q))]
      have hout : ∀ B, ({ RSt.began { r with clocks := r.clocks + 1 } with bits := B } : RSt).core = r.core ∧ ({ RSt.began { r with clocks := r.clocks + 1 } with bits := B } : RSt).known = r.known ∧ ({ RSt.began { r with clocks := r.clocks + 1 } with bits := B } : RSt).taken = r.taken ∧ ({ RSt.began { r with clocks := r.clocks + 1 } with bits := B } : RSt).op = r.op ∧ ({ RSt.began { r with clocks := r.clocks + 1 } with bits := B } : RSt).part = r.part ∧ ({ RSt.began { r with clocks := r.clocks + 1 } with bits := B } : RSt).adr = r.adr ∧ ({ RSt.began { r with clocks := r.clocks + 1 } with bits := B } : RSt).mode = r.mode ∧ ({ RSt.began { r with clocks := r.clocks + 1 } with bits := B } : RSt).modes = r.modes := fun B => by
        unfold RSt.began; split <;> exact ⟨rfl, rfl, rfl, rfl, rfl, rfl, rfl, rfl⟩
      have htold : s.begun.k.told = if s.k.clocks + 1 = 8 / r.op.data then { s.begun.k with clocks := 0, count := s.k.count + 1 } else { s.begun.k with clocks := s.k.clocks + 1 } := by
        unfold Cmd.told
        rw [show s.begun.k.split = (r.op.data, 8 / r.op.data) by rw [hk1]; exact hsp, hk1]
      rw [htold]
      have o9 : ({ RSt.began { r with clocks := r.clocks + 1 } with bits := if r.bits + r.op.data = 8 then 0 else r.bits + r.op.data } : RSt).kind = r.kind := by unfold RSt.began; split <;> rfl
      obtain ⟨o1, o2, o3, o4, o5, o6, o7, o8⟩ := hout (if r.bits + r.op.data = 8 then 0 else r.bits + r.op.data)
      refine hS1.step o1 hs1 ?_ (fun q => ⟨o2.trans hk, o3.trans ht, by rw [o4]; exact hgs1 q⟩) (fun _ _ => by rw [o4, o9]; exact hS1.held hs1 hk ht)
      by_cases ef : r.bits + r.op.data = 8
      · rw [if_pos (hiff.2 ef), if_pos ef]
        rw [if_pos ef] at o2 o3 o4 o5 o6 o7 o8
        refine .taken (o2.trans hk) (o3.trans ht) (by rw [o4, hk1]; exact ho) (by rw [o4]; exact hop) (by rw [o8, o7, hk1]; exact hm) (by rw [o4, o8]; exact hnm) (by rw [o4, hk1]; exact ha0) (by rw [o5, o4, o6, hk1]; exact ha) (.inr (.inr (.inr (.inr (.inr ⟨o5.trans p, by rw [o4]; exact d0, by rw [o4]; exact hin, by rw [hk1]; exact kp, Nat.zero_mul _, fun q => absurd rfl q, ?_⟩)))))
        show (RSt.began { r with clocks := r.clocks + 1 }).sent = s.k.count + 1 + (if 0 = 0 then 0 else 1)
        rw [hsent]; rfl
      · rw [if_neg (fun q => ef (hiff.1 q)), if_neg ef]
        rw [if_neg ef] at o2 o3 o4 o5 o6 o7 o8
        refine .taken (o2.trans hk) (o3.trans ht) (by rw [o4, hk1]; exact ho) (by rw [o4]; exact hop) (by rw [o8, o7, hk1]; exact hm) (by rw [o4, o8]; exact hnm) (by rw [o4, hk1]; exact ha0) (by rw [o5, o4, o6, hk1]; exact ha) (.inr (.inr (.inr (.inr (.inr ⟨o5.trans p, by rw [o4]; exact d0, by rw [o4]; exact hin, by rw [hk1]; exact kp, ?_, fun _ => ?_, ?_⟩)))))
        · rw [o4]; exact hmul
        · rw [hk1]
        · show (RSt.began { r with clocks := r.clocks + 1 }).sent = s.begun.k.count + (if s.k.clocks + 1 = 0 then 0 else 1)
          rw [hsent, hk1, if_neg (Nat.succ_ne_zero _)]
    · show tellOut (tellBits s.begun.k.said (s.k.clocks + 1) s.k.split.1) s.k.split.1 = _
      rw [hsp, hk1]
      unfold tellBits
      show tellOut (_ / 2 ^ (8 - (s.k.clocks + 1) * r.op.data) % 2 ^ r.op.data) r.op.data = _
      rw [hmul]
theorem sim_heard {n : Nat} {s : St} {r : RSt} (h : Sim s r) (hok : r.Ok n) (x : Nat) : Sim (s.heard x).1 (r.heard x).1 ∧ (s.heard x).2 = (r.heard x).2 := by
  cases hs : s.sel
  · have hrs : r.sel = false := h.sel.symm.trans hs
    have e1 : s.heard x = (s, 15) := if_pos hs
    have e2 : r.heard x = (r, 15) := if_pos hrs
    rw [e1, e2]
    exact ⟨h, rfl⟩
  · cases h.cmd hs with
    | byte hk htk ho hp hc hb ha hm hn h8 hms hi hse => exact heard_byte h hs hk htk ho hp hc hb ha hm hn h8 hms hi hse
    | none hk ht ho hp hm => exact heard_none h hs hk ht ho hp hm
    | taken hk ht ho hop hm hnm ha0 ha hP => exact heard_taken h hok hs hk ht ho hop hm hnm ha0 ha hP
theorem sim_clock {n : Nat} {s : St} {r : RSt} (h : Sim s r) (hok : r.Ok n) (x : Nat) : Sim (s.clock x).1 (r.clock x).1 ∧ (s.clock x).2 = (r.clock x).2 := sim_heard (sim_countDown h hok) (ok_countDown hok) x
end Go.Proofs.YtlemmabgbaleiaaGreat
