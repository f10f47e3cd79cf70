/-
  More of what the laws are told of a chip: four lanes, commands that are not whole, a chip that is busy. Plain facts on the machine. Conditions: those of each statement.
-/
import Derived.Test.YtjhjghakfedeeaaGreatTold
import Derived.Test.YtjhjghakfedeeaaGreatKnown
namespace Go.Proofs.YtjhjghakfedeeaaGreat
open Go.RowKit Plain
set_option linter.unusedVariables false

/-- Quad is set. -/
theorem quad_set {s : St} {A : ByteArray} (h : s.Plain A) (he : s.en = true) : (s.say (wordL [1, 0, 2])).Plain A ∧ (s.say (wordL [1, 0, 2])).quad = true ∧ (s.say (wordL [1, 0, 2])).en = false := by
  rw [say_put h.rest 0 2 (by decide) (by decide)]
  unfold St.putStatus
  rw [if_pos ⟨he, rfl⟩]
  exact ⟨⟨⟨⟨h.rest.idle.sel, h.rest.idle.goes, h.rest.idle.k⟩, h.rest.left, h.rest.sus⟩, h.A, h.durs, rfl⟩, rfl, rfl⟩
theorem quad_opFor {s : St} (h : s.Rest) (hq : s.quad = true) (b : Nat) (hb : b = 107 ∨ b = 235) : s.opFor b = opOf b := by
  have ht : s.takes b = true := by
    unfold St.takes
    rw [rest_busy h, hq, if_neg (by omega), if_neg (by omega), if_pos hb]
    rfl
  unfold St.opFor
  rw [ht]
  rfl
theorem quad_none {s : St} (hq : s.quad = false) (b : Nat) (hb : b = 107 ∨ b = 235) : s.opFor b = noOp := by
  have ht : s.takes b = false := by
    unfold St.takes
    rw [hq, if_neg (by omega), if_neg (by omega), if_pos hb]
    rfl
  unfold St.opFor
  rw [ht]
  rfl
theorem run_head_for {s : St} (h : s.Rest) (b : Nat) (hb : b < 256) (hop : s.opFor b = opOf b) (ha : (opOf b).addr = 1) (x y z : Nat) (hx : x < 256) (hy : y < 256) (hz : z < 256) (R : List Nat) :
    s.picked.run (wordL [b, x, y, z] ++ R) = ((s.picked.setK (addrK (opOf b) ((x * 65536 + y * 256 + z) % 4096))).run R |>.1, List.replicate 32 15 ++ ((s.picked.setK (addrK (opOf b) ((x * 65536 + y * 256 + z) % 4096))).run R).2) := by
  have hp : nextPart (opOf b) 0 = 1 := by
    unfold nextPart
    rw [if_pos ⟨by decide, by show 0 < (over (opOf b).addr 24).2; rw [ha]; decide⟩]
  have e1 : wordL [b, x, y, z] = bitsOf b ++ wordL [x, y, z] := rfl
  rw [e1, List.append_assoc, run_append, run_byte (s := s.picked) (rest_picked h) rfl (picked_k h.idle) b hb, picked_opFor, hop]
  show (((s.picked.setK (startK (opOf b))).run (wordL [x, y, z] ++ R)).1, List.replicate 8 15 ++ ((s.picked.setK (startK (opOf b))).run (wordL [x, y, z] ++ R)).2) = _
  rw [run_append, run_addr (s := s.picked) (rest_picked h) rfl (show (startK (opOf b)).part = 1 from hp) ha rfl rfl x y z hx hy hz]
  have e2 : Cmd.turn { startK (opOf b) with adr := (x * 65536 + y * 256 + z) % 4096 } = addrK (opOf b) ((x * 65536 + y * 256 + z) % 4096) := by
    unfold Cmd.turn addrK startK
    show ({ noCmd with op := opOf b, adr := _, part := nextPart (opOf b) (nextPart (opOf b) 0) } : Cmd) = _
    rw [hp]
  rw [e2]
  show (_, List.replicate 8 15 ++ (List.replicate 24 15 ++ _)) = _
  rw [← List.append_assoc, List.replicate_append_replicate]
/-- Two halves of a byte. -/
def halves (b : Nat) : List Nat := [b / 16 % 16, b % 16]
theorem outs_four (b : Nat) : outs 4 b 0 2 = halves b := by
  unfold outs halves
  show [tellOut (tellBits b 1 4) 4, tellOut (tellBits b 2 4) 4] = _
  show [b / 2 ^ 4 % 2 ^ 4, b / 2 ^ 0 % 2 ^ 4] = _
  rw [Nat.pow_zero, Nat.div_one]
theorem run_outs4 {s : St} {k : Cmd} (hq : s.busy = false) (hs : s.sel = true) (hp : k.speaks = true) (hl : k.split = (4, 2)) (hc : k.clocks = 0) (hb : k.op.byte ≠ 90) (m : Nat) (X : List Nat) (hX : X.length = 2 * m) :
    ∃ k', (s.setK k).run X = (s.setK k', ((List.range m).map fun i => (s.setK (k.after i)).dataByte).flatMap halves) ∧ k'.op = k.op ∧ k'.mode = k.mode := by
  induction m generalizing k X with
  | zero =>
    have : X = [] := List.eq_nil_of_length_eq_zero (by omega)
    subst this
    exact ⟨k, rfl, rfl, rfl⟩
  | succ m ih =>
    have hX8 : (X.take 2).length = 2 := by rw [List.length_take]; omega
    rw [show X = X.take 2 ++ X.drop 2 from (List.take_append_drop 2 X).symm, run_append]
    have h1 := run_out hq hs hp hc (X.take 2) (by rw [hl, hX8]) (by rw [hl]; decide)
    have hlk : s.lk k.op.byte = s := by unfold St.lk; rw [if_neg hb]
    rw [hl, hlk] at h1
    rw [h1]
    obtain ⟨k2, h2, h4, h5⟩ := ih (k := { k with said := (s.setK k).dataByte, clocks := 0, count := k.count + 1 }) hp hl rfl hb (X.drop 2) (by rw [List.length_drop]; omega)
    refine ⟨k2, ?_, h4, h5⟩
    rw [h2, List.range_succ_eq_map, List.map_cons, List.map_map, List.flatMap_cons]
    show (_, outs 4 _ 0 2 ++ _) = _
    rw [outs_four]
    congr 2
    show List.flatMap halves _ = List.flatMap halves _
    congr 1
    refine List.map_congr_left fun i _ => ?_
    show (s.setK { k with said := _, clocks := 0, count := k.count + 1 + i }).dataByte = (s.setK { k with count := k.count + (i + 1) }).dataByte
    rw [show k.count + 1 + i = k.count + (i + 1) by omega]
    rfl
theorem split_four {k : Cmd} (hp : k.part = 4) (hd : k.op.data = 4) : k.split = (4, 2) := by simp [Cmd.split, splitO, hp, over, hd]
theorem quad_parts : nextPart (opOf 107) 1 = 3 ∧ nextPart (opOf 107) 3 = 4 := by decide
/-- A read on four lanes. -/
theorem hears_quad {s : St} (h : s.Rest) (hq : s.quad = true) (a : Nat) (ha : a < 4096) (m : Nat) :
    s.hears ((wordL [107, 0, a / 256, a % 256] ++ List.replicate 8 15) ++ List.replicate (2 * m) 15) = List.replicate 40 15 ++ ((List.range m).map fun i => (ub s.A ((a + i) % s.A.size)).toNat).flatMap halves := by
  unfold St.hears
  rw [select_idle h.idle, List.append_assoc, run_head_for h 107 (by decide) (quad_opFor h hq 107 (by decide)) rfl 0 (a / 256) (a % 256) (by decide) (by omega) (by omega), adr_word a ha, run_append,
    run_dummy (s := s.picked) (k := addrK (opOf 107) a) (rest_picked h) rfl quad_parts.1 rfl rfl (List.replicate 8 15) (by simp [addrK, opOf]) (show 0 < 8 by decide)]
  dsimp only
  have hp : (addrK (opOf 107) a).turn.part = 4 := by
    unfold Cmd.turn addrK
    dsimp only
    rw [quad_parts.1, quad_parts.2]
  have hsp : (addrK (opOf 107) a).turn.speaks = true := by unfold Cmd.speaks; rw [hp]; rfl
  obtain ⟨k', h1, _⟩ := run_outs4 (s := s.picked) (k := (addrK (opOf 107) a).turn) (rest_picked h) rfl hsp (split_four hp rfl) rfl (show (107 : Nat) ≠ 90 by decide) m (List.replicate (2 * m) 15) (by simp)
  rw [h1]
  dsimp only
  rw [← List.append_assoc, show (addrK (opOf 107) a).op.dummy = 8 from rfl, List.replicate_append_replicate]
  congr 2
  refine List.map_congr_left fun i _ => ?_
  show (ub s.A ((a + (0 + i)) % s.A.size)).toNat = _
  rw [Nat.zero_add]
theorem hears_none {s : St} (h : s.Rest) (b : Nat) (hb : b < 256) (hop : s.opFor b = noOp) (R : List Nat) : s.hears (bitsOf b ++ R) = List.replicate (8 + R.length) 15 := by
  unfold St.hears
  rw [select_idle h.idle, run_append, run_byte (s := s.picked) (rest_picked h) rfl (picked_k h.idle) b hb, picked_opFor, hop]
  dsimp only
  have e1 : s.picked.setK (startK noOp) = s.picked.setK ((startK noOp).mid 0 0) := rfl
  rw [e1, feed_some (s := s.picked) (k := startK noOp) (rest_picked h) rfl rfl R 0 0 (Or.inl rfl)]
  dsimp only
  rw [List.replicate_append_replicate]
theorem halves_get (m : Nat) (f : Nat → Nat) (t : Nat) (ht : t < m) : (((List.range m).map f).flatMap halves).getD (2 * t) 0 = f t / 16 % 16 ∧ (((List.range m).map f).flatMap halves).getD (2 * t + 1) 0 = f t % 16 := by
  induction m generalizing f t with
  | zero => omega
  | succ m ih =>
    rw [List.range_succ_eq_map, List.map_cons, List.map_map, List.flatMap_cons]
    cases t with
    | zero => exact ⟨rfl, rfl⟩
    | succ t =>
      have := ih (f ∘ Nat.succ) t (by omega)
      rw [show 2 * (t + 1) = 2 * t + 2 by omega, show 2 * t + 2 + 1 = (2 * t + 1) + 2 by omega]
      exact this
theorem halves_length (L : List Nat) : (L.flatMap halves).length = 2 * L.length := by
  induction L with
  | nil => rfl
  | cons x r ih => rw [List.flatMap_cons, List.length_append, ih]; show 2 + _ = _; rw [List.length_cons]; omega

/-- A chip whose cells and counts are as they were. -/
structure St.Calm (s : St) (A : ByteArray) : Prop where
  rest : s.Rest
  A : s.A = A
  wipes : ∀ i, s.wipes i = 0
theorem calm_new (a : ByteArray) : (newSt a).Calm a := ⟨rest_new a, rfl, fun _ => rfl⟩
theorem calm_en {s : St} {A : ByteArray} (h : s.Calm A) (e : Bool) : ({ s with en := e } : St).Calm A := ⟨rest_en h.rest e, h.A, h.wipes⟩
theorem calm_first {s : St} {A : ByteArray} (h : s.Calm A) : s.first % 2 = 0 := by
  unfold St.first
  rw [rest_busy h.rest]
  cases s.en <;> cases s.prot <;> rfl
theorem say_cut {s : St} (h : s.Rest) (b : Nat) (hb : b < 256) (hn : b ≠ 107 ∧ b ≠ 235) (ha : (opOf b).addr = 1) (X : List Nat) (hX : X.length < 24) : s.say (bitsOf b ++ X) = s := by
  have hp : (startK (opOf b)).part = 1 := by
    show nextPart (opOf b) 0 = 1
    unfold nextPart
    rw [if_pos ⟨by decide, by show 0 < (over (opOf b).addr 24).2; rw [ha]; decide⟩]
  have hsp : (startK (opOf b)).split = (1, 24) := by
    unfold Cmd.split splitO
    rw [hp, if_neg (by decide), if_pos rfl]
    show over (opOf b).addr 24 = _
    rw [ha]; rfl
  have hspk : (startK (opOf b)).speaks = false := by unfold Cmd.speaks; rw [hp]; rfl
  unfold St.say
  rw [select_idle h.idle, run_append, run_byte (s := s.picked) (rest_picked h) rfl (picked_k h.idle) b hb, picked_opFor, rest_opFor h b hn]
  dsimp only
  have e1 : s.picked.setK (startK (opOf b)) = s.picked.setK ((startK (opOf b)).mid 0 0) := rfl
  rw [e1, feed_some (s := s.picked) (k := startK (opOf b)) (rest_picked h) rfl hspk X 0 0 (Or.inr (by rw [hsp]; show 0 + X.length < 24; omega))]
  dsimp only
  rw [deselect_idle h.idle _ (by show (0 : Nat) ≠ 160; decide), if_neg]
  show ¬ (decide (4 ≤ (startK (opOf b)).part) && _) = true
  rw [hp]
  simp
theorem say_more_erase {s : St} (h : s.Rest) (a : Nat) (ha : a < 4096) : s.say (wordL [32, 0, a / 256, a % 256] ++ [14]) = s := by
  unfold St.say
  rw [select_idle h.idle, run_head h 32 (by decide) (by decide) rfl 0 (a / 256) (a % 256) (by decide) (by omega) (by omega), adr_word a ha]
  have e1 : s.picked.setK (addrK (opOf 32) a) = s.picked.setK ((addrK (opOf 32) a).mid 0 0) := rfl
  rw [e1, feed_some (s := s.picked) (k := addrK (opOf 32) a) (rest_picked h) rfl rfl [14] 0 0 (Or.inl rfl)]
  dsimp only
  rw [deselect_idle h.idle _ (by show (0 : Nat) ≠ 160; decide), if_neg]
  show ¬ (decide (4 ≤ 5) && decide (1 = 0)) = true
  simp
theorem say_more_enable {s : St} (h : s.Rest) : s.say (wordL [6] ++ [14]) = s := by
  unfold St.say
  rw [select_idle h.idle, wordL_one, run_append, run_byte (s := s.picked) (rest_picked h) rfl (picked_k h.idle) 6 (by decide), picked_opFor, rest_opFor h 6 (by decide)]
  dsimp only
  have e1 : s.picked.setK (startK (opOf 6)) = s.picked.setK ((startK (opOf 6)).mid 0 0) := rfl
  rw [e1, feed_some (s := s.picked) (k := startK (opOf 6)) (rest_picked h) rfl rfl [14] 0 0 (Or.inl rfl)]
  dsimp only
  rw [deselect_idle h.idle _ (by show (0 : Nat) ≠ 160; decide), if_neg]
  show ¬ (decide (4 ≤ 5) && decide (1 = 0)) = true
  simp
theorem say_cut_data {s : St} (h : s.Rest) (a : Nat) (ha : a < 4096) (X : List Nat) (h0 : 0 < X.length) (hX : X.length < 8) : s.say (wordL [2, 0, a / 256, a % 256] ++ X) = s := by
  unfold St.say
  rw [select_idle h.idle, run_head h 2 (by decide) (by decide) rfl 0 (a / 256) (a % 256) (by decide) (by omega) (by omega), adr_word a ha]
  have e1 : s.picked.setK (addrK (opOf 2) a) = s.picked.setK ((addrK (opOf 2) a).mid 0 0) := rfl
  rw [e1, feed_some (s := s.picked) (k := addrK (opOf 2) a) (rest_picked h) rfl rfl X 0 0 (Or.inr (by rw [split_one (k := addrK (opOf 2) a) rfl rfl]; show 0 + X.length < 8; omega))]
  dsimp only
  rw [deselect_idle h.idle _ (by show (0 : Nat) ≠ 160; decide), if_neg]
  show ¬ (decide (4 ≤ 4) && decide (0 + X.length = 0)) = true
  rw [decide_eq_false (show ¬ 0 + X.length = 0 by omega)]
  simp
theorem begin_off {s : St} (he : s.en = false) (er : Bool) (a : Nat) (d : ByteArray) : s.begin er a d = s := by unfold St.begin; rw [if_pos he]
theorem begin_guard {s : St} (he : s.en = true) (hp : s.prot = true) (er : Bool) (a : Nat) (ha : a < 2048) (d : ByteArray) : s.begin er a d = { s with en := false } := by
  unfold St.begin
  rw [if_neg (by rw [he]; decide), if_pos (by rw [hp, decide_eq_true ha]; rfl)]
theorem say_program_off {s : St} (h : s.Rest) (he : s.en = false) (a : Nat) (ha : a < 4096) (D : List Nat) (hD : ∀ x ∈ D, x < 256) : s.say (wordL (2 :: 0 :: a / 256 :: a % 256 :: D)) = s := by
  rw [say_program h a ha D hD]
  show s.obey (progK a D) = _
  rw [obey_program _ (progK_op a D), begin_off he]
  split <;> rfl
theorem say_program_guard {s : St} (h : s.Rest) (he : s.en = true) (hp : s.prot = true) (a : Nat) (ha : a < 2048) (D : List Nat) (hD : ∀ x ∈ D, x < 256) (h0 : 0 < D.length) : s.say (wordL (2 :: 0 :: a / 256 :: a % 256 :: D)) = { s with en := false } := by
  rw [say_program h a (by omega) D hD]
  show s.obey (progK a D) = _
  rw [obey_program _ (progK_op a D), if_pos (by rw [progK_count]; exact h0), progK_adr, begin_guard he hp _ _ (by omega)]
theorem calm_put {s : St} {A : ByteArray} (h : s.Calm A) (he : s.en = true) : (s.say (wordL [1, 4, 0])).Calm A ∧ (s.say (wordL [1, 4, 0])).prot = true ∧ (s.say (wordL [1, 4, 0])).en = false := by
  rw [say_put h.rest 4 0 (by decide) (by decide)]
  unfold St.putStatus
  rw [if_pos ⟨he, rfl⟩]
  exact ⟨⟨⟨⟨h.rest.idle.sel, h.rest.idle.goes, h.rest.idle.k⟩, h.rest.left, h.rest.sus⟩, h.A, h.wipes⟩, rfl, rfl⟩
end Go.Proofs.YtjhjghakfedeeaaGreat
