/-
  What a chip makes of clocks while something is under way, and what it tells on one lane. Plain facts on the machine. Conditions: those of each statement.
-/
import Derived.Test.YtjhjghakfedeeaaGreatCommands
import Derived.Test.YtjhjghakfedeeaaGreatWhole
namespace Go.Proofs.YtjhjghakfedeeaaGreat
open Go.RowKit Plain
set_option linter.unusedVariables false

theorem clock_off {s : St} (h : s.sel = false) (x : Nat) : s.clock x = (s.countDown, 15) := by
  show s.countDown.heard x = _
  unfold St.heard
  rw [if_pos (by rw [countDown_sel]; exact h)]
/-- So many clocks less. -/
def St.wait (s : St) : Nat → St
  | 0 => s
  | j + 1 => (s.wait j).countDown
theorem wait_sel (s : St) (j : Nat) : (s.wait j).sel = s.sel := by
  induction j with
  | zero => rfl
  | succ j ih => exact (countDown_sel _).trans ih
theorem wait_some {s : St} (hs : s.sus = false) (j : Nat) (hj : j < s.left) : s.wait j = { s with left := s.left - j } := by
  induction j with
  | zero => rfl
  | succ j ih =>
    show (s.wait j).countDown = _
    rw [ih (by omega)]
    have hb : ({ s with left := s.left - j } : St).busy = true := by
      show (decide (0 < s.left - j) && !s.sus) = true
      rw [hs, decide_eq_true (by omega)]; rfl
    unfold St.countDown
    rw [if_pos hb, if_pos (by show 0 < s.left - j - 1; omega)]
    show ({ s with left := s.left - j - 1 } : St) = { s with left := s.left - (j + 1) }
    rw [show s.left - j - 1 = s.left - (j + 1) by omega]
/-- What is under way is done. -/
def St.done (s : St) : St := { s with A := s.on ⟨#[255]⟩, left := 0, erases := false, wat := 0, wdata := ⟨#[]⟩, en := false }
theorem wait_done {s : St} (hs : s.sus = false) (hl : 0 < s.left) : s.wait s.left = s.done := by
  obtain ⟨j, hj⟩ : ∃ j, s.left = j + 1 := ⟨s.left - 1, by omega⟩
  rw [hj]
  show (s.wait j).countDown = _
  rw [wait_some hs j (by omega)]
  have hb : ({ s with left := s.left - j } : St).busy = true := by
    show (decide (0 < s.left - j) && !s.sus) = true
    rw [hs, decide_eq_true (by omega)]; rfl
  unfold St.countDown
  rw [if_pos hb, if_neg (by show ¬ 0 < s.left - j - 1; omega)]
  rfl
theorem wait_more {s : St} (hs : s.sus = false) (hl : 0 < s.left) (j : Nat) : s.wait (s.left + j) = s.done := by
  induction j with
  | zero => exact wait_done hs hl
  | succ j ih =>
    show (s.wait (s.left + j)).countDown = _
    rw [ih]
    exact countDown_idle rfl
theorem wait_zero {s : St} (hb : s.busy = false) (j : Nat) : s.wait j = s := by
  induction j with
  | zero => rfl
  | succ j ih => show (s.wait j).countDown = _; rw [ih]; exact countDown_idle hb
theorem countDown_setK (s : St) (k : Cmd) : (s.setK k).countDown = s.countDown.setK k := by
  unfold St.countDown
  by_cases hb : s.busy = true
  · rw [if_pos (show (s.setK k).busy = true from hb), if_pos hb]
    by_cases h0 : 0 < s.left - 1
    · rw [if_pos (show 0 < (s.setK k).left - 1 from h0), if_pos h0]; rfl
    · rw [if_neg (show ¬ 0 < (s.setK k).left - 1 from h0), if_neg h0]; rfl
  · rw [if_neg (show ¬ (s.setK k).busy = true from hb), if_neg hb]
theorem countDown_picked (s : St) : s.picked.countDown = s.countDown.picked := by
  unfold St.countDown
  by_cases hb : s.busy = true
  · rw [if_pos (show s.picked.busy = true from hb), if_pos hb]
    by_cases h0 : 0 < s.left - 1
    · rw [if_pos (show 0 < s.picked.left - 1 from h0), if_pos h0]; rfl
    · rw [if_neg (show ¬ 0 < s.picked.left - 1 from h0), if_neg h0]; rfl
  · rw [if_neg (show ¬ s.picked.busy = true from hb), if_neg hb]
/-- A clock of a part that is not whole by it, whatever is under way. -/
theorem clockW {s : St} {k : Cmd} (hs : s.sel = true) (hp : k.speaks = false) (b c x : Nat) (hc : c + 1 ≠ k.split.2) :
    (s.setK (k.mid b c)).clock x = (s.countDown.setK (k.mid (b * 2 ^ k.split.1 + x % 2 ^ k.split.1) (c + 1)), 15) := by
  show (s.setK (k.mid b c)).countDown.heard x = _
  rw [countDown_setK]
  unfold St.heard
  rw [if_neg (by show ¬ s.countDown.sel = false; rw [countDown_sel, hs]; decide), if_neg (by show ¬ k.speaks = true; rw [hp]; decide)]
  unfold St.hear
  rw [if_neg (by show ¬ c + 1 = k.split.2; exact hc)]
  rfl
theorem clockW_last {s : St} {k : Cmd} (hs : s.sel = true) (hp : k.speaks = false) (b c x : Nat) (hc : c + 1 = k.split.2) :
    (s.setK (k.mid b c)).clock x = ((s.countDown.setK (k.mid (b * 2 ^ k.split.1 + x % 2 ^ k.split.1) (c + 1))).complete, 15) := by
  show (s.setK (k.mid b c)).countDown.heard x = _
  rw [countDown_setK]
  unfold St.heard
  rw [if_neg (by show ¬ s.countDown.sel = false; rw [countDown_sel, hs]; decide), if_neg (by show ¬ k.speaks = true; rw [hp]; decide)]
  unfold St.hear
  rw [if_pos (by show c + 1 = k.split.2; exact hc)]
  rfl
theorem wait_succ (s : St) (j : Nat) : s.countDown.wait j = s.wait (j + 1) := by
  induction j with
  | zero => rfl
  | succ j ih => show (s.countDown.wait j).countDown = _; rw [ih]; rfl
theorem feedW {s : St} {k : Cmd} (hs : s.sel = true) (hp : k.speaks = false) (X : List Nat) (b c : Nat) (hX : k.split.2 = 0 ∨ c + X.length < k.split.2) :
    (s.setK (k.mid b c)).run X = ((s.wait X.length).setK (k.mid (val k.split.1 b X) (c + X.length)), List.replicate X.length 15) := by
  induction X generalizing s b c with
  | nil => rfl
  | cons x r ih =>
    have hc : c + 1 ≠ k.split.2 := by simp at hX; omega
    show (((s.setK (k.mid b c)).clock x).1.run r |>.1, ((s.setK (k.mid b c)).clock x).2 :: (((s.setK (k.mid b c)).clock x).1.run r).2) = _
    rw [clockW hs hp b c x hc, ih (s := s.countDown) (by rw [countDown_sel]; exact hs) _ (c + 1) (by simp at hX; omega), wait_succ]
    show ((s.wait (r.length + 1)).setK (k.mid _ (c + 1 + r.length)), 15 :: List.replicate r.length 15) = _
    rw [show c + 1 + r.length = c + (x :: r).length by simp; omega]
    rfl
/-- The byte of a command comes, whatever is under way. -/
theorem byteW {s : St} (hs : s.sel = true) (hk : s.k = noCmd) (b : Nat) (hb : b < 256) :
    s.run (bitsOf b) = ((s.wait 8).setK (startK ((s.wait 8).opFor b)), List.replicate 8 15) := by
  have e0 : s = s.setK (noCmd.mid 0 0) := by rw [mid_zero noCmd rfl rfl, ← hk]; rfl
  obtain ⟨Y, x, hY⟩ : ∃ Y x, bitsOf b = Y ++ [x] := ⟨[14 + b / 128 % 2, 14 + b / 64 % 2, 14 + b / 32 % 2, 14 + b / 16 % 2, 14 + b / 8 % 2, 14 + b / 4 % 2, 14 + b / 2 % 2], 14 + b % 2, rfl⟩
  have hl : Y.length = 7 := by
    have h1 : (Y ++ [x]).length = 8 := by rw [← hY]; rfl
    rw [List.length_append] at h1
    simpa using h1
  have hv : val 1 0 (Y ++ [x]) = b := by rw [← hY, val_word 0 b hb]; omega
  rw [val_snoc] at hv
  rw [hY, e0, run_append, feedW (k := noCmd) hs rfl Y 0 0 (Or.inr (by rw [hl]; decide)), hl, run_one]
  have h2 := clockW_last (s := s.wait 7) (k := noCmd) (by rw [wait_sel]; exact hs) rfl (val 1 0 Y) 7 x rfl
  rw [show noCmd.split.1 = 1 from rfl] at h2 ⊢
  rw [hv] at h2
  rw [show (0 : Nat) + 7 = 7 from rfl, h2, ← e0]
  have e8 : (s.wait 7).countDown = s.wait 8 := rfl
  rw [e8]
  generalize s.wait 8 = t
  show ((t.setK (noCmd.mid b 8)).complete, List.replicate 7 15 ++ [15]) = _
  unfold St.complete
  rw [if_pos (show (t.setK (noCmd.mid b 8)).k.part = 0 from rfl)]
  show ((t.setK (noCmd.mid b 8)).take b, _) = _
  unfold St.take
  rw [takes_setK]
  unfold St.opFor
  cases t.takes b <;> rfl
theorem wait_idle {s : St} (h : s.Idle) (j : Nat) : (s.wait j).Idle := by
  induction j with
  | zero => exact h
  | succ j ih =>
    show (s.wait j).countDown.Idle
    unfold St.countDown
    split
    · split <;> exact ⟨ih.sel, ih.goes, ih.k⟩
    · exact ih
theorem wait_picked (s : St) (j : Nat) : s.picked.wait j = (s.wait j).picked := by
  induction j with
  | zero => rfl
  | succ j ih => show (s.picked.wait j).countDown = _; rw [ih, countDown_picked]; rfl
theorem wait_add (s : St) (a b : Nat) : (s.wait a).wait b = s.wait (a + b) := by
  induction b with
  | zero => rfl
  | succ b ih => show ((s.wait a).wait b).countDown = (s.wait (a + b)).countDown; rw [ih]
theorem opOf_255 : opOf 255 = noOp := rfl
theorem opFor_255 (s : St) : s.opFor 255 = noOp := by unfold St.opFor; split <;> rfl
theorem bits_255 : bitsOf 255 = List.replicate 8 15 := by decide
theorem obey_none (s : St) (k : Cmd) (hk : k.op = noOp) : s.obey k = s := by
  unfold St.obey
  rw [hk, if_neg (by decide), if_neg (by decide), if_neg (by decide), if_neg (by decide), if_neg (by decide), if_neg (by decide), if_neg (by decide)]
/-- Clocks of nothing, selected. -/
theorem say_nothing {s : St} (h : s.Idle) (n : Nat) : s.say (List.replicate n 15) = s.wait n := by
  unfold St.say
  rw [select_idle h]
  have e0 : s.picked = s.picked.setK (noCmd.mid 0 0) := by rw [mid_zero noCmd rfl rfl]; show s.picked = s.picked.setK noCmd; rw [← picked_k h]; rfl
  rcases Nat.lt_or_ge n 8 with hn | hn
  · rw [e0, feedW (k := noCmd) rfl rfl _ 0 0 (Or.inr (by rw [List.length_replicate]; show 0 + n < 8; omega)), List.length_replicate, wait_picked]
    show ((s.wait n).picked.setK (noCmd.mid _ (0 + n))).deselect = _
    rw [deselect_idle (wait_idle h n) _ (by show (0 : Nat) ≠ 160; decide), if_neg]
    show ¬ (decide (4 ≤ (0 : Nat)) && _) = true
    simp
  · obtain ⟨m, rfl⟩ : ∃ m, n = 8 + m := ⟨n - 8, by omega⟩
    have e2 : (s.picked.wait 8).wait m = (s.wait (8 + m)).picked := by rw [wait_add, wait_picked]
    have h8 := byteW (s := s.picked) rfl (picked_k h) 255 (by decide)
    rw [opFor_255, bits_255] at h8
    have hi := wait_idle h (8 + m)
    have ht : (s.picked.wait 8).sel = true := by rw [wait_sel]; rfl
    rw [← List.replicate_append_replicate, run_append, h8]
    dsimp only
    generalize s.picked.wait 8 = t at e2 ht
    generalize s.wait (8 + m) = u at e2 hi
    have e1 : t.setK (startK noOp) = t.setK ((startK noOp).mid 0 0) := rfl
    rw [e1, feedW (s := t) (k := startK noOp) ht rfl _ 0 0 (Or.inl rfl), List.length_replicate]
    dsimp only
    rw [e2, deselect_idle hi _ (by show (0 : Nat) ≠ 160; decide), obey_none _ _ rfl]
    split <;> rfl
theorem obey_other (s : St) (k : Cmd) (h : k.op.byte ≠ 6 ∧ k.op.byte ≠ 4 ∧ k.op.byte ≠ 117 ∧ k.op.byte ≠ 122 ∧ k.op.byte ≠ 1 ∧ k.op.byte ≠ 2 ∧ k.op.byte ≠ 32) : s.obey k = s := by
  obtain ⟨h1, h2, h3, h4, h5, h6, h7⟩ := h
  unfold St.obey
  rw [if_neg h1, if_neg h2, if_neg h3, if_neg h4, if_neg h5, if_neg h6, if_neg h7]
theorem split_one {k : Cmd} (hp : k.part = 4) (hd : k.op.data = 1) : k.split = (1, 8) := by simp [Cmd.split, splitO, hp, over, hd]
/-- A read on one lane. -/
theorem hears_read {s : St} (h : s.Rest) (a : Nat) (ha : a < 4096) (m : Nat) :
    s.hears (wordL [3, 0, a / 256, a % 256] ++ List.replicate (8 * m) 15) = List.replicate 32 15 ++ outBs ((List.range m).map fun i => (ub s.A ((a + i) % s.A.size)).toNat) := by
  unfold St.hears
  rw [select_idle h.idle, run_head h 3 (by decide) (by decide) rfl 0 (a / 256) (a % 256) (by decide) (by omega) (by omega), adr_word a ha]
  obtain ⟨s', k', h1, _⟩ := run_outs (s := s.picked) (k := addrK (opOf 3) a) (rest_picked h) rfl rfl (split_one rfl rfl) rfl m (List.replicate (8 * m) 15) (by simp)
  rw [h1]
  dsimp only
  congr 2
  refine List.map_congr_left fun i _ => ?_
  show (ub s.A ((a + (0 + i)) % s.A.size)).toNat = _
  rw [Nat.zero_add]
theorem say_read {s : St} (h : s.Rest) (a : Nat) (ha : a < 4096) (m : Nat) : s.say (wordL [3, 0, a / 256, a % 256] ++ List.replicate (8 * m) 15) = s := by
  unfold St.say
  rw [select_idle h.idle, run_head h 3 (by decide) (by decide) rfl 0 (a / 256) (a % 256) (by decide) (by omega) (by omega), adr_word a ha]
  obtain ⟨s', k', h1, h2, h3, h4⟩ := run_outs (s := s.picked) (k := addrK (opOf 3) a) (rest_picked h) rfl rfl (split_one rfl rfl) rfl m (List.replicate (8 * m) 15) (by simp)
  rw [h1]
  dsimp only
  have h5 : s' = s.picked := by rcases h2 with h2 | h2 <;> exact h2
  rw [h5, deselect_idle h.idle _ (by rw [h4]; show (0 : Nat) ≠ 160; decide)]
  rw [obey_other s k' (by rw [h3]; first | exact (by decide : (3 : Nat) ≠ 6 ∧ (3 : Nat) ≠ 4 ∧ (3 : Nat) ≠ 117 ∧ (3 : Nat) ≠ 122 ∧ (3 : Nat) ≠ 1 ∧ (3 : Nat) ≠ 2 ∧ (3 : Nat) ≠ 32) | decide)]
  split <;> rfl
/-- The three bytes. -/
theorem hears_id {s : St} (h : s.Rest) (m : Nat) : s.hears (wordL [159] ++ List.replicate (8 * m) 15) = List.replicate 8 15 ++ outBs ((List.range m).map fun i => (ub idT (i % 3)).toNat) := by
  unfold St.hears
  rw [select_idle h.idle, wordL_one, run_append, run_byte (s := s.picked) (rest_picked h) rfl (picked_k h.idle) 159 (by decide), picked_opFor, rest_opFor h 159 (by decide)]
  dsimp only
  obtain ⟨s', k', h1, _⟩ := run_outs (s := s.picked) (k := startK (opOf 159)) (rest_picked h) rfl rfl (split_one rfl rfl) rfl m (List.replicate (8 * m) 15) (by simp)
  rw [h1]
  dsimp only
  congr 2
  refine List.map_congr_left fun i _ => ?_
  show (ub idT ((0 + (0 + i)) % 3)).toNat = _
  rw [Nat.zero_add, Nat.zero_add]
theorem say_id {s : St} (h : s.Rest) (m : Nat) : s.say (wordL [159] ++ List.replicate (8 * m) 15) = s := by
  unfold St.say
  rw [select_idle h.idle, wordL_one, run_append, run_byte (s := s.picked) (rest_picked h) rfl (picked_k h.idle) 159 (by decide), picked_opFor, rest_opFor h 159 (by decide)]
  dsimp only
  obtain ⟨s', k', h1, h2, h3, h4⟩ := run_outs (s := s.picked) (k := startK (opOf 159)) (rest_picked h) rfl rfl (split_one rfl rfl) rfl m (List.replicate (8 * m) 15) (by simp)
  rw [h1]
  dsimp only
  have h5 : s' = s.picked := by rcases h2 with h2 | h2 <;> exact h2
  rw [h5, deselect_idle h.idle _ (by rw [h4]; show (0 : Nat) ≠ 160; decide)]
  rw [obey_other s k' (by rw [h3]; first | exact (by decide : (3 : Nat) ≠ 6 ∧ (3 : Nat) ≠ 4 ∧ (3 : Nat) ≠ 117 ∧ (3 : Nat) ≠ 122 ∧ (3 : Nat) ≠ 1 ∧ (3 : Nat) ≠ 2 ∧ (3 : Nat) ≠ 32) | decide)]
  split <;> rfl
end Go.Proofs.YtjhjghakfedeeaaGreat
