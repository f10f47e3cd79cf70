/-
  What a chip makes of a command, part by part: plain facts on the machine. Conditions: those of each statement.
-/
import Derived.Test.YtjhjghakfedeeaaGreatSays
namespace Go.Proofs.YtjhjghakfedeeaaGreat
open Go.RowKit Plain
set_option linter.unusedVariables false

/-- Selected. -/
def St.picked (s : St) : St := { s with sel := true }
/-- The number that comes on l lanes. -/
def val (l : Nat) (a : Nat) (X : List Nat) : Nat := X.foldl (fun a x => a * 2 ^ l + x % 2 ^ l) a
theorem val_snoc (l a : Nat) (X : List Nat) (x : Nat) : val l a (X ++ [x]) = val l a X * 2 ^ l + x % 2 ^ l := by
  unfold val; rw [List.foldl_append]; rfl
theorem val_append (l a : Nat) (X Y : List Nat) : val l a (X ++ Y) = val l (val l a X) Y := by unfold val; rw [List.foldl_append]
/-- What has come of a part, behind so many clocks. -/
def Cmd.mid (k : Cmd) (b c : Nat) : Cmd := { k with bits := b, clocks := c }

theorem countDown_idle {s : St} (h : s.busy = false) : s.countDown = s := by unfold St.countDown; rw [h]; rfl
theorem busy_setK (s : St) (k : Cmd) : (s.setK k).busy = s.busy := rfl
theorem mid_split (k : Cmd) (b c : Nat) : (k.mid b c).split = k.split := rfl
theorem mid_speaks (k : Cmd) (b c : Nat) : (k.mid b c).speaks = k.speaks := rfl
/-- A clock of a part that is not whole by it. -/
theorem clock_mid {s : St} {k : Cmd} (hq : s.busy = false) (hs : s.sel = true) (hp : k.speaks = false) (b c x : Nat) (hc : c + 1 ≠ k.split.2) :
    (s.setK (k.mid b c)).clock x = (s.setK (k.mid (b * 2 ^ k.split.1 + x % 2 ^ k.split.1) (c + 1)), 15) := by
  show (s.setK (k.mid b c)).countDown.heard x = _
  rw [countDown_idle (by rw [busy_setK]; exact hq)]
  unfold St.heard
  rw [if_neg (by show ¬ s.sel = false; rw [hs]; decide), if_neg (by show ¬ k.speaks = true; rw [hp]; decide)]
  unfold St.hear
  rw [if_neg (by show ¬ c + 1 = k.split.2; exact hc)]
  rfl
theorem clock_last {s : St} {k : Cmd} (hq : s.busy = false) (hs : s.sel = true) (hp : k.speaks = false) (b c x : Nat) (hc : c + 1 = k.split.2) :
    (s.setK (k.mid b c)).clock x = ((s.setK (k.mid (b * 2 ^ k.split.1 + x % 2 ^ k.split.1) (c + 1))).complete, 15) := by
  show (s.setK (k.mid b c)).countDown.heard x = _
  rw [countDown_idle (by rw [busy_setK]; exact hq)]
  unfold St.heard
  rw [if_neg (by show ¬ s.sel = false; rw [hs]; decide), if_neg (by show ¬ k.speaks = true; rw [hp]; decide)]
  unfold St.hear
  rw [if_pos (by show c + 1 = k.split.2; exact hc)]
  rfl
theorem feed_some {s : St} {k : Cmd} (hq : s.busy = false) (hs : s.sel = true) (hp : k.speaks = false) (X : List Nat) (b c : Nat) (hX : k.split.2 = 0 ∨ c + X.length < k.split.2) :
    (s.setK (k.mid b c)).run X = (s.setK (k.mid (val k.split.1 b X) (c + X.length)), List.replicate X.length 15) := by
  induction X generalizing b c with
  | nil => rfl
  | cons x r ih =>
    have hc : c + 1 ≠ k.split.2 := by simp at hX; omega
    show (((s.setK (k.mid b c)).clock x).1.run r |>.1, ((s.setK (k.mid b c)).clock x).2 :: (((s.setK (k.mid b c)).clock x).1.run r).2) = _
    rw [clock_mid hq hs hp b c x hc]
    rw [ih _ (c + 1) (by simp at hX; omega)]
    show (s.setK (k.mid _ (c + 1 + r.length)), 15 :: List.replicate r.length 15) = _
    rw [show c + 1 + r.length = c + (x :: r).length by simp; omega]
    rfl
/-- A part that comes whole. -/
theorem feed {s : St} {k : Cmd} (hq : s.busy = false) (hs : s.sel = true) (hp : k.speaks = false) (X : List Nat) (hX : X.length = k.split.2) (h0 : 0 < k.split.2) :
    (s.setK (k.mid 0 0)).run X = ((s.setK (k.mid (val k.split.1 0 X) k.split.2)).complete, List.replicate X.length 15) := by
  obtain ⟨Y, x, rfl⟩ : ∃ Y x, X = Y ++ [x] := by
    rcases List.eq_nil_or_concat X with h | ⟨Y, x, h⟩
    · rw [h] at hX; simp at hX; omega
    · exact ⟨Y, x, by rw [h, List.concat_eq_append]⟩
  have hl : Y.length + 1 = k.split.2 := by simpa using hX
  rw [run_append, feed_some hq hs hp Y 0 0 (by omega), run_one]
  show (((s.setK (k.mid (val k.split.1 0 Y) (0 + Y.length))).clock x).1, _) = _
  rw [clock_last hq hs hp _ _ x (by omega), val_snoc, show 0 + Y.length + 1 = k.split.2 by omega]
  show (_, List.replicate Y.length 15 ++ [15]) = _
  rw [List.length_append]
  show _ = (_, List.replicate (Y.length + 1) 15)
  rw [List.replicate_succ']

/-- A command behind its byte. -/
def startK (o : Op) : Cmd := { noCmd with op := o, part := nextPart o 0 }
theorem mid_zero (k : Cmd) (hb : k.bits = 0) (hc : k.clocks = 0) : k.mid 0 0 = k := by cases k; cases hb; cases hc; rfl
theorem val_byte : ∀ b : Fin 256, val 1 0 (bitsOf b.val) = b.val := by decide +kernel
theorem val_word (a b : Nat) (hb : b < 256) : val 1 a (bitsOf b) = a * 256 + b := by
  have h := val_byte ⟨b, hb⟩
  have h0 : val 1 0 (bitsOf b) = b := h
  simp only [val, bitsOf, List.foldl_cons, List.foldl_nil] at h0 ⊢
  omega
theorem setK_setK (s : St) (k l : Cmd) : (s.setK k).setK l = s.setK l := rfl
theorem setK_self (s : St) : s.setK s.k = s := rfl
/-- What a command is taken for. -/
def St.opFor (s : St) (b : Nat) : Op := if s.takes b then opOf b else noOp
theorem takes_setK (s : St) (k : Cmd) (b : Nat) : (s.setK k).takes b = s.takes b := rfl
theorem run_byte {s : St} (hq : s.busy = false) (hs : s.sel = true) (hk : s.k = noCmd) (b : Nat) (hb : b < 256) :
    s.run (bitsOf b) = (s.setK (startK (s.opFor b)), List.replicate 8 15) := by
  have e0 : s = s.setK (noCmd.mid 0 0) := by rw [mid_zero noCmd rfl rfl, ← hk]; rfl
  rw [e0]
  rw [feed (k := noCmd) (s := s) hq hs rfl (bitsOf b) rfl (by decide)]
  have hv : val noCmd.split.1 0 (bitsOf b) = b := by show val 1 0 (bitsOf b) = b; rw [val_word 0 b hb]; omega
  rw [hv]
  show ((s.setK (noCmd.mid b 8)).complete, _) = _
  unfold St.complete
  rw [if_pos (show (s.setK (noCmd.mid b 8)).k.part = 0 from rfl)]
  show ((s.setK (noCmd.mid b 8)).take b, _) = _
  unfold St.take
  rw [takes_setK, ← e0]
  unfold St.opFor
  cases s.takes b <;> rfl
theorem bitsOf_lt (b x : Nat) (hx : x ∈ bitsOf b) : x < 16 := by
  unfold bitsOf at hx
  simp only [List.mem_cons, List.not_mem_nil, or_false] at hx
  omega
theorem wordL_lt (L : List Nat) (x : Nat) (hx : x ∈ wordL L) : x < 16 := by
  obtain ⟨b, _, h⟩ := List.mem_flatMap.1 hx
  exact bitsOf_lt b x h
theorem wordL_cons (b : Nat) (L : List Nat) : wordL (b :: L) = bitsOf b ++ wordL L := rfl
/-- The address on one lane. -/
theorem run_addr {s : St} {k : Cmd} (hq : s.busy = false) (hs : s.sel = true) (hp : k.part = 1) (ha : k.op.addr = 1) (hb : k.bits = 0) (hc : k.clocks = 0) (x y z : Nat) (hx : x < 256) (hy : y < 256) (hz : z < 256) :
    (s.setK k).run (wordL [x, y, z]) = (s.setK (Cmd.turn { k with adr := (x * 65536 + y * 256 + z) % 4096 }), List.replicate 24 15) := by
  have hsp : k.split = (1, 24) := by simp [Cmd.split, splitO, hp, over, ha]
  have hspk : k.speaks = false := by unfold Cmd.speaks; rw [decide_eq_false (by omega)]; rfl
  have hw : (wordL [x, y, z]).length = 24 := wordL_length _
  rw [show s.setK k = s.setK (k.mid 0 0) by rw [mid_zero k hb hc], feed hq hs hspk _ (by rw [hsp, hw]) (by rw [hsp]; decide), hw, hsp]
  have hv : val 1 0 (wordL [x, y, z]) = x * 65536 + y * 256 + z := by
    rw [wordL_cons, wordL_cons, wordL_cons, val_append, val_append, val_append, val_word 0 x hx, val_word _ y hy, val_word _ z hz]
    show (( 0 * 256 + x) * 256 + y) * 256 + z = _
    omega
  rw [hv]
  unfold St.complete
  rw [if_neg (by show ¬ k.part = 0; omega), if_pos (by show k.part = 1; exact hp)]
  rfl
/-- Clocks of nothing ahead of data. -/
theorem run_dummy {s : St} {k : Cmd} (hq : s.busy = false) (hs : s.sel = true) (hp : k.part = 3) (hb : k.bits = 0) (hc : k.clocks = 0) (X : List Nat) (hX : X.length = k.op.dummy) (h0 : 0 < k.op.dummy) :
    (s.setK k).run X = (s.setK k.turn, List.replicate k.op.dummy 15) := by
  have hsp : k.split = (1, k.op.dummy) := by simp [Cmd.split, splitO, hp]
  have hspk : k.speaks = false := by unfold Cmd.speaks; rw [decide_eq_false (by omega)]; rfl
  rw [show s.setK k = s.setK (k.mid 0 0) by rw [mid_zero k hb hc], feed hq hs hspk X (by rw [hsp]; exact hX) (by rw [hsp]; exact h0), hX]
  unfold St.complete
  rw [if_neg (by show ¬ k.part = 0; omega), if_neg (by show ¬ k.part = 1; omega), if_neg (by show ¬ k.part = 2; omega), if_neg (by show ¬ k.part = 4; omega)]
  rfl
/-- A data byte that comes to the chip. -/
def Cmd.got (k : Cmd) (b : Nat) : Cmd := { k with data := fun j => if j = k.count % 32 then UInt8.ofNat b else k.data j, count := k.count + 1, clocks := 0, bits := 0 }
theorem run_in {s : St} {k : Cmd} (hq : s.busy = false) (hs : s.sel = true) (hp : k.part = 4) (hi : k.op.inn = true) (hd : k.op.data = 1) (hb : k.bits = 0) (hc : k.clocks = 0) (b : Nat) (hbb : b < 256) :
    (s.setK k).run (bitsOf b) = (s.setK (k.got b), List.replicate 8 15) := by
  have hsp : k.split = (1, 8) := by simp [Cmd.split, splitO, hp, over, hd]
  have hspk : k.speaks = false := by unfold Cmd.speaks; rw [hi]; simp
  rw [show s.setK k = s.setK (k.mid 0 0) by rw [mid_zero k hb hc], feed hq hs hspk (bitsOf b) (by rw [hsp]; rfl) (by rw [hsp]; decide), hsp]
  have hv : val 1 0 (bitsOf b) = b := by rw [val_word 0 b hbb]; omega
  rw [hv]
  unfold St.complete
  rw [if_neg (by show ¬ k.part = 0; omega), if_neg (by show ¬ k.part = 1; omega), if_neg (by show ¬ k.part = 2; omega), if_pos (by show k.part = 4; exact hp)]
  rfl
/-- So many. -/
def Cmd.gots (k : Cmd) (L : List Nat) : Cmd := L.foldl Cmd.got k
theorem run_ins {s : St} {k : Cmd} (hq : s.busy = false) (hs : s.sel = true) (hp : k.part = 4) (hi : k.op.inn = true) (hd : k.op.data = 1) (hb : k.bits = 0) (hc : k.clocks = 0) (L : List Nat) (hL : ∀ x ∈ L, x < 256) :
    (s.setK k).run (wordL L) = (s.setK (k.gots L), List.replicate (8 * L.length) 15) := by
  induction L generalizing k with
  | nil => rfl
  | cons x r ih =>
    rw [wordL_cons, run_append, run_in hq hs hp hi hd hb hc x (hL x (by simp))]
    show (((s.setK (k.got x)).run (wordL r)).1, List.replicate 8 15 ++ ((s.setK (k.got x)).run (wordL r)).2) = _
    rw [ih (k := k.got x) hp hi hd rfl rfl (fun y hy => hL y (by simp [hy]))]
    show (s.setK ((k.got x).gots r), List.replicate 8 15 ++ List.replicate (8 * r.length) 15) = _
    rw [List.replicate_append_replicate, List.length_cons, show 8 + 8 * r.length = 8 * (r.length + 1) by omega]
    rfl
/-- A command that ends, of a chip that was idle, no read going on. -/
structure St.Idle (s : St) : Prop where
  sel : s.sel = false
  goes : s.goes = false
  k : s.k = noCmd
theorem select_idle {s : St} (h : s.Idle) : s.select = s.picked := by unfold St.select; rw [if_neg (by rw [h.goes]; decide)]; rfl
theorem deselect_idle {s : St} (h : s.Idle) (k : Cmd) (hm : k.mode ≠ 160) : (s.picked.setK k).deselect = if k.whole then s.obey k else s := by
  have he : (s.picked.setK k).ended = s := by
    unfold St.ended
    show ({ s with sel := false, k := noCmd, goes := decide (k.mode = 160) } : St) = s
    rw [decide_eq_false hm]
    obtain ⟨h1, h2, h3⟩ := h
    cases s
    cases h1; cases h2; cases h3
    rfl
  unfold St.deselect
  rw [he]
  rfl
theorem picked_k {s : St} (h : s.Idle) : s.picked.k = noCmd := h.k
theorem picked_busy (s : St) : s.picked.busy = s.busy := rfl
theorem picked_opFor (s : St) (b : Nat) : s.picked.opFor b = s.opFor b := rfl

/-- The chip behind a byte of command b was looked up. -/
def St.lk (s : St) (b : Nat) : St := if b = 90 then s.like else s
theorem lk_busy (s : St) (b : Nat) : (s.lk b).busy = s.busy := by unfold St.lk; split <;> rfl
theorem lk_sel (s : St) (b : Nat) : (s.lk b).sel = s.sel := by unfold St.lk; split <;> rfl
theorem looked_lk (s : St) (k : Cmd) : (s.setK k).looked = (s.lk k.op.byte).setK k := by unfold St.looked St.lk; show (if k.op.byte = 90 then _ else _) = _; split <;> rfl
/-- A command that tells, with the byte said so far. -/
def Cmd.saying (k : Cmd) (b c : Nat) : Cmd := { k with said := b, clocks := c }
def outs (l b c m : Nat) : List Nat := (List.range m).map fun i => tellOut (tellBits b (c + 1 + i) l) l
theorem outs_succ (l b c m : Nat) : outs l b c (m + 1) = tellOut (tellBits b (c + 1) l) l :: outs l b (c + 1) m := by
  unfold outs
  rw [List.range_succ_eq_map, List.map_cons, List.map_map]
  show _ :: _ = _
  congr 1
  refine List.map_congr_left fun i _ => ?_
  show tellOut (tellBits b (c + 1 + (i + 1)) l) l = tellOut (tellBits b (c + 1 + 1 + i) l) l
  rw [show c + 1 + (i + 1) = c + 1 + 1 + i by omega]
theorem clock_saying {s : St} {k : Cmd} (hq : s.busy = false) (hs : s.sel = true) (hp : k.speaks = true) (b c x : Nat) (hc : 0 < c) (hN : c + 1 ≠ k.split.2) :
    (s.setK (k.saying b c)).clock x = (s.setK (k.saying b (c + 1)), tellOut (tellBits b (c + 1) k.split.1) k.split.1) := by
  show (s.setK (k.saying b c)).countDown.heard x = _
  rw [countDown_idle (by rw [busy_setK]; exact hq)]
  unfold St.heard
  rw [if_neg (by show ¬ s.sel = false; rw [hs]; decide), if_pos (by show k.speaks = true; exact hp)]
  have hb : (s.setK (k.saying b c)).begun = s.setK (k.saying b c) := by unfold St.begun; rw [if_neg (by show ¬ c = 0; omega)]
  unfold St.tell
  rw [hb]
  show (s.setK ((k.saying b c).told), _) = _
  unfold Cmd.told
  rw [if_neg (by show ¬ c + 1 = k.split.2; exact hN)]
  rfl
theorem clock_said {s : St} {k : Cmd} (hq : s.busy = false) (hs : s.sel = true) (hp : k.speaks = true) (b c x : Nat) (hc : 0 < c) (hN : c + 1 = k.split.2) :
    (s.setK (k.saying b c)).clock x = (s.setK { k with said := b, clocks := 0, count := k.count + 1 }, tellOut (tellBits b (c + 1) k.split.1) k.split.1) := by
  show (s.setK (k.saying b c)).countDown.heard x = _
  rw [countDown_idle (by rw [busy_setK]; exact hq)]
  unfold St.heard
  rw [if_neg (by show ¬ s.sel = false; rw [hs]; decide), if_pos (by show k.speaks = true; exact hp)]
  have hb : (s.setK (k.saying b c)).begun = s.setK (k.saying b c) := by unfold St.begun; rw [if_neg (by show ¬ c = 0; omega)]
  unfold St.tell
  rw [hb]
  show (s.setK ((k.saying b c).told), _) = _
  unfold Cmd.told
  rw [if_pos (by show c + 1 = k.split.2; exact hN)]
  rfl
theorem clock_first {s : St} {k : Cmd} (hq : s.busy = false) (hs : s.sel = true) (hp : k.speaks = true) (hc : k.clocks = 0) (x : Nat) (hN : 1 < k.split.2) :
    (s.setK k).clock x = ((s.lk k.op.byte).setK (k.saying (s.setK k).dataByte 1), tellOut (tellBits (s.setK k).dataByte 1 k.split.1) k.split.1) := by
  show (s.setK k).countDown.heard x = _
  rw [countDown_idle (by rw [busy_setK]; exact hq)]
  unfold St.heard
  rw [if_neg (by show ¬ s.sel = false; rw [hs]; decide), if_pos (by show k.speaks = true; exact hp)]
  have hb : (s.setK k).begun = (s.lk k.op.byte).setK { k with said := (s.setK k).dataByte } := by unfold St.begun; rw [if_pos (show (s.setK k).k.clocks = 0 from hc), looked_lk]; rfl
  unfold St.tell
  rw [hb]
  show ((s.lk k.op.byte).setK (Cmd.told { k with said := (s.setK k).dataByte }), tellOut (tellBits (s.setK k).dataByte (k.clocks + 1) k.split.1) k.split.1) = _
  unfold Cmd.told
  rw [if_neg (by show ¬ k.clocks + 1 = k.split.2; rw [hc]; omega), hc]
  rfl
theorem run_saying {s : St} {k : Cmd} (hq : s.busy = false) (hs : s.sel = true) (hp : k.speaks = true) (X : List Nat) (b c : Nat) (hc : 0 < c) (hX : c + X.length < k.split.2) :
    (s.setK (k.saying b c)).run X = (s.setK (k.saying b (c + X.length)), outs k.split.1 b c X.length) := by
  induction X generalizing c with
  | nil => rfl
  | cons x r ih =>
    have hN : c + 1 ≠ k.split.2 := by simp at hX; omega
    show (((s.setK (k.saying b c)).clock x).1.run r |>.1, ((s.setK (k.saying b c)).clock x).2 :: (((s.setK (k.saying b c)).clock x).1.run r).2) = _
    rw [clock_saying hq hs hp b c x hc hN, ih (c + 1) (by omega) (by simp at hX; omega), List.length_cons, outs_succ]
    show (s.setK (k.saying b (c + 1 + r.length)), _) = (s.setK (k.saying b (c + (r.length + 1))), _)
    rw [show c + 1 + r.length = c + (r.length + 1) by omega]
/-- A byte that the chip tells. -/
theorem run_out {s : St} {k : Cmd} (hq : s.busy = false) (hs : s.sel = true) (hp : k.speaks = true) (hc : k.clocks = 0) (X : List Nat) (hX : X.length = k.split.2) (hN : 1 < k.split.2) :
    (s.setK k).run X = ((s.lk k.op.byte).setK { k with said := (s.setK k).dataByte, clocks := 0, count := k.count + 1 }, outs k.split.1 (s.setK k).dataByte 0 k.split.2) := by
  obtain ⟨x, Y, z, rfl⟩ : ∃ x Y z, X = x :: (Y ++ [z]) := by
    cases X with
    | nil => simp at hX; omega
    | cons x r =>
      rcases List.eq_nil_or_concat r with h | ⟨Y, z, h⟩
      · rw [h] at hX; simp at hX; omega
      · exact ⟨x, Y, z, by rw [h, List.concat_eq_append]⟩
  have hl : Y.length + 2 = k.split.2 := by simpa using hX
  generalize hB : (s.setK k).dataByte = B
  show (((s.setK k).clock x).1.run (Y ++ [z]) |>.1, ((s.setK k).clock x).2 :: (((s.setK k).clock x).1.run (Y ++ [z])).2) = _
  rw [clock_first hq hs hp hc x hN, hB]
  have hq' : (s.lk k.op.byte).busy = false := by rw [lk_busy]; exact hq
  have hs' : (s.lk k.op.byte).sel = true := by rw [lk_sel]; exact hs
  rw [run_append, run_saying hq' hs' hp Y B 1 (by omega) (by omega), run_one]
  show ((((s.lk k.op.byte).setK (k.saying B (1 + Y.length))).clock z).1, _ :: (outs k.split.1 B 1 Y.length ++ [(((s.lk k.op.byte).setK (k.saying B (1 + Y.length))).clock z).2])) = _
  rw [clock_said hq' hs' hp B _ z (by omega) (by omega), ← hl, outs_succ]
  have e : outs k.split.1 B 1 (Y.length + 1) = outs k.split.1 B 1 Y.length ++ [tellOut (tellBits B (1 + Y.length + 1) k.split.1) k.split.1] := by
    unfold outs
    rw [List.range_succ, List.map_append]
    show _ ++ [tellOut (tellBits B (1 + 1 + Y.length) k.split.1) k.split.1] = _
    rw [show 1 + 1 + Y.length = 1 + Y.length + 1 by omega]
  rw [e]
/-- The bytes from the k-th on, on one lane. -/
def outB (b : Nat) : List Nat := outs 1 b 0 8
def outBs (L : List Nat) : List Nat := L.flatMap outB
theorem outB_length (b : Nat) : (outB b).length = 8 := rfl
theorem outBs_length (L : List Nat) : (outBs L).length = 8 * L.length := by
  induction L with
  | nil => rfl
  | cons x r ih => show (outB x ++ outBs r).length = _; rw [List.length_append, ih, outB_length, List.length_cons]; omega
def Cmd.after (k : Cmd) (i : Nat) : Cmd := { k with count := k.count + i }
theorem dataByte_said (s : St) (k : Cmd) (b c : Nat) : (s.setK { k with said := b, clocks := c }).dataByte = (s.setK k).dataByte := rfl
theorem dataByte_lk (s : St) (k : Cmd) (b : Nat) : ((s.lk b).setK k).dataByte = (s.setK k).dataByte := by unfold St.lk; split <;> rfl
theorem lk_lk (s : St) (b : Nat) : (s.lk b).lk b = s.lk b := by unfold St.lk; split <;> rfl
theorem run_outs {s : St} {k : Cmd} (hq : s.busy = false) (hs : s.sel = true) (hp : k.speaks = true) (hl : k.split = (1, 8)) (hc : k.clocks = 0) (m : Nat) (X : List Nat) (hX : X.length = 8 * m) :
    ∃ s' k', (s.setK k).run X = (s'.setK k', outBs ((List.range m).map fun i => (s.setK (k.after i)).dataByte)) ∧ (s' = s ∨ s' = s.lk k.op.byte) ∧ k'.op = k.op ∧ k'.mode = k.mode := by
  induction m generalizing s k X with
  | zero =>
    have : X = [] := List.eq_nil_of_length_eq_zero (by omega)
    subst this
    exact ⟨s, k, rfl, Or.inl rfl, rfl, rfl⟩
  | succ m ih =>
    have hX8 : (X.take 8).length = 8 := by rw [List.length_take]; omega
    rw [show X = X.take 8 ++ X.drop 8 from (List.take_append_drop 8 X).symm, run_append]
    have h1 := run_out hq hs hp hc (X.take 8) (by rw [hl, hX8]) (by rw [hl]; decide)
    rw [hl] at h1
    rw [h1]
    obtain ⟨s2, k2, h2, h3, h4, h5⟩ := ih (s := s.lk k.op.byte) (k := { k with said := (s.setK k).dataByte, clocks := 0, count := k.count + 1 }) (by rw [lk_busy]; exact hq) (by rw [lk_sel]; exact hs) hp hl rfl (X.drop 8) (by rw [List.length_drop]; omega)
    refine ⟨s2, k2, ?_, ?_, h4, h5⟩
    · rw [h2, List.range_succ_eq_map, List.map_cons, List.map_map]
      show (_, outB _ ++ outBs _) = (_, outB _ ++ outBs _)
      congr 2
      show outBs _ = outBs _
      congr 1
      refine List.map_congr_left fun i _ => ?_
      show ((s.lk k.op.byte).setK _).dataByte = (s.setK (k.after (i + 1))).dataByte
      rw [dataByte_lk]
      show (s.setK { k with said := _, clocks := 0, count := k.count + 1 + i }).dataByte = (s.setK { k with count := k.count + (i + 1) }).dataByte
      rw [show k.count + 1 + i = k.count + (i + 1) by omega]
      rfl
    · right
      rcases h3 with h3 | h3
      · exact h3
      · rw [h3]; exact lk_lk s k.op.byte
end Go.Proofs.YtjhjghakfedeeaaGreat
