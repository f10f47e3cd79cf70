/-
  What the controller's commands leave and tell, on a chip at rest: plain facts. Nothing of the program is named. A controller's commands on a chip at rest, one by one: plain facts. Nothing of the program is named.
-/
import Derived.Test.YtjhjghakfedeeaaGreatCtlGo
import Derived.Test.YtjhjghakfedeeaaGreatGoesOn
/-! What the controller's commands leave and tell, on a chip at rest: plain facts. Nothing of the program is named. -/
section
namespace Go.Proofs.YtjhjghakfedeeaaGreat
open Go.RowKit Plain
set_option linter.unusedVariables false

/-- The controller behind a whole row. -/
def K.ran (k : K) (s : St) (c : Nat) (g : Bool) : K := { k with s := s, clocks := k.clocks + c, goes := g }
theorem wh_free (ps : List Ph) : whB ps (-1) = true := rfl
theorem most_free {k : K} (h : k.bounded = false) : k.most = -1 := by unfold K.most; rw [if_neg (by rw [h]; decide)]
theorem drv_free {k : K} (hb : k.bounded = false) (hl : k.lost = false) (ps : List Ph) (g : Bool) : ({ k.drv ps with goes := g } : K) = k.ran (k.s.say (insR ps)) (nR ps) g := by
  obtain ⟨h1, -, h3⟩ := drv_whole k.s ps (-1) (wh_free ps)
  unfold K.drv K.ran
  rw [most_free hb, h1, h3, wh_free, if_neg (by rw [hb]; decide), hl]
  rfl
theorem fin_free {k : K} (hb : k.bounded = false) (hl : k.lost = false) (ps : List Ph) (g : Bool) : k.fin ps g = (k.ran (k.s.say (insR ps)) (nR ps) g, rdR ps (k.s.hears (insR ps)), 0) := by
  unfold K.fin
  rw [most_free hb, if_pos (wh_free ps), drv_free hb hl ps g, (drv_whole k.s ps (-1) (wh_free ps)).2.1]
theorem runs_free {k : K} (hb : k.bounded = false) (hl : k.lost = false) (hg : k.goes = false) {b at' : Int} {L : List Int} {r : Int} (hf : fitC b at' L r = true) :
    k.runs b at' L r = (k.ran (k.s.say (insR (rowP b at' L r))) (nR (rowP b at' L r)) (isOn b L), rdR (rowP b at' L r) (k.s.hears (insR (rowP b at' L r))), 0) := by
  unfold K.runs
  rw [if_neg (by rw [hl]; decide), if_neg (by rw [hf]; decide), if_neg (by rw [hg]; simp), if_neg (by rw [hg]; simp)]
  have e : k.endR = k := by unfold K.endR; rw [if_neg (by rw [hg]; decide)]
  rw [e, fin_free hb hl]
theorem runs_on {k : K} (hb : k.bounded = false) (hl : k.lost = false) (hg : k.goes = true) {at' : Int} {L : List Int} {r : Int} (hf : fitC 235 at' L r = true) :
    k.runs 235 at' L r = (k.ran (k.s.say (insR (rowP 235 at' L r).tail)) (nR (rowP 235 at' L r).tail) (isOn 235 L), rdR (rowP 235 at' L r).tail (k.s.hears (insR (rowP 235 at' L r).tail)), 0) := by
  unfold K.runs
  rw [if_neg (by rw [hl]; decide), if_neg (by rw [hf]; decide), if_pos ⟨hg, rfl⟩, fin_free hb hl]
/-- A read that goes on is ended, then a command. -/
def K.quit (k : K) : K := { k.ran (k.s.say (insR lastP)) 8 false with made := true }
theorem runs_quit {k : K} (hb : k.bounded = false) (hl : k.lost = false) (hg : k.goes = true) {b at' : Int} {L : List Int} {r : Int} (hb2 : b ≠ 235) (hf : fitC b at' L r = true) :
    k.runs b at' L r = (k.quit.ran (k.quit.s.say (insR (rowP b at' L r))) (nR (rowP b at' L r)) (isOn b L), rdR (rowP b at' L r) (k.quit.s.hears (insR (rowP b at' L r))), 0) := by
  unfold K.runs
  have hw : whB lastP k.most = true := by rw [most_free hb]; rfl
  rw [if_neg (by rw [hl]; decide), if_neg (by rw [hf]; decide), if_neg (by intro h; exact hb2 h.2), if_neg (by rw [hw]; simp)]
  have e : k.endR = k.quit := by
    unfold K.endR
    rw [if_pos hg, if_pos hw, drv_free (k := k.like) hb hl, last_n]
    unfold K.quit
    generalize insR lastP = X
    rfl
  rw [e]
  have hb' : k.quit.bounded = false := by unfold K.quit K.ran; exact hb
  have hl' : k.quit.lost = false := by unfold K.quit K.ran; exact hl
  rw [fin_free hb' hl']
theorem runs_lost {k : K} (hl : k.lost = true) (b at' : Int) (L : List Int) (r : Int) : k.runs b at' L r = (k, [], 1101) := by unfold K.runs; rw [if_pos hl]
theorem runs_form {k : K} (hl : k.lost = false) {b at' : Int} {L : List Int} {r : Int} (hf : fitC b at' L r = false) : k.runs b at' L r = (k, [], 1100) := by
  unfold K.runs; rw [if_neg (by rw [hl]; decide), if_pos hf]

/-- The phase that is read, if there is one. -/
def readPh (l : Int) (m : Nat) : List Ph := if 0 < (m : Int) then [(l, [], 0, (m : Int))] else []
theorem readPh_n (l : Int) (m : Nat) : nR (readPh l m) = m * bcI l := by
  unfold readPh
  split
  · show nP (l, [], 0, (m : Int)) + 0 = _
    unfold nP
    show (0 : Int).toNat + (0 + (m : Int).toNat) * bcI l + 0 = _
    simp
  · have : m = 0 := by omega
    subst this; simp [nR]
theorem readPh_ins (l : Int) (m : Nat) : insR (readPh l m) = List.replicate (m * bcI l) 15 := by
  have h := readPh_n l m
  unfold readPh at h ⊢
  split
  · rename_i hm
    rw [if_pos hm] at h
    rw [insR_cons, ins_idle]
    have e : nP (l, [], 0, (m : Int)) = m * bcI l := by rw [← h]; show _ = nP (l, [], 0, (m : Int)) + 0; rfl
    rw [e]; simp [insR]
  · have : m = 0 := by omega
    subst this; simp [insR]
theorem insR_app (a b : List Ph) : insR (a ++ b) = insR a ++ insR b := by unfold insR; rw [List.flatMap_append]
theorem rdR_none : ∀ (ps : List Ph) (Y : List Nat), (∀ p ∈ ps, p.2.2.2 ≤ 0) → rdR ps Y = []
  | [], _, _ => rfl
  | p :: ps, Y, h => by
    show rdOf p _ ++ rdR ps _ = _
    rw [rdR_none ps _ fun x hx => h x (List.mem_cons_of_mem _ hx)]
    unfold rdOf
    rw [if_neg (by have := h p List.mem_cons_self; omega)]
    rfl
theorem rd_one (pre : List Ph) (h : ∀ p ∈ pre, p.2.2.2 ≤ 0) (m : Nat) (L : List Nat) (hL : ∀ x ∈ L, x < 256) (hl : L.length = m) (X : List Nat) (hX : X.length = nR pre) : rdR (pre ++ readPh 1 m) (X ++ outBs L) = numI L := by
  unfold readPh
  split
  · rename_i hm
    rw [rdR_last pre _ _ h, List.drop_left' hX]
    exact rdOf_one m (by omega) L hL hl
  · have h0 : m = 0 := by omega
    subst h0
    rw [List.append_nil, rdR_none pre _ h]
    have : L = [] := List.length_eq_zero_iff.1 hl
    subst this; rfl
theorem rdOf_four (m : Nat) (hm : 0 < m) (L : List Nat) (hL : ∀ x ∈ L, x < 256) (hl : L.length = m) : rdOf (4, [], 0, (m : Int)) ((L.flatMap halves).take (nP (4, [], 0, (m : Int)))) = numI L := by
  have : nP (4, [], 0, (m : Int)) = 2 * m := by unfold nP; show (0 : Int).toNat + (0 + (m : Int).toNat) * 2 = _; simp; omega
  rw [this, List.take_of_length_le (by rw [halves_length, hl]; exact Nat.le_refl _)]
  unfold rdOf
  rw [if_pos (by show (0 : Int) < (m : Int); omega)]
  show (hrd 4 (L.flatMap halves)).2 = _
  rw [hrd_bytes4 L hL]
  rfl
theorem rd_four (pre : List Ph) (h : ∀ p ∈ pre, p.2.2.2 ≤ 0) (m : Nat) (L : List Nat) (hL : ∀ x ∈ L, x < 256) (hl : L.length = m) (X : List Nat) (hX : X.length = nR pre) : rdR (pre ++ readPh 4 m) (X ++ L.flatMap halves) = numI L := by
  unfold readPh
  split
  · rename_i hm
    rw [rdR_last pre _ _ h, List.drop_left' hX]
    exact rdOf_four m (by omega) L hL hl
  · have h0 : m = 0 := by omega
    subst h0
    rw [List.append_nil, rdR_none pre _ h]
    have : L = [] := List.length_eq_zero_iff.1 hl
    subst this; rfl

theorem addrL_num (k : Nat) (hk : k < 4096) : addrL k = numI [0, k / 256, k % 256] := by
  unfold addrL numI
  simp only [List.map_cons, List.map_nil, List.cons.injEq, and_true]
  omega
def headP (b : Nat) : List Ph := [(1, numI [b], 0, 0)]
def addrP (l : Int) (k : Nat) : List Ph := [(l, numI [0, k / 256, k % 256], 0, 0)]
theorem headP_ins (b : Nat) (hb : b < 256) : insR (headP b) = wordL [b] := by
  unfold headP
  rw [insR_cons, ins_one [b] (by intro x hx; simp at hx; omega) (by simp)]
  simp [insR]
theorem addr_lt (k : Nat) (hk : k < 4096) : ∀ x ∈ [0, k / 256, k % 256], x < 256 := by intro x hx; simp at hx; omega
theorem addrP_ins1 (k : Nat) (hk : k < 4096) : insR (addrP 1 k) = wordL [0, k / 256, k % 256] := by
  unfold addrP
  rw [insR_cons, ins_one _ (addr_lt k hk) (by simp)]
  simp [insR]
theorem addrP_ins4 (k : Nat) (hk : k < 4096) : insR (addrP 4 k) = [0, 0, k / 4096, k / 256 % 16, k / 16 % 16, k % 16] := by
  unfold addrP
  rw [insR_cons, ins_four _ (addr_lt k hk) (by simp)]
  simp [insR, halves]
  omega
theorem idleP_ins (d : Nat) (hd : 0 < d) : insR [(0, [], (d : Int), 0)] = List.replicate d 15 := by
  rw [insR_cons, ins_idle]
  have : nP (0, [], (d : Int), 0) = d := by unfold nP; show (d : Int).toNat + (0 + (0 : Int).toNat) * 0 = d; simp
  rw [this]; simp [insR]

/-- Commands that only are read: their rows. -/
theorem row_plain (b : Nat) (hb : b = 159 ∨ b = 5 ∨ b = 53) (m : Nat) (hm : m ≤ 512) : rowP b 0 [] m = headP b ++ readPh 1 m ∧ fitC b 0 [] m = true := by
  have e : rdB (m : Int) = true := decide_eq_true (by omega)
  rcases hb with rfl | rfl | rfl
  · exact ⟨rfl, by unfold fitC fitB; rw [e]; rfl⟩
  · exact ⟨rfl, by unfold fitC fitB; rw [e]; rfl⟩
  · exact ⟨rfl, by unfold fitC fitB; rw [e]; rfl⟩
theorem row_read (a m : Nat) (ha : a < 4096) (hm : m ≤ 512) : rowP 3 a [] m = (headP 3 ++ addrP 1 a) ++ readPh 1 m ∧ fitC 3 a [] m = true := by
  have e : rdB (m : Int) = true := decide_eq_true (by omega)
  have e2 : plB 1 (a : Int) = true := by unfold plB; rw [if_neg (by decide)]; exact decide_eq_true (by omega)
  constructor
  · show [(1, [3], 0, 0)] ++ [(1, addrL ((a : Int).toNat), 0, 0)] ++ [] ++ [] ++ [] ++ readPh 1 m = _
    rw [Int.toNat_natCast, addrL_num a ha]; rfl
  · unfold fitC fitB
    show (knB 3 (opA 3) (opM 3) (opD 3) (opN 3) (opI 3) && (plB 1 (a : Int) && _)) = true
    rw [e2, e]; rfl
theorem row_sfdp (a m : Nat) (ha : a < 4096) (hm : m ≤ 512) : rowP 90 a [] m = (headP 90 ++ addrP 1 a ++ [(0, [], 8, 0)]) ++ readPh 1 m ∧ fitC 90 a [] m = true := by
  have e : rdB (m : Int) = true := decide_eq_true (by omega)
  have e2 : plB 1 (a : Int) = true := by unfold plB; rw [if_neg (by decide)]; exact decide_eq_true (by omega)
  constructor
  · show [(1, [90], 0, 0)] ++ [(1, addrL ((a : Int).toNat), 0, 0)] ++ [] ++ [(0, [], 8, 0)] ++ [] ++ readPh 1 m = _
    rw [Int.toNat_natCast, addrL_num a ha]; rfl
  · unfold fitC fitB
    show (knB 90 (opA 90) (opM 90) (opD 90) (opN 90) (opI 90) && (plB 1 (a : Int) && _)) = true
    rw [e2, e]; rfl
theorem row_quadOut (a m : Nat) (ha : a < 4096) (hm : m ≤ 512) : rowP 107 a [] m = (headP 107 ++ addrP 1 a ++ [(0, [], 8, 0)]) ++ readPh 4 m ∧ fitC 107 a [] m = true := by
  have e : rdB (m : Int) = true := decide_eq_true (by omega)
  have e2 : plB 1 (a : Int) = true := by unfold plB; rw [if_neg (by decide)]; exact decide_eq_true (by omega)
  constructor
  · show [(1, [107], 0, 0)] ++ [(1, addrL ((a : Int).toNat), 0, 0)] ++ [] ++ [(0, [], 8, 0)] ++ [] ++ readPh 4 m = _
    rw [Int.toNat_natCast, addrL_num a ha]; rfl
  · unfold fitC fitB
    show (knB 107 (opA 107) (opM 107) (opD 107) (opN 107) (opI 107) && (plB 1 (a : Int) && _)) = true
    rw [e2, e]; rfl
def modeP (a x m : Nat) : List Ph := (addrP 4 a ++ [(4, numI [x], 0, 0)] ++ [(0, [], 4, 0)]) ++ readPh 4 m
theorem row_quadIo (a x m : Nat) (ha : a < 4096) (hx : x < 256) (hm : m ≤ 512) : rowP 235 a [(x : Int)] m = headP 235 ++ modeP a x m ∧ fitC 235 a [(x : Int)] m = true := by
  have e : rdB (m : Int) = true := decide_eq_true (by omega)
  have e2 : plB 4 (a : Int) = true := by unfold plB; rw [if_neg (by decide)]; exact decide_eq_true (by omega)
  have e3 : fewB [(x : Int)] = true := few_one _ (by omega) (by omega)
  constructor
  · show [(1, [235], 0, 0)] ++ [(4, addrL ((a : Int).toNat), 0, 0)] ++ [(4, [(x : Int)], 0, 0)] ++ [(0, [], 4, 0)] ++ [] ++ readPh 4 m = _
    rw [Int.toNat_natCast, addrL_num a ha]; rfl
  · unfold fitC fitB
    show (knB 235 (opA 235) (opM 235) (opD 235) (opN 235) (opI 235) && (plB 4 (a : Int) && _)) = true
    rw [e2, e, e3]; rfl

theorem modeP_ins (a x m : Nat) (ha : a < 4096) (hx : x < 256) : insR (modeP a x m) = tailL a x ++ List.replicate (4 + 2 * m) 15 := by
  unfold modeP
  rw [insR_app, insR_app, insR_app, addrP_ins4 a ha, insR_cons, ins_four [x] (by intro y hy; simp at hy; omega) (by simp), show ((4 : Int)) = ((4 : Nat) : Int) from rfl, idleP_ins 4 (by decide), readPh_ins]
  have e : m * bcI 4 = 2 * m := by rw [bc_four]; omega
  rw [show (((4 : Nat) : Int)) = 4 from rfl, e]
  have e2 : x / 16 % 16 = x / 16 := by omega
  simp only [tailL, halves, insR, List.flatMap_nil, List.flatMap_cons, List.append_nil, List.append_assoc, e2]
  rw [← List.replicate_append_replicate (n := 4)]
  rfl
theorem modeP_n (a x m : Nat) : nR (modeP a x m) = 12 + 2 * m := by
  unfold modeP
  rw [nR_app, readPh_n, bc_four]
  show (6 + (2 + (4 + 0))) + _ = _
  omega

/-- Reads that go on, of any number of bytes. -/
theorem run_goes_many {s : St} {A : ByteArray} {g : Bool} (h : s.Quads A g) (k x m : Nat) (hk : k < 4096) (hx : x < 256) :
    ∃ k' : Cmd, s.select.run (headG g ++ (tailL k x ++ List.replicate (4 + 2 * m) 15)) = (s.picked.setK k', List.replicate ((headG g).length + 12) 15 ++ ((List.range m).map fun i => (ub A ((k + i) % A.size)).toNat).flatMap halves) ∧ k'.op = opOf 235 ∧ k'.mode = x := by
  have hb : s.picked.busy = false := by rw [picked_busy]; exact quads_busy h
  have hd : (dumK k x).turn = { noCmd with op := opOf 235, adr := k, part := 4, mode := x } := dum_turn k x
  obtain ⟨k', e1, e2, e3⟩ := run_outs4 (s := s.picked) (k := (dumK k x).turn) hb rfl (by rw [hd]; rfl) (by rw [hd]; show splitO (opOf 235) 4 = (4, 2); decide) (by rw [hd]; rfl) (by rw [hd]; show (opOf 235).byte ≠ 90; decide) m (List.replicate (2 * m) 15) (by simp)
  refine ⟨k', ?_, by rw [e2, hd], by rw [e3, hd]⟩
  have e4 : tailL k x ++ List.replicate (4 + 2 * m) 15 = [0, 0, k / 4096, k / 256 % 16, k / 16 % 16, k % 16] ++ ([x / 16, x % 16] ++ ([15, 15, 15, 15] ++ List.replicate (2 * m) 15)) := by
    rw [← List.replicate_append_replicate]
    rfl
  rw [e4, run_head4 h, run_append, run_addr4 hb rfl k hk]
  dsimp only
  rw [run_append, run_mode4 hb rfl k x hx]
  dsimp only
  rw [run_append, run_dummy (s := s.picked) (k := dumK k x) hb rfl rfl rfl rfl [15, 15, 15, 15] rfl (show 0 < (opOf 235).dummy by decide)]
  dsimp only
  rw [e1]
  dsimp only
  have e5 : ((List.range m).map fun i => (s.picked.setK ((dumK k x).turn.after i)).dataByte) = (List.range m).map fun i => (ub A ((k + i) % A.size)).toNat := by
    refine List.map_congr_left fun i _ => ?_
    rw [hd]
    show (ub s.A ((k + (0 + i)) % s.A.size)).toNat = _
    rw [h.A, Nat.zero_add]
  rw [e5]
  show (_, List.replicate _ 15 ++ (List.replicate 6 15 ++ (List.replicate 2 15 ++ (List.replicate 4 15 ++ _)))) = _
  rw [← List.append_assoc, ← List.append_assoc, ← List.append_assoc, List.replicate_append_replicate, List.replicate_append_replicate, List.replicate_append_replicate]
theorem goes_many {s : St} {A : ByteArray} {g : Bool} (h : s.Quads A g) (k x m : Nat) (hk : k < 4096) (hx : x < 256) :
    s.say (headG g ++ (tailL k x ++ List.replicate (4 + 2 * m) 15)) = { s with goes := decide (x = 160) } ∧ s.hears (headG g ++ (tailL k x ++ List.replicate (4 + 2 * m) 15)) = List.replicate ((headG g).length + 12) 15 ++ ((List.range m).map fun i => (ub A ((k + i) % A.size)).toNat).flatMap halves := by
  obtain ⟨k', e1, e2, e3⟩ := run_goes_many h k x m hk hx
  unfold St.say St.hears
  rw [e1]
  refine ⟨?_, rfl⟩
  have he : ∀ t : St, t.obey k' = t := fun t => obey_other t k' (by rw [e2]; decide)
  have hE : (s.picked.setK k').ended = { s with goes := decide (x = 160) } := by
    have h1 := h.sel
    have h2 := h.k
    cases s
    cases h1; cases h2
    show St.mk .. = St.mk ..
    rw [← e3]
    rfl
  show (s.picked.setK k').deselect = _
  unfold St.deselect
  rw [show (s.picked.setK k').k = k' from rfl, he]
  split <;> exact hE
/-- Such a read is ended. -/
theorem quit_say {s : St} {A : ByteArray} (h : s.Quads A true) : s.say (insR lastP) = { s with goes := false } := by
  have hb : s.picked.busy = false := by rw [picked_busy]; exact quads_busy h
  have e0 : insR lastP = headG true ++ [0, 0, 0, 0, 0, 0, 0, 0] := by decide +kernel
  unfold St.say
  rw [e0, run_head4 h]
  have e1 : ([0, 0, 0, 0, 0, 0, 0, 0] : List Nat) = [0, 0, 0 / 4096, 0 / 256 % 16, 0 / 16 % 16, 0 % 16] ++ [0 / 16, 0 % 16] := rfl
  rw [e1, run_append, run_addr4 hb rfl 0 (by decide)]
  dsimp only
  rw [run_mode4 hb rfl 0 0 (by decide)]
  dsimp only
  have he : ∀ t : St, t.obey (dumK 0 0) = t := fun t => obey_other t _ (by decide)
  have hE : (s.picked.setK (dumK 0 0)).ended = { s with goes := false } := by
    have h1 := h.sel
    have h2 := h.k
    cases s
    cases h1; cases h2
    rfl
  unfold St.deselect
  rw [show (s.picked.setK (dumK 0 0)).k = dumK 0 0 from rfl, he]
  split <;> exact hE
end Go.Proofs.YtjhjghakfedeeaaGreat
end

/-! A controller's commands on a chip at rest, one by one: plain facts. Nothing of the program is named. -/
section
namespace Go.Proofs.YtjhjghakfedeeaaGreat
open Go.RowKit Plain
set_option linter.unusedVariables false

/-- A controller whose registers and queues are empty, with no bound. -/
def kq (s : St) (c : Nat) (g md : Bool) : K := ⟨s, 0, 0, 0, [], [], g, md, c, false, 0, false⟩
theorem kq_new (s : St) : newK s = kq s 0 false false := rfl
theorem kq_ran (s : St) (c : Nat) (g md : Bool) (s' : St) (c' : Nat) (g' : Bool) : (kq s c g md).ran s' c' g' = kq s' (c + c') g' md := rfl
/-- The bytes from a place on. -/
def bytesOf (A : ByteArray) (a m : Nat) : List Nat := (List.range m).map fun i => (ub A ((a + i) % A.size)).toNat
theorem bytesOf_length (A : ByteArray) (a m : Nat) : (bytesOf A a m).length = m := by simp [bytesOf]
theorem bytesOf_lt (A : ByteArray) (a m : Nat) : ∀ x ∈ bytesOf A a m, x < 256 := cellsL_lt A a m
theorem bytesOf_get (A : ByteArray) (a m j : Nat) (h : j < m) : (numI (bytesOf A a m)).getD j 0 = (((ub A ((a + j) % A.size)).toNat : Nat) : Int) := by
  rw [numI_get]
  unfold bytesOf
  rw [List.getD_eq_getElem?_getD, List.getElem?_map, List.getElem?_range h]
  rfl
theorem pre_head (b : Nat) : ∀ p ∈ headP b, p.2.2.2 ≤ 0 := by intro p hp; simp [headP] at hp; subst hp; exact Int.le_refl _
theorem pre_addr (l : Int) (a : Nat) : ∀ p ∈ addrP l a, p.2.2.2 ≤ 0 := by intro p hp; simp [addrP] at hp; subst hp; exact Int.le_refl _
theorem pre_idle (d : Int) : ∀ p ∈ [((0 : Int), ([] : List Int), d, (0 : Int))], p.2.2.2 ≤ 0 := by intro p hp; simp at hp; subst hp; exact Int.le_refl _
theorem pre_mode (x : Nat) : ∀ p ∈ [((4 : Int), numI [x], (0 : Int), (0 : Int))], p.2.2.2 ≤ 0 := by intro p hp; simp at hp; subst hp; exact Int.le_refl _
theorem pre_app {a b : List Ph} (ha : ∀ p ∈ a, p.2.2.2 ≤ 0) (hb : ∀ p ∈ b, p.2.2.2 ≤ 0) : ∀ p ∈ a ++ b, p.2.2.2 ≤ 0 := fun p hp => by
  rcases List.mem_append.1 hp with h | h
  · exact ha p h
  · exact hb p h

/-- A read on one lane. -/
theorem kp_read {k : K} {A : ByteArray} (hb : k.bounded = false) (hl : k.lost = false) (hg : k.goes = false) (h : k.s.Rest) (hA : k.s.A = A) (a m : Nat) (ha : a < 4096) (hm : m ≤ 512) :
    k.runs 3 a [] m = (k.ran k.s (32 + 8 * m) false, numI (bytesOf A a m), 0) := by
  obtain ⟨hr, hf⟩ := row_read a m ha hm
  rw [runs_free hb hl hg hf, hr]
  have hi : insR ((headP 3 ++ addrP 1 a) ++ readPh 1 m) = wordL [3, 0, a / 256, a % 256] ++ List.replicate (8 * m) 15 := by
    rw [insR_app, insR_app, headP_ins 3 (by decide), addrP_ins1 a ha, readPh_ins, bc_one, Nat.mul_comm m 8]
    rfl
  have hn : nR ((headP 3 ++ addrP 1 a) ++ readPh 1 m) = 32 + 8 * m := by
    rw [nR_app, readPh_n, bc_one, Nat.mul_comm m 8]; rfl
  rw [hi, hn, say_read h a ha m, hears_read h a ha m, hA]
  have e := rd_one (headP 3 ++ addrP 1 a) (pre_app (pre_head 3) (pre_addr 1 a)) m (bytesOf A a m) (bytesOf_lt A a m) (bytesOf_length A a m) (List.replicate 32 15) (by rw [List.length_replicate]; rfl)
  rw [show outBs ((List.range m).map fun i => (ub A ((a + i) % A.size)).toNat) = outBs (bytesOf A a m) from rfl, e]
  rfl
theorem kq_read {s : St} {A : ByteArray} (h : s.Rest) (hA : s.A = A) (c : Nat) (md : Bool) (a m : Nat) (ha : a < 4096) (hm : m ≤ 512) :
    (kq s c false md).runs 3 a [] m = (kq s (c + (32 + 8 * m)) false md, numI (bytesOf A a m), 0) := by
  obtain ⟨hr, hf⟩ := row_read a m ha hm
  rw [runs_free (k := kq s c false md) rfl rfl rfl hf, hr]
  have hi : insR ((headP 3 ++ addrP 1 a) ++ readPh 1 m) = wordL [3, 0, a / 256, a % 256] ++ List.replicate (8 * m) 15 := by
    rw [insR_app, insR_app, headP_ins 3 (by decide), addrP_ins1 a ha, readPh_ins, bc_one, Nat.mul_comm m 8]
    rfl
  have hn : nR ((headP 3 ++ addrP 1 a) ++ readPh 1 m) = 32 + 8 * m := by
    rw [nR_app, readPh_n, bc_one, Nat.mul_comm m 8]; rfl
  rw [hi, hn]
  show ((kq s c false md).ran (s.say _) _ _, rdR _ (s.hears _), 0) = _
  rw [say_read h a ha m, hears_read h a ha m, hA]
  have e := rd_one (headP 3 ++ addrP 1 a) (pre_app (pre_head 3) (pre_addr 1 a)) m (bytesOf A a m) (bytesOf_lt A a m) (bytesOf_length A a m) (List.replicate 32 15) (by rw [List.length_replicate]; rfl)
  rw [show outBs ((List.range m).map fun i => (ub A ((a + i) % A.size)).toNat) = outBs (bytesOf A a m) from rfl, e]
  rfl
/-- What is told of a command without an address. -/
def plainV (s : St) (b m : Nat) : List Int := rdR (headP b ++ readPh 1 m) (s.hears (wordL [b] ++ List.replicate (8 * m) 15))
theorem say_plain {s : St} (h : s.Rest) (b : Nat) (hb : b = 159 ∨ b = 5 ∨ b = 53) (m : Nat) : s.say (wordL [b] ++ List.replicate (8 * m) 15) = s := by
  have h256 : b < 256 := by omega
  have hsp : (startK (opOf b)).speaks = true := by rcases hb with rfl | rfl | rfl <;> rfl
  have hp4 : (startK (opOf b)).part = 4 := by rcases hb with rfl | rfl | rfl <;> rfl
  have hd1 : (startK (opOf b)).op.data = 1 := by rcases hb with rfl | rfl | rfl <;> rfl
  have hob : (startK (opOf b)).op.byte = b := by rcases hb with rfl | rfl | rfl <;> rfl
  have hmo : (startK (opOf b)).mode = 0 := rfl
  unfold St.say
  rw [select_idle h.idle, wordL_one, run_append, run_byte (s := s.picked) (rest_picked h) rfl (picked_k h.idle) b h256, picked_opFor, rest_opFor h b (by omega)]
  dsimp only
  obtain ⟨s', k', h1, h2, h3, h4⟩ := run_outs (s := s.picked) (k := startK (opOf b)) (rest_picked h) rfl hsp (split_one hp4 hd1) rfl m (List.replicate (8 * m) 15) (by simp)
  rw [h1]
  dsimp only
  have h5 : s' = s.picked := by
    rcases h2 with h2 | h2
    · exact h2
    · rw [h2]; unfold St.lk; rw [if_neg (by rw [hob]; omega)]
  rw [h5, deselect_idle h.idle _ (by rw [h4, hmo]; decide)]
  rw [obey_other s k' (by rw [h3, hob]; omega)]
  split <;> rfl
theorem kp_plain {k : K} (hb' : k.bounded = false) (hl : k.lost = false) (hg : k.goes = false) (h : k.s.Rest) (b : Nat) (hb : b = 159 ∨ b = 5 ∨ b = 53) (m : Nat) (hm : m ≤ 512) :
    k.runs b 0 [] m = (k.ran k.s (8 + 8 * m) false, plainV k.s b m, 0) := by
  obtain ⟨hr, hf⟩ := row_plain b hb m hm
  rw [runs_free hb' hl hg hf, hr]
  have hi : insR (headP b ++ readPh 1 m) = wordL [b] ++ List.replicate (8 * m) 15 := by
    rw [insR_app, headP_ins b (by omega), readPh_ins, bc_one, Nat.mul_comm m 8]
  have hn : nR (headP b ++ readPh 1 m) = 8 + 8 * m := by
    rw [nR_app, readPh_n, bc_one, Nat.mul_comm m 8]; rfl
  have hon : isOn (b : Int) [] = false := by unfold isOn; rw [decide_eq_false (by omega)]; rfl
  rw [hi, hn, say_plain h b hb m, hon]
  rfl
theorem kq_plain {s : St} (h : s.Rest) (c : Nat) (md : Bool) (b : Nat) (hb : b = 159 ∨ b = 5 ∨ b = 53) (m : Nat) (hm : m ≤ 512) :
    (kq s c false md).runs b 0 [] m = (kq s (c + (8 + 8 * m)) false md, plainV s b m, 0) := by
  obtain ⟨hr, hf⟩ := row_plain b hb m hm
  rw [runs_free (k := kq s c false md) rfl rfl rfl hf, hr]
  have hi : insR (headP b ++ readPh 1 m) = wordL [b] ++ List.replicate (8 * m) 15 := by
    rw [insR_app, headP_ins b (by omega), readPh_ins, bc_one, Nat.mul_comm m 8]
  have hn : nR (headP b ++ readPh 1 m) = 8 + 8 * m := by
    rw [nR_app, readPh_n, bc_one, Nat.mul_comm m 8]; rfl
  rw [hi, hn]
  show ((kq s c false md).ran (s.say _) _ _, rdR _ (s.hears _), 0) = _
  rw [say_plain h b hb m]
  have hon : isOn (b : Int) [] = false := by unfold isOn; rw [decide_eq_false (by omega)]; rfl
  rw [hon]
  rfl
theorem plainV_len {s : St} (h : s.Rest) (b : Nat) (hb : b = 159 ∨ b = 5 ∨ b = 53) (m : Nat) (hm : m ≤ 512) : (plainV s b m).length = m := by
  obtain ⟨hr, hf⟩ := row_plain b hb m hm
  have hok : okR (rowP b 0 [] m) = true := fit_ok hf
  rw [hr] at hok
  have hi : insR (headP b ++ readPh 1 m) = wordL [b] ++ List.replicate (8 * m) 15 := by
    rw [insR_app, headP_ins b (by omega), readPh_ins, bc_one, Nat.mul_comm m 8]
  have hl := rdR_len (headP b ++ readPh 1 m) (s.hears (wordL [b] ++ List.replicate (8 * m) 15)) hok (by unfold St.hears; rw [run_length, ← hi, insR_length])
  have e := rdN_phL ((b : Int), opA b, opM b, opD b, opN b, opI b) 0 [] (m : Int)
  have e2 : rdN (headP b ++ readPh 1 m) = m := by
    rw [← hr]
    exact e.trans (by simp)
  unfold plainV
  rw [hl, e2]
theorem plainV_id {s : St} (h : s.Rest) (m : Nat) : plainV s 159 m = numI ((List.range m).map fun i => (ub idT (i % 3)).toNat) := by
  unfold plainV
  rw [hears_id h m]
  exact rd_one (headP 159) (pre_head 159) m _ (by intro x hx; obtain ⟨i, _, rfl⟩ := List.mem_map.1 hx; exact (ub idT _).toNat_lt) (by simp) (List.replicate 8 15) (by rw [List.length_replicate]; rfl)

/-- A read on four lanes. -/
theorem say_quadOut {s : St} (h : s.Rest) (hq : s.quad = true) (a : Nat) (ha : a < 4096) (m : Nat) : s.say ((wordL [107, 0, a / 256, a % 256] ++ List.replicate 8 15) ++ List.replicate (2 * m) 15) = s := by
  unfold St.say
  rw [select_idle h.idle, List.append_assoc, run_head_for h 107 (by decide) (quad_opFor h hq 107 (by decide)) rfl 0 (a / 256) (a % 256) (by decide) (by omega) (by omega), adr_word a ha, run_append,
    run_dummy (s := s.picked) (k := addrK (opOf 107) a) (rest_picked h) rfl quad_parts.1 rfl rfl (List.replicate 8 15) (by simp [addrK, opOf]) (show 0 < 8 by decide)]
  dsimp only
  have hp : (addrK (opOf 107) a).turn.part = 4 := by
    unfold Cmd.turn addrK
    dsimp only
    rw [quad_parts.1, quad_parts.2]
  have hsp : (addrK (opOf 107) a).turn.speaks = true := by unfold Cmd.speaks; rw [hp]; rfl
  obtain ⟨k', h1, h2, h3⟩ := run_outs4 (s := s.picked) (k := (addrK (opOf 107) a).turn) (rest_picked h) rfl hsp (split_four hp rfl) rfl (show (107 : Nat) ≠ 90 by decide) m (List.replicate (2 * m) 15) (by simp)
  rw [h1]
  dsimp only
  rw [deselect_idle h.idle _ (by rw [h3]; show (0 : Nat) ≠ 160; decide)]
  rw [obey_other s k' (by rw [h2]; exact (by decide : (107 : Nat) ≠ 6 ∧ (107 : Nat) ≠ 4 ∧ (107 : Nat) ≠ 117 ∧ (107 : Nat) ≠ 122 ∧ (107 : Nat) ≠ 1 ∧ (107 : Nat) ≠ 2 ∧ (107 : Nat) ≠ 32))]
  split <;> rfl
theorem kq_quadOut {s : St} {A : ByteArray} (h : s.Rest) (hq : s.quad = true) (hA : s.A = A) (c : Nat) (md : Bool) (a m : Nat) (ha : a < 4096) (hm : m ≤ 512) :
    (kq s c false md).runs 107 a [] m = (kq s (c + (40 + 2 * m)) false md, numI (bytesOf A a m), 0) := by
  obtain ⟨hr, hf⟩ := row_quadOut a m ha hm
  rw [runs_free (k := kq s c false md) rfl rfl rfl hf, hr]
  have hi : insR ((headP 107 ++ addrP 1 a ++ [(0, [], 8, 0)]) ++ readPh 4 m) = (wordL [107, 0, a / 256, a % 256] ++ List.replicate 8 15) ++ List.replicate (2 * m) 15 := by
    rw [insR_app, insR_app, insR_app, headP_ins 107 (by decide), addrP_ins1 a ha, readPh_ins, bc_four, Nat.mul_comm m 2]
    have := idleP_ins 8 (by decide)
    rw [show (((8 : Nat) : Int)) = 8 from rfl] at this
    rw [this]
    rfl
  have hn : nR ((headP 107 ++ addrP 1 a ++ [(0, [], 8, 0)]) ++ readPh 4 m) = 40 + 2 * m := by
    rw [nR_app, readPh_n, bc_four, Nat.mul_comm m 2]; rfl
  rw [hi, hn]
  show ((kq s c false md).ran (s.say _) _ _, rdR _ (s.hears _), 0) = _
  rw [say_quadOut h hq a ha m, hears_quad h hq a ha m, hA]
  have e := rd_four (headP 107 ++ addrP 1 a ++ [(0, [], 8, 0)]) (pre_app (pre_app (pre_head 107) (pre_addr 1 a)) (pre_idle 8)) m (bytesOf A a m) (bytesOf_lt A a m) (bytesOf_length A a m) (List.replicate 40 15) (by rw [List.length_replicate]; rfl)
  rw [show ((List.range m).map fun i => (ub A ((a + i) % A.size)).toNat).flatMap halves = (bytesOf A a m).flatMap halves from rfl, e]
  rfl

theorem quads_goes {s : St} {A : ByteArray} {g : Bool} (h : s.Quads A g) (g' : Bool) : ({ s with goes := g' } : St).Quads A g' := ⟨h.sel, rfl, h.k, h.left, h.sus, h.A, h.quad, h.en, h.prot⟩
theorem isOn_io (x : Nat) : isOn 235 [(x : Int)] = decide (x = 160) := by
  unfold isOn
  show (true && decide ((x : Int) = 160)) = _
  rw [Bool.true_and]
  exact decide_eq_decide.2 (by omega)
/-- A read with mode bits, from its first phase on. -/
theorem kq_io0 {s : St} {A : ByteArray} (h : s.Quads A false) (c : Nat) (md : Bool) (a x m : Nat) (ha : a < 4096) (hx : x < 256) (hm : m ≤ 512) :
    (kq s c false md).runs 235 a [(x : Int)] m = (kq { s with goes := decide (x = 160) } (c + (20 + 2 * m)) (decide (x = 160)) md, numI (bytesOf A a m), 0) := by
  obtain ⟨hr, hf⟩ := row_quadIo a x m ha hx hm
  rw [runs_free (k := kq s c false md) rfl rfl rfl hf, hr, isOn_io]
  have hi : insR (headP 235 ++ modeP a x m) = headG false ++ (tailL a x ++ List.replicate (4 + 2 * m) 15) := by
    rw [insR_app, headP_ins 235 (by decide), modeP_ins a x m ha hx]; rfl
  have hn : nR (headP 235 ++ modeP a x m) = 20 + 2 * m := by
    rw [nR_app, modeP_n]; show 8 + _ = _; omega
  obtain ⟨g1, g2⟩ := goes_many h a x m ha hx
  rw [hi, hn]
  show ((kq s c false md).ran (s.say _) _ _, rdR _ (s.hears _), 0) = _
  rw [g1, g2]
  have e := rd_four (headP 235 ++ (addrP 4 a ++ [(4, numI [x], 0, 0)] ++ [(0, [], 4, 0)])) (pre_app (pre_head 235) (pre_app (pre_app (pre_addr 4 a) (pre_mode x)) (pre_idle 4))) m (bytesOf A a m) (bytesOf_lt A a m) (bytesOf_length A a m) (List.replicate ((headG false).length + 12) 15) (by rw [List.length_replicate]; rfl)
  rw [List.append_assoc (headP 235)] at e
  rw [show ((List.range m).map fun i => (ub A ((a + i) % A.size)).toNat).flatMap halves = (bytesOf A a m).flatMap halves from rfl, show modeP a x m = (addrP 4 a ++ [(4, numI [x], 0, 0)] ++ [(0, [], 4, 0)]) ++ readPh 4 m from rfl, e]
  rfl
/-- While a read goes on: without its first phase. -/
theorem kq_io1 {s : St} {A : ByteArray} (h : s.Quads A true) (c : Nat) (md : Bool) (a x m : Nat) (ha : a < 4096) (hx : x < 256) (hm : m ≤ 512) :
    (kq s c true md).runs 235 a [(x : Int)] m = (kq { s with goes := decide (x = 160) } (c + (12 + 2 * m)) (decide (x = 160)) md, numI (bytesOf A a m), 0) := by
  obtain ⟨hr, hf⟩ := row_quadIo a x m ha hx hm
  rw [runs_on (k := kq s c true md) rfl rfl rfl hf, hr, isOn_io]
  rw [show (headP 235 ++ modeP a x m).tail = modeP a x m from rfl]
  have hi : insR (modeP a x m) = headG true ++ (tailL a x ++ List.replicate (4 + 2 * m) 15) := modeP_ins a x m ha hx
  obtain ⟨g1, g2⟩ := goes_many h a x m ha hx
  rw [hi, modeP_n]
  show ((kq s c true md).ran (s.say _) _ _, rdR _ (s.hears _), 0) = _
  rw [g1, g2]
  have e := rd_four (addrP 4 a ++ [(4, numI [x], 0, 0)] ++ [(0, [], 4, 0)]) (pre_app (pre_app (pre_addr 4 a) (pre_mode x)) (pre_idle 4)) m (bytesOf A a m) (bytesOf_lt A a m) (bytesOf_length A a m) (List.replicate ((headG true).length + 12) 15) (by rw [List.length_replicate]; rfl)
  rw [show ((List.range m).map fun i => (ub A ((a + i) % A.size)).toNat).flatMap halves = (bytesOf A a m).flatMap halves from rfl, show modeP a x m = (addrP 4 a ++ [(4, numI [x], 0, 0)] ++ [(0, [], 4, 0)]) ++ readPh 4 m from rfl, e]
  rfl
/-- While a read goes on any other command is run as ever, behind its end. -/
theorem kq_quit {s : St} {A : ByteArray} (h : s.Quads A true) (c : Nat) (md : Bool) {b at' : Int} {L : List Int} {r : Int} (hb : b ≠ 235) (hf : fitC b at' L r = true) :
    (kq s c true md).runs b at' L r = (kq { s with goes := false } (c + 8) false true).runs b at' L r := by
  rw [runs_quit (k := kq s c true md) rfl rfl rfl hb hf, runs_free (k := kq { s with goes := false } (c + 8) false true) rfl rfl rfl hf]
  have e : (kq s c true md).quit = kq { s with goes := false } (c + 8) false true := by
    unfold K.quit
    show ({ (kq s c true md).ran (s.say (insR lastP)) 8 false with made := true } : K) = _
    rw [quit_say h]
    rfl
  rw [e]
theorem runs_cut {k : K} (hl : k.lost = false) (hg : k.goes = false) {b at' : Int} {L : List Int} {r : Int} (hf : fitC b at' L r = true) (hw : whB (rowP b at' L r) k.most = false) : k.runs b at' L r = (k.drv (rowP b at' L r), [], 1101) := by
  unfold K.runs
  rw [if_neg (by rw [hl]; decide), if_neg (by rw [hf]; decide), if_neg (by rw [hg]; simp), if_neg (by rw [hg]; simp)]
  have e : k.endR = k := by unfold K.endR; rw [if_neg (by rw [hg]; decide)]
  rw [e, (fin_no k _ _ hw).1]
/-- Reads on four lanes are let be. -/
theorem kq_enable {s : St} (h : s.Rest) (c : Nat) (md : Bool) : (kq s c false md).runs 6 0 [] 0 = (kq { s with en := true } (c + 8) false md, [], 0) := by
  rw [runs_free (k := kq s c false md) rfl rfl rfl (by decide)]
  have hr : rowP 6 0 [] 0 = headP 6 := rfl
  rw [hr, headP_ins 6 (by decide)]
  show ((kq s c false md).ran (s.say _) _ _, rdR _ (s.hears _), 0) = _
  rw [say_enable h, rdR_none _ _ (pre_head 6)]
  rfl
theorem kq_put {s : St} {A : ByteArray} (h : s.Plain A) (he : s.en = true) (c : Nat) (md : Bool) : ∃ s2 : St, s2.Quads A false ∧ (kq s c false md).runs 1 0 [0, 2] 0 = (kq s2 (c + 24) false md, [], 0) := by
  obtain ⟨q1, q2, q3⟩ := quad_set h he
  refine ⟨_, quads_of q1 q2 q3, ?_⟩
  rw [runs_free (k := kq s c false md) rfl rfl rfl (by decide)]
  have hr : rowP 1 0 [0, 2] 0 = headP 1 ++ [(1, numI [0, 2], 0, 0)] := rfl
  rw [hr, insR_app, headP_ins 1 (by decide), insR_cons, ins_one [0, 2] (by intro x hx; simp at hx; omega) (by simp)]
  have e : wordL [1] ++ (wordL [0, 2] ++ insR []) = wordL [1, 0, 2] := by simp [insR, wordL]
  show ((kq s c false md).ran (s.say (wordL [1] ++ (wordL [0, 2] ++ insR []))) _ _, rdR _ (s.hears (wordL [1] ++ (wordL [0, 2] ++ insR []))), 0) = _
  rw [e, rdR_none _ _ (pre_app (pre_head 1) (by intro p hp; simp at hp; subst hp; exact Int.le_refl _))]
  rfl
/-- A new controller on a new chip, four lanes let be. -/
theorem kq_start (a : ByteArray) : ∃ s2 : St, s2.Quads a false ∧ (kq (newSt a) 0 false false).runs 6 0 [] 0 = (kq { newSt a with en := true } 8 false false, [], 0) ∧ (kq { newSt a with en := true } 8 false false).runs 1 0 [0, 2] 0 = (kq s2 32 false false, [], 0) := by
  obtain ⟨s2, h1, h2⟩ := kq_put (plain_en (plain_new a) true) rfl 8 false
  exact ⟨s2, h1, kq_enable (rest_new a) 0 false, h2⟩
end Go.Proofs.YtjhjghakfedeeaaGreat
end
