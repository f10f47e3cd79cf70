/-
  What is under way and what comes of it: plain facts on the machine. Conditions: those of each statement. What clocks leave of a chip whose command is known, whatever they are: all but the command itself. Plain facts on the machine. Conditions: those of each statement.
-/
import Derived.Test.YtjhjghakfedeeaaGreatWaits
/-! What is under way and what comes of it: plain facts on the machine. Conditions: those of each statement. -/
section
namespace Go.Proofs.YtjhjghakfedeeaaGreat
open Go.RowKit Plain
set_option linter.unusedVariables false

/-- Something under way. -/
def St.under (s : St) (er : Bool) (a : Nat) (d : ByteArray) : St :=
  { s with left := (s.durs.headD 8).toNat, durs := s.durs.tail, erases := er, wat := a, wdata := d, wipes := if er then (fun i => if i = a / 512 then wrap64 (s.wipes i + 1) else s.wipes i) else s.wipes }
theorem begin_under {s : St} (er : Bool) (a : Nat) (d : ByteArray) (he : s.en = true) (hp : s.prot = false) : s.begin er a d = s.under er a d := by
  unfold St.begin
  rw [if_neg (by rw [he]; decide), if_neg (by rw [hp]; simp)]
  rfl
theorem under_idle {s : St} (h : s.Idle) (er : Bool) (a : Nat) (d : ByteArray) : (s.under er a d).Idle := ⟨h.sel, h.goes, h.k⟩
theorem done_rest {s : St} (h : s.Idle) (hs : s.sus = false) : s.done.Rest := ⟨⟨h.sel, h.goes, h.k⟩, rfl, hs⟩
/-- The command of a program. -/
def progK (a : Nat) (D : List Nat) : Cmd := (addrK (opOf 2) a).gots D
theorem progK_op (a : Nat) (D : List Nat) : (progK a D).op = opOf 2 := (gots_keeps D _).1
theorem progK_adr (a : Nat) (D : List Nat) : (progK a D).adr = a := (gots_keeps D _).2.1
theorem progK_count (a : Nat) (D : List Nat) : (progK a D).count = D.length := by rw [progK, (gots_keeps D _).2.2]; exact Nat.zero_add _
theorem progK_data (a : Nat) (D : List Nat) (hD : D.length ≤ 32) (j : Nat) (hj : j < D.length) : (progK a D).data j = UInt8.ofNat (D.getD j 0) := by
  rw [progK, gots_data D _ (by show 0 + D.length ≤ 32; omega)]
  show (if 0 ≤ j ∧ j < 0 + D.length then UInt8.ofNat (D.getD (j - 0) 0) else _) = _
  rw [if_pos (by omega), Nat.sub_zero]
theorem say_prog {s : St} (h : s.Rest) (he : s.en = true) (hp : s.prot = false) (a : Nat) (ha : a < 4096) (D : List Nat) (hD : ∀ x ∈ D, x < 256) (h0 : 0 < D.length) :
    s.say (wordL (2 :: 0 :: a / 256 :: a % 256 :: D)) = s.under false (a - a % 32) (progK a D).page := by
  rw [say_program h a ha D hD]
  show s.obey (progK a D) = _
  rw [obey_program _ (progK_op a D), if_pos (by rw [progK_count]; exact h0), progK_adr, begin_under _ _ _ he hp]
theorem page_ub (a : Nat) (D : List Nat) (hD : D.length ≤ 32) (j : Nat) (hj : j < 32) :
    ub (progK a D).page j = if (j + 32 - a % 32) % 32 < D.length then UInt8.ofNat (D.getD ((j + 32 - a % 32) % 32) 0) else 255 := by
  unfold Cmd.page
  rw [ub_tab _ _ _ hj, progK_adr, progK_count, Nat.min_eq_left hD]
  split
  · rename_i h; rw [progK_data a D hD _ h]
  · rfl
theorem pb_ff (x d : UInt8) : pb x d 255 = x &&& d := by
  unfold pb
  have h1 : ∀ d : UInt8, ~~~(~~~d &&& 255) = d := fun d => by
    apply UInt8.eq_of_toBitVec_eq
    show ~~~(~~~d.toBitVec &&& 255#8) = d.toBitVec
    rw [show (255#8 : BitVec 8) = BitVec.allOnes 8 from rfl, BitVec.and_allOnes, BitVec.not_not]
  rw [h1]
theorem and_ff (x : UInt8) : x &&& 255 = x := by
  apply UInt8.eq_of_toBitVec_eq
  show x.toBitVec &&& 255#8 = x.toBitVec
  rw [show (255#8 : BitVec 8) = BitVec.allOnes 8 from rfl, BitVec.and_allOnes]
theorem ff_and (x : UInt8) : 255 &&& x = x := by
  apply UInt8.eq_of_toBitVec_eq
  show 255#8 &&& x.toBitVec = x.toBitVec
  rw [show (255#8 : BitVec 8) = BitVec.allOnes 8 from rfl, BitVec.allOnes_and]
/-- The cells behind a program that is done. -/
def progA (A : ByteArray) (a : Nat) (D : List Nat) : ByteArray := prog A (a - a % 32) (progK a D).page ⟨#[255]⟩
theorem progA_size (A : ByteArray) (a : Nat) (D : List Nat) : (progA A a D).size = A.size := prog_size _ _ _ _
theorem progA_ub (A : ByteArray) (a : Nat) (D : List Nat) (hD : D.length ≤ 32) (j : Nat) (hj : j < A.size) :
    ub (progA A a D) j = if j / 32 = a / 32 ∧ (j + 32 - a % 32) % 32 < D.length then ub A j &&& UInt8.ofNat (D.getD ((j + 32 - a % 32) % 32) 0) else ub A j := by
  unfold progA
  rw [prog_ub hj, page_size]
  by_cases h1 : j / 32 = a / 32
  · rw [if_pos (by omega), mb_one, pb_ff, page_ub a D hD _ (by omega), show j - (a - a % 32) + 32 - a % 32 = j % 32 + 32 - a % 32 by omega, show (j % 32 + 32 - a % 32) % 32 = (j + 32 - a % 32) % 32 by omega]
    by_cases h2 : (j + 32 - a % 32) % 32 < D.length
    · rw [if_pos h2, if_pos ⟨h1, h2⟩]
    · rw [if_neg h2, if_neg (by omega), and_ff]
  · rw [if_neg (by omega), if_neg (by omega)]
theorem under_prog_done (s : St) (a : Nat) (D : List Nat) : (s.under false (a - a % 32) (progK a D).page).done = { s with A := progA s.A a D, left := 0, durs := s.durs.tail, erases := false, wat := 0, wdata := ⟨#[]⟩, en := false } := rfl
theorem under_left (s : St) (er : Bool) (a : Nat) (d : ByteArray) : (s.under er a d).left = (s.durs.headD 8).toNat := rfl

/-- A chip of these cells, at rest. -/
structure St.Plain (s : St) (A : ByteArray) : Prop where
  rest : s.Rest
  A : s.A = A
  durs : s.durs = []
  prot : s.prot = false
theorem plain_new (a : ByteArray) : (newSt a).Plain a := ⟨rest_new a, rfl, rfl, rfl⟩
theorem plain_en {s : St} {A : ByteArray} (h : s.Plain A) (e : Bool) : ({ s with en := e } : St).Plain A := ⟨rest_en h.rest e, h.A, h.durs, h.prot⟩
/-- Enabled. -/
theorem say_en {s : St} {A : ByteArray} (h : s.Plain A) : (s.say (wordL [6])).Plain A ∧ (s.say (wordL [6])).en = true := by
  rw [say_enable h.rest]; exact ⟨plain_en h true, rfl⟩
/-- A program under way. -/
structure St.Runs (s : St) (er : Bool) (a : Nat) (d : ByteArray) (A : ByteArray) : Prop where
  idle : s.Idle
  left : s.left = 8
  sus : s.sus = false
  en : s.en = true
  prot : s.prot = false
  A : s.A = A
  er : s.erases = er
  wat : s.wat = a
  wdata : s.wdata = d
  durs : s.durs = []
theorem runs_under {s : St} {A : ByteArray} (h : s.Plain A) (he : s.en = true) (er : Bool) (a : Nat) (d : ByteArray) : (s.under er a d).Runs er a d A :=
  ⟨under_idle h.rest.idle er a d, by rw [under_left, h.durs]; rfl, h.rest.sus, he, h.prot, h.A, rfl, rfl, rfl, by show s.durs.tail = []; rw [h.durs]; rfl⟩
theorem runs_done {s : St} {er : Bool} {a : Nat} {d A : ByteArray} (h : s.Runs er a d A) (n : Nat) (hn : 8 ≤ n) :
    s.say (List.replicate n 15) = s.done := by
  rw [say_nothing h.idle n]
  obtain ⟨j, rfl⟩ : ∃ j, n = s.left + j := ⟨n - s.left, by rw [h.left]; omega⟩
  exact wait_more h.sus (by rw [h.left]; decide) j
theorem runs_plain {s : St} {er : Bool} {a : Nat} {d A : ByteArray} (h : s.Runs er a d A) : s.done.Plain (s.on ⟨#[255]⟩) :=
  ⟨done_rest h.idle h.sus, rfl, h.durs, h.prot⟩
theorem runs_on_prog {s : St} {a : Nat} {D : List Nat} {A : ByteArray} (h : s.Runs false (a - a % 32) (progK a D).page A) : s.on ⟨#[255]⟩ = progA A a D := by
  unfold St.on progA
  rw [h.er, h.wat, h.wdata, h.A]
  rfl
/-- Programs, in one: it runs, and is done. -/
theorem prog_runs {s : St} {A : ByteArray} (h : s.Plain A) (he : s.en = true) (a : Nat) (ha : a < 4096) (D : List Nat) (hD : ∀ x ∈ D, x < 256) (h0 : 0 < D.length) :
    (s.say (wordL (2 :: 0 :: a / 256 :: a % 256 :: D))).Runs false (a - a % 32) (progK a D).page A := by
  rw [say_prog h.rest he h.prot a ha D hD h0]
  exact runs_under h he _ _ _
theorem prog_done {s : St} {a : Nat} {D : List Nat} {A : ByteArray} (h : s.Runs false (a - a % 32) (progK a D).page A) (n : Nat) (hn : 8 ≤ n) :
    (s.say (List.replicate n 15)).Plain (progA A a D) ∧ (s.say (List.replicate n 15)).en = false := by
  rw [runs_done h n hn, ← runs_on_prog h]
  exact ⟨runs_plain h, rfl⟩
theorem plain_first {s : St} {A : ByteArray} (h : s.Plain A) : s.first = if s.en then 2 else 0 := by
  unfold St.first
  rw [rest_busy h.rest, h.prot]
  cases s.en <;> rfl
theorem runs_first {s : St} {er : Bool} {a : Nat} {d A : ByteArray} (h : s.Runs er a d A) : s.first = 3 := by
  have hb : s.busy = true := by unfold St.busy; rw [h.left, h.sus]; rfl
  unfold St.first
  rw [hb, h.prot, h.en]
  rfl
end Go.Proofs.YtjhjghakfedeeaaGreat
end

/-! What clocks leave of a chip whose command is known, whatever they are: all but the command itself. Plain facts on the machine. Conditions: those of each statement. -/
section
namespace Go.Proofs.YtjhjghakfedeeaaGreat
open Go.RowKit Plain
set_option linter.unusedVariables false

/-- With another command, looked up or not. -/
def St.setM (s : St) (k : Cmd) (m : Bool) : St := { s with k := k, made := m }
theorem countDown_setM (s : St) (k : Cmd) (m : Bool) : (s.setM k m).countDown = s.countDown.setM k m := by
  unfold St.countDown
  by_cases hb : s.busy = true
  · rw [if_pos (show (s.setM k m).busy = true from hb), if_pos hb]
    by_cases h0 : 0 < s.left - 1
    · rw [if_pos (show 0 < (s.setM k m).left - 1 from h0), if_pos h0]; rfl
    · rw [if_neg (show ¬ 0 < (s.setM k m).left - 1 from h0), if_neg h0]; rfl
  · rw [if_neg (show ¬ (s.setM k m).busy = true from hb), if_neg hb]
theorem wait_setM (s : St) (k : Cmd) (m : Bool) (j : Nat) : (s.setM k m).wait j = (s.wait j).setM k m := by
  induction j with
  | zero => rfl
  | succ j ih => show ((s.setM k m).wait j).countDown = _; rw [ih, countDown_setM]; rfl
theorem nextPart_ne0 (o : Op) (p : Nat) : nextPart o p ≠ 0 := by
  unfold nextPart
  repeat' split
  all_goals omega
theorem nextPart_ne2 {o : Op} (hm : o.mode = false) (p : Nat) : nextPart o p ≠ 2 := by
  have h : (splitO o 2).2 = 0 := by simp [splitO, hm]
  unfold nextPart
  repeat' split
  all_goals omega
theorem setK_setM (s : St) (k : Cmd) : s.setK k = s.setM k s.made := rfl
theorem heard_known (t : St) (x : Nat) (h0 : t.k.part ≠ 0) (h2 : t.k.part ≠ 2) (hm : t.k.op.mode = false) :
    ∃ k' m', (t.heard x).1 = t.setM k' m' ∧ k'.op = t.k.op ∧ k'.mode = t.k.mode ∧ k'.part ≠ 0 ∧ k'.part ≠ 2 ∧ (4 ≤ t.k.part → k'.part = t.k.part) := by
  unfold St.heard
  by_cases hs : t.sel = false
  · rw [if_pos hs]; exact ⟨t.k, t.made, rfl, rfl, rfl, h0, h2, fun _ => rfl⟩
  · rw [if_neg hs]
    by_cases hq : t.k.speaks = true
    · rw [if_pos hq]
      show ∃ k' m', t.begun.setK t.begun.k.told = t.setM k' m' ∧ _
      have hb : ∃ k1 m1, t.begun = t.setM k1 m1 ∧ k1.op = t.k.op ∧ k1.mode = t.k.mode ∧ k1.part = t.k.part := by
        unfold St.begun
        split
        · unfold St.looked
          split
          · exact ⟨_, _, rfl, rfl, rfl, rfl⟩
          · exact ⟨_, _, rfl, rfl, rfl, rfl⟩
        · exact ⟨t.k, t.made, rfl, rfl, rfl, rfl⟩
      obtain ⟨k1, m1, e1, e2, e3, e4⟩ := hb
      rw [e1]
      have ht : ∀ k : Cmd, k.told.op = k.op ∧ k.told.mode = k.mode ∧ k.told.part = k.part := fun k => by
        unfold Cmd.told; split <;> exact ⟨rfl, rfl, rfl⟩
      obtain ⟨i1, i2, i3⟩ := ht k1
      exact ⟨k1.told, m1, rfl, i1.trans e2, i2.trans e3, by rw [i3, e4]; exact h0, by rw [i3, e4]; exact h2, fun _ => by rw [i3, e4]⟩
    · rw [if_neg hq]
      show ∃ k' m', t.hear x = t.setM k' m' ∧ _
      unfold St.hear
      split
      · rename_i hc
        unfold St.complete
        have p0 : ¬ (t.setK (t.k.came x)).k.part = 0 := h0
        have p2 : ¬ (t.setK (t.k.came x)).k.part = 2 := h2
        rw [if_neg p0]
        by_cases p1 : (t.setK (t.k.came x)).k.part = 1
        · rw [if_pos p1]
          refine ⟨_, _, rfl, rfl, rfl, nextPart_ne0 _ _, nextPart_ne2 hm _, fun h4 => ?_⟩
          have : t.k.part = 1 := p1
          omega
        · rw [if_neg p1, if_neg p2]
          by_cases p4 : (t.setK (t.k.came x)).k.part = 4
          · rw [if_pos p4]
            exact ⟨_, _, rfl, rfl, rfl, h0, h2, fun _ => rfl⟩
          · rw [if_neg p4]
            refine ⟨_, _, rfl, rfl, rfl, nextPart_ne0 _ _, nextPart_ne2 hm _, fun h4 => ?_⟩
            have p4' : t.k.part ≠ 4 := p4
            have hsp : t.k.split.2 = 0 := by
              unfold Cmd.split splitO
              rw [if_neg (by omega), if_neg (by omega), if_neg (by omega), if_neg (by omega), if_neg (by omega)]
            omega
      · exact ⟨_, _, rfl, rfl, rfl, h0, h2, fun _ => rfl⟩
theorem run_known (s : St) (X : List Nat) (h0 : s.k.part ≠ 0) (h2 : s.k.part ≠ 2) (hm : s.k.op.mode = false) :
    ∃ k' m', (s.run X).1 = (s.wait X.length).setM k' m' ∧ k'.op = s.k.op ∧ k'.mode = s.k.mode ∧ k'.part ≠ 0 ∧ k'.part ≠ 2 ∧ (4 ≤ s.k.part → k'.part = s.k.part) := by
  induction X generalizing s with
  | nil => exact ⟨s.k, s.made, rfl, rfl, rfl, h0, h2, fun _ => rfl⟩
  | cons x r ih =>
    have hk := countDown_k s
    obtain ⟨k1, m1, e1, e2, e3, e4, e5, e6⟩ := heard_known s.countDown x (by rw [hk]; exact h0) (by rw [hk]; exact h2) (by rw [hk]; exact hm)
    rw [hk] at e2 e3 e6
    obtain ⟨k2, m2, i1, i2, i3, i4, i5, i6⟩ := ih (s.countDown.setM k1 m1) e4 e5 (by show k1.op.mode = false; rw [e2]; exact hm)
    refine ⟨k2, m2, ?_, i2.trans e2, i3.trans e3, i4, i5, fun h4 => ?_⟩
    · show ((s.countDown.heard x).1.run r).1 = _
      rw [e1, i1, wait_setM, wait_succ]
      rfl
    · have := e6 h4
      rw [i6 (by show 4 ≤ k1.part; omega)]
      exact this
/-- A chip that a command left as it was, but for what it is like. -/
theorem setM_k (s : St) (h : s.Idle) (m : Bool) : ({ s with made := m } : St).Idle := ⟨h.sel, h.goes, h.k⟩
theorem deselect_setM {s : St} (h : s.Idle) (k : Cmd) (m : Bool) (hm : k.mode ≠ 160) : (s.picked.setM k m).deselect = if k.whole then ({ s with made := m } : St).obey k else { s with made := m } :=
  deselect_idle (setM_k s h m) k hm
/-- Bytes of commands that do nothing at a busy chip. -/
theorem startK_part (o : Op) : (startK o).part ≠ 0 := nextPart_ne0 o 0
theorem opOf_mode_all : ∀ b : Fin 256, b.val ≠ 235 → (opOf b.val).mode = false := by decide +kernel
theorem opOf_mode (b : Nat) (h : b < 256) (hb : b ≠ 235) : (opOf b).mode = false := opOf_mode_all ⟨b, h⟩ hb
/-- A byte, and any clocks behind it, at an idle chip. -/
theorem say_known {s : St} (h : s.Idle) (b : Nat) (hb : b < 256) (hmd : ((s.wait 8).opFor b).mode = false) (R : List Nat) :
    ∃ k' m', s.say (bitsOf b ++ R) = (if k'.whole then ({ s.wait (8 + R.length) with made := m' } : St).obey k' else { s.wait (8 + R.length) with made := m' }) ∧ k'.op = (s.wait 8).opFor b ∧ k'.mode = 0 := by
  unfold St.say
  rw [select_idle h, run_append, byteW (s := s.picked) rfl (picked_k h) b hb]
  have hw : s.picked.wait 8 = (s.wait 8).picked := wait_picked s 8
  have h8 := wait_idle h 8
  have ha : (s.wait 8).wait R.length = s.wait (8 + R.length) := wait_add s 8 R.length
  rw [hw]
  have hmode := hmd
  generalize s.wait 8 = t at h8 ha hmode ⊢
  dsimp only
  rw [picked_opFor]
  obtain ⟨k', m', e1, e2, e3, e4, e5, e6⟩ := run_known (t.picked.setK (startK (t.opFor b))) R (startK_part _) (nextPart_ne2 hmode 0) hmode
  refine ⟨k', m', ?_, e2, e3⟩
  rw [e1]
  have hi := wait_idle h8 R.length
  rw [ha] at hi
  have e7 : (t.picked.setK (startK (t.opFor b))).wait R.length = (s.wait (8 + R.length)).picked.setM (startK (t.opFor b)) t.made := by
    rw [setK_setM, wait_setM, wait_picked, ha]; rfl
  rw [e7]
  show ((s.wait (8 + R.length)).picked.setM k' m').deselect = _
  exact deselect_setM hi k' m' (by rw [e3]; show (0 : Nat) ≠ 160; decide)
end Go.Proofs.YtjhjghakfedeeaaGreat
end
