/-
  Calls of a chip for the laws on losses, on pages and on reads that go on; the numbers of their tables. Conditions: those of each statement. Reads that go on: plain facts on the machine. Conditions: those of each statement.
-/
import Derived.Test.YtjhjghakfedeeaaGreatBusy
/-! Calls of a chip for the laws on losses, on pages and on reads that go on; the numbers of their tables. Conditions: those of each statement. -/
section
namespace Go.Proofs.YtjhjghakfedeeaaGreat
open Go.RowKit Plain
set_option linter.unusedVariables false

def tableB : List Nat := [6, 4, 5, 159, 117, 122, 3, 0]
theorem tableB_is (r : Nat) (hr : r < 8) : tableB.getD r 0 = 6 ∨ tableB.getD r 0 = 4 ∨ tableB.getD r 0 = 5 ∨ tableB.getD r 0 = 159 ∨ tableB.getD r 0 = 117 ∨ tableB.getD r 0 = 122 ∨ tableB.getD r 0 = 3 ∨ tableB.getD r 0 = 0 := by
  rcases (by omega : r = 0 ∨ r = 1 ∨ r = 2 ∨ r = 3 ∨ r = 4 ∨ r = 5 ∨ r = 6 ∨ r = 7) with rfl | rfl | rfl | rfl | rfl | rfl | rfl | rfl <;> decide
theorem select_run (n b : Nat) (u w : World) (s : St) (h : Hid (Run n b u w s)) (hl : s.sel = false) :
    Calls Tryz.prog 57 #[.pointer (some ⟨b, 0, none⟩)] w fun e w' => e = .returned (.int .i64 0) ∧ Hid (Run n b u w' s.select) ∧ Only b w w' :=
  (select_lies n b s w h.out.lies hl).mono fun e w' ⟨h1, h2, h3⟩ => ⟨h1, ⟨h2, h.out.only.trans h3⟩, h3⟩
theorem deselect_run (n m b : Nat) (u w : World) (s : St) (h : Hid (Run n b u w s)) (hl : s.sel = true) (hn : n < 1000000) :
    Calls Tryz.prog 61 #[.pointer (some ⟨b, 0, none⟩)] w fun e w' => e = .returned (.int .i64 0) ∧ Hid (Run m b u w' s.deselect) ∧ Only b w w' :=
  (deselect_lies n m b s w h.out.lies (by omega) hl).mono fun e w' ⟨h1, h2, h3⟩ => ⟨h1, ⟨h2, h.out.only.trans h3⟩, h3⟩
theorem clock_at (n b : Nat) (u w : World) (s : St) (x y : Nat) (h : Hid (Run n b u w s)) (hn : n < 1000000) (hx : x < 16) (hy : (s.clock x).2 = y) :
    Calls Tryz.prog 58 #[.pointer (some ⟨b, 0, none⟩), .int .i64 (x : Int)] w fun e w' => e = .returned (.tuple #[.int .i64 (y : Int), .int .i64 0]) ∧ Hid (Run (n + 1) b u w' (s.clock x).1) ∧ Only b w w' := by
  subst hy
  exact (clock_lies n b s x w h.out.lies (by omega) hx).mono fun e w' ⟨h1, h2, h3⟩ => ⟨h1, ⟨h2, h.out.only.trans h3⟩, h3⟩
theorem loss_run (n m b : Nat) (u w : World) (s : St) (t : ByteArray) (h : Hid (Run n b u w s)) (ht : t.size ≤ maxLen) :
    Calls Tryz.prog 23 #[.pointer (some ⟨b, 0, none⟩), .string t] w fun e w' => e = .returned (.int .i64 0) ∧ Hid (Run m b u w' (s.loss t)) ∧ Only b w w' :=
  (loss_lies n m b s t w h.out.lies ht).mono fun e w' ⟨h1, h2, h3⟩ => ⟨h1, ⟨h2, h.out.only.trans h3⟩, h3⟩
/-- What the chip is behind the clocks of the law, just ahead of the loss. -/
structure St.Off (s : St) (A : ByteArray) : Prop where
  A : s.A = A
  left : s.left = 0
  prot : s.prot = false
  quad : s.quad = false
theorem off_still {s : St} {A : ByteArray} (h : s.Still A) (L : List Int) : (s.next L).Off A := ⟨h.A, h.rest.left, h.prot, h.quad⟩
theorem still_next {s : St} {A : ByteArray} (h : s.Still A) (L : List Int) : (s.next L).Still A := ⟨⟨⟨h.rest.idle.sel, h.rest.idle.goes, h.rest.idle.k⟩, h.rest.left, h.rest.sus⟩, h.A, h.prot, h.quad⟩
theorem off_clock {s : St} {A : ByteArray} (h : s.Still A) : (s.select.clock 14).1.Off A := by
  obtain ⟨h1, h2, h3, h4, _⟩ := clock_picked h
  exact ⟨h1, h2, h3, h4⟩
/-- Sectors ahead of the one that is erased. -/
theorem erase_low (A : ByteArray) (hA : A.size = 4096) (k : Nat) (hk : k ≤ 2048) : ∀ j, j < k → ub (erase A 4 ⟨#[255]⟩) j = ub A j := fun j hj => by
  rw [erase_ub (by omega), if_neg (by omega)]
theorem only_grown {g : Nat} {w w' : World} (h : w.grownBy w' (some g)) : Only g w w' := ⟨h.os, h.tape, h.output, h.size, fun k hk hb => h.block k hk (fun e => hb (by cases e; rfl))⟩
theorem owns_nil {B : Nat} {w : World} : Owns B w (.slice none 0 0) [] := World.ownsRow_nil _ _ _ _
theorem src_here {B : Nat} {w : World} {g n c : Nat} {L : List Nat} (h : Hid (Owns B w (.slice (some ⟨g, 0, none⟩) n c) (nums L))) : Hid (∀ j u, ((nums L).map (Value.int .i64))[j]? = some u → w.cell? ((⟨g, 0, none⟩ : Addr).add j) = some u) := fun j u hj => by
  have hjl : j < L.length := by
    have := (List.getElem?_eq_some_iff.1 hj).1
    simpa [nums_length] using this
  have h1 := owns_cell h j hjl
  have e0 : (⟨g, 0, none⟩ : Addr).add j = ⟨g, j, none⟩ := by unfold Addr.add; split <;> simp_all
  rw [e0, h1]
  rw [List.getElem?_map] at hj
  unfold nums at hj
  rw [List.getElem?_map] at hj
  rw [List.getD_eq_getElem?_getD]
  cases e : L[j]? with
  | none => rw [e] at hj; cases hj
  | some y => rw [e] at hj; exact hj
/-- A chip that no duration waits in, behind something that grew elsewhere. -/
theorem rn_past {n b B : Nat} {u w w' : World} {s : St} (h : Hid (Run n b u w s)) (hd : s.durs = []) (hb : b < B) (k : Below B w w') : Hid (Run n b w' w' s) := by
  refine rn_start ?_
  obtain ⟨⟨ds, h1, h2⟩, h3⟩ := h.out.lies
  have hB : LiesB B n b w s := ⟨ds, h1, h2, fun g _ h0 => by rw [hd] at h0; exact absurd h0 (by decide), h3, hb⟩
  exact (hB.below k).lies
theorem ub_cut (s : ByteArray) (lo hi i : Nat) (h : lo + i < hi) (hs : hi ≤ s.size) : ub (s.extract lo hi) i = ub s (lo + i) := by
  rw [ub_of _ _ (by rw [ByteArray.size_extract]; omega), ub_of _ _ (by omega)]
  exact ByteArray.getElem_extract ..
theorem cut_same (E A : ByteArray) (k : Nat) (hE : k ≤ E.size) (hA : k ≤ A.size) (h : ∀ j, j < k → ub E j = ub A j) : ((E.extract 0 k).toList == (A.extract 0 k).toList) = true := by
  have e : E.extract 0 k = A.extract 0 k := by
    apply ext_ub (by rw [ByteArray.size_extract, ByteArray.size_extract]; omega)
    intro j hj
    rw [ByteArray.size_extract] at hj
    rw [ub_cut _ _ _ _ (by omega) hE, ub_cut _ _ _ _ (by omega) hA, h _ (by omega)]
  rw [e]; simp
end Go.Proofs.YtjhjghakfedeeaaGreat
end

/-! Reads that go on: plain facts on the machine. Conditions: those of each statement. -/
section
namespace Go.Proofs.YtjhjghakfedeeaaGreat
open Go.RowKit Plain
set_option linter.unusedVariables false

/-- A chip with quad set, at rest; a read goes on, or not. -/
structure St.Quads (s : St) (A : ByteArray) (g : Bool) : Prop where
  sel : s.sel = false
  goes : s.goes = g
  k : s.k = noCmd
  left : s.left = 0
  sus : s.sus = false
  A : s.A = A
  quad : s.quad = true
  en : s.en = false
  prot : s.prot = false
theorem quads_busy {s : St} {A : ByteArray} {g : Bool} (h : s.Quads A g) : s.busy = false := by unfold St.busy; rw [h.left]; rfl
theorem quads_takes {s : St} {A : ByteArray} {g : Bool} (h : s.Quads A g) : s.takes 235 = true := by
  unfold St.takes
  rw [if_neg (by decide), if_neg (by decide), if_pos (by decide), h.quad, quads_busy h]
  rfl
theorem quads_of {s : St} {A : ByteArray} (h : s.Plain A) (hq : s.quad = true) (he : s.en = false) : s.Quads A false :=
  ⟨h.rest.idle.sel, h.rest.idle.goes, h.rest.idle.k, h.rest.left, h.rest.sus, h.A, hq, he, h.prot⟩
theorem quads_rest {s : St} {A : ByteArray} (h : s.Quads A false) : s.Rest := ⟨⟨h.sel, h.goes, h.k⟩, h.left, h.sus⟩
theorem quads_first {s : St} {A : ByteArray} {g : Bool} (h : s.Quads A g) : s.first = 0 := by
  unfold St.first
  rw [quads_busy h, h.prot, h.en]
  rfl
/-- Clocks ahead of the address. -/
def headG (g : Bool) : List Nat := if g then [] else wordL [235]
def tailL (k mode : Nat) : List Nat := [0, 0, k / 4096, k / 256 % 16, k / 16 % 16, k % 16, mode / 16, mode % 16]
theorem run_head4 {s : St} {A : ByteArray} {g : Bool} (h : s.Quads A g) (R : List Nat) :
    s.select.run (headG g ++ R) = (((s.picked.setK (startK (opOf 235))).run R).1, List.replicate (headG g).length 15 ++ ((s.picked.setK (startK (opOf 235))).run R).2) := by
  have hb : s.picked.busy = false := by rw [picked_busy]; exact quads_busy h
  cases g with
  | true =>
    have e : s.select = s.picked.setK (startK (opOf 235)) := by
      unfold St.select
      rw [if_pos h.goes]
      show s.picked.take 235 = _
      unfold St.take
      have ht : s.picked.takes 235 = true := by have h9 := quads_takes h; exact h9
      rw [ht, if_pos rfl]
      have hk : s.picked.k = noCmd := h.k
      rw [hk]
      rfl
    rw [e]
    rfl
  | false =>
    have e : s.select = s.picked := by unfold St.select; rw [if_neg (by rw [h.goes]; decide)]; rfl
    have ho : s.picked.opFor 235 = opOf 235 := by
      unfold St.opFor
      have ht : s.picked.takes 235 = true := by have h9 := quads_takes h; exact h9
      rw [ht]; rfl
    show s.select.run (wordL [235] ++ R) = _
    rw [e, wordL_one, run_append, run_byte hb rfl h.k 235 (by decide), ho]
    rfl
def modeK (a : Nat) : Cmd := { noCmd with op := opOf 235, adr := a, part := 2 }
def dumK (a m : Nat) : Cmd := { noCmd with op := opOf 235, adr := a, part := 3, mode := m }
theorem run_addr4 {s : St} (hq : s.busy = false) (hs : s.sel = true) (k : Nat) (hk : k < 4096) :
    (s.setK (startK (opOf 235))).run [0, 0, k / 4096, k / 256 % 16, k / 16 % 16, k % 16] = (s.setK (modeK k), List.replicate 6 15) := by
  have hsp : (startK (opOf 235)).split = (4, 6) := by decide
  rw [show s.setK (startK (opOf 235)) = s.setK ((startK (opOf 235)).mid 0 0) from rfl, feed hq hs (by decide) _ (by rw [hsp]; rfl) (by rw [hsp]; decide), hsp]
  have hv : val 4 0 [0, 0, k / 4096, k / 256 % 16, k / 16 % 16, k % 16] = k := by
    show (((((0 * 2 ^ 4 + 0 % 2 ^ 4) * 2 ^ 4 + 0 % 2 ^ 4) * 2 ^ 4 + k / 4096 % 2 ^ 4) * 2 ^ 4 + k / 256 % 16 % 2 ^ 4) * 2 ^ 4 + k / 16 % 16 % 2 ^ 4) * 2 ^ 4 + k % 16 % 2 ^ 4 = k
    omega
  rw [hv]
  show ((s.setK ((startK (opOf 235)).mid k 6)).complete, _) = _
  unfold St.complete
  rw [if_neg (by show ¬ (startK (opOf 235)).part = 0; decide), if_pos (by show (startK (opOf 235)).part = 1; decide)]
  show (s.setK (Cmd.turn { (startK (opOf 235)).mid k 6 with adr := k % 4096 }), _) = _
  rw [Nat.mod_eq_of_lt hk]
  have h1 : nextPart (opOf 235) (nextPart (opOf 235) 0) = 2 := by decide
  unfold Cmd.turn modeK startK Cmd.mid
  dsimp only
  rw [h1]
  rfl
theorem run_mode4 {s : St} (hq : s.busy = false) (hs : s.sel = true) (k m : Nat) (hm : m < 256) :
    (s.setK (modeK k)).run [m / 16, m % 16] = (s.setK (dumK k m), List.replicate 2 15) := by
  have hsp : (modeK k).split = (4, 2) := by show splitO (opOf 235) 2 = (4, 2); decide
  rw [show s.setK (modeK k) = s.setK ((modeK k).mid 0 0) from rfl, feed hq hs rfl _ (by rw [hsp]; rfl) (by rw [hsp]; decide), hsp]
  have hv : val 4 0 [m / 16, m % 16] = m := by
    show (0 * 2 ^ 4 + m / 16 % 2 ^ 4) * 2 ^ 4 + m % 16 % 2 ^ 4 = m
    omega
  rw [hv]
  show ((s.setK ((modeK k).mid m 2)).complete, _) = _
  unfold St.complete
  rw [if_neg (by show ¬ (2 : Nat) = 0; decide), if_neg (by show ¬ (2 : Nat) = 1; decide), if_pos (by show (2 : Nat) = 2; rfl)]
  have h1 : nextPart (opOf 235) 2 = 3 := by decide
  show (s.setK (Cmd.turn { (modeK k).mid m 2 with mode := m }), _) = _
  unfold Cmd.turn modeK dumK Cmd.mid
  dsimp only
  rw [h1]
  rfl
theorem dum_turn (k m : Nat) : (dumK k m).turn = { noCmd with op := opOf 235, adr := k, part := 4, mode := m } := by
  have h1 : nextPart (opOf 235) 3 = 4 := by decide
  unfold Cmd.turn dumK
  dsimp only
  rw [h1]
  rfl
/-- One read, of one byte. -/
theorem run_goes {s : St} {A : ByteArray} {g : Bool} (h : s.Quads A g) (k m : Nat) (hk : k < 4096) (hm : m < 256) :
    ∃ k' : Cmd, s.select.run (headG g ++ tailL k m ++ List.replicate 6 15) = (s.picked.setK k', List.replicate ((headG g).length + 12) 15 ++ halves (ub A (k % A.size)).toNat) ∧ k'.op = opOf 235 ∧ k'.mode = m := by
  have hb : s.picked.busy = false := by rw [picked_busy]; exact quads_busy h
  have hd : (dumK k m).turn = { noCmd with op := opOf 235, adr := k, part := 4, mode := m } := dum_turn k m
  obtain ⟨k', e1, e2, e3⟩ := run_outs4 (s := s.picked) (k := (dumK k m).turn) hb rfl (by rw [hd]; rfl) (by rw [hd]; show splitO (opOf 235) 4 = (4, 2); decide) (by rw [hd]; rfl) (by rw [hd]; show (opOf 235).byte ≠ 90; decide) 1 [15, 15] rfl
  refine ⟨k', ?_, by rw [e2, hd], by rw [e3, hd]⟩
  have e4 : headG g ++ tailL k m ++ List.replicate 6 15 = headG g ++ ([0, 0, k / 4096, k / 256 % 16, k / 16 % 16, k % 16] ++ ([m / 16, m % 16] ++ ([15, 15, 15, 15] ++ [15, 15]))) := by
    rw [List.append_assoc]; rfl
  rw [e4, run_head4 h, run_append, run_addr4 hb rfl k hk]
  dsimp only
  rw [run_append, run_mode4 hb rfl k m hm]
  dsimp only
  rw [run_append, run_dummy (s := s.picked) (k := dumK k m) hb rfl rfl rfl rfl [15, 15, 15, 15] rfl (show 0 < (opOf 235).dummy by decide)]
  dsimp only
  rw [e1]
  dsimp only
  have e5 : ((List.range 1).map fun i => (s.picked.setK ((dumK k m).turn.after i)).dataByte).flatMap halves = halves (ub A (k % A.size)).toNat := by
    show halves (s.picked.setK ((dumK k m).turn.after 0)).dataByte ++ [] = _
    rw [List.append_nil, hd]
    show halves (ub s.A ((k + (0 + 0)) % s.A.size)).toNat = _
    rw [h.A]; rfl
  rw [e5]
  show (_, List.replicate _ 15 ++ (List.replicate 6 15 ++ (List.replicate 2 15 ++ (List.replicate 4 15 ++ _)))) = _
  rw [← List.append_assoc, ← List.append_assoc, ← List.append_assoc, List.replicate_append_replicate, List.replicate_append_replicate, List.replicate_append_replicate]
theorem goes_on {s : St} {A : ByteArray} {g : Bool} (h : s.Quads A g) (k m : Nat) (hk : k < 4096) (hm : m < 256) :
    (s.say (headG g ++ tailL k m ++ List.replicate 6 15)).Quads A (decide (m = 160)) ∧ s.hears (headG g ++ tailL k m ++ List.replicate 6 15) = List.replicate ((headG g).length + 12) 15 ++ halves (ub A (k % A.size)).toNat := by
  obtain ⟨k', e1, e2, e3⟩ := run_goes h k m hk hm
  unfold St.say St.hears
  rw [e1]
  refine ⟨?_, rfl⟩
  have he : ∀ t : St, t.obey k' = t := fun t => obey_other t k' (by rw [e2]; decide)
  have hE : (s.picked.setK k').ended.Quads A (decide (m = 160)) := by
    refine ⟨rfl, ?_, rfl, h.left, h.sus, h.A, h.quad, h.en, h.prot⟩
    show decide (k'.mode = 160) = _
    rw [e3]
  show (s.picked.setK k').deselect.Quads A _
  unfold St.deselect
  rw [show (s.picked.setK k').k = k' from rfl, he]
  split <;> exact hE
/-- The status, asked for. -/
theorem hears_status {s : St} (h : s.Rest) : s.hears (wordL [5] ++ List.replicate 8 15) = List.replicate 8 15 ++ outBs [s.first] := by
  unfold St.hears
  rw [select_idle h.idle, wordL_one, run_append, run_byte (s := s.picked) (rest_picked h) rfl (picked_k h.idle) 5 (by decide), picked_opFor, rest_opFor h 5 (by decide)]
  dsimp only
  obtain ⟨s', k', h1, _⟩ := run_outs (s := s.picked) (k := startK (opOf 5)) (rest_picked h) rfl rfl (split_one rfl rfl) rfl 1 (List.replicate 8 15) (by simp)
  rw [h1]
  rfl
theorem ghid_is {α : Type} (a : α) : ∃ t, Hid (a = t) := ⟨a, rfl⟩
theorem head_false : (headG false).length = 8 := rfl
theorem head_is : headG false = wordL [235] := rfl
theorem head_row {B : Nat} {w : World} {a : Option Addr} {c : Nat} (h : Hid (Owns B w (.slice a 8 c) (nums (wordL [235])))) : w.ownsRow B 3 1 (.slice a 8 c) 8 ((nums (headG false)).map (Value.int .i64)) := by
  have h1 := h.out
  unfold Owns at h1
  rw [nums_length, wordL_length] at h1
  rw [head_is]
  exact h1
theorem lenh_true : (headG true).length = 0 := rfl
theorem lenh_false : (headG false).length = 8 := by rw [head_is, wordL_length]; rfl
theorem len_true : (headG true).length + 12 = 12 := rfl
theorem len_false : (headG false).length + 12 = 20 := by rw [lenh_false]
theorem len_head_true (k m : Nat) : (headG true ++ tailL k m).length = 8 := rfl
theorem len_head_false (k m : Nat) : (headG false ++ tailL k m).length = 16 := by rw [List.length_append, lenh_false]; rfl
theorem len_all_true (k m : Nat) : (headG true ++ tailL k m ++ List.replicate 6 15).length = 14 := rfl
theorem len_all_false (k m : Nat) : (headG false ++ tailL k m ++ List.replicate 6 15).length = 22 := by rw [List.length_append, len_head_false]; rfl
theorem nib_or (y : Nat) (hy : y < 256) : bits .or .i64 (((y / 16 % 16 : Nat) : Int) * 16) ((y % 16 : Nat) : Int) = (y : Int) := by
  have h := or_add ((y / 16 % 16 : Nat) : Int) ((y % 16 : Nat) : Int) 4 (by omega) (by omega) (by omega) (by omega)
  rw [show (2 : Int) ^ 4 = 16 from rfl] at h
  rw [h]
  omega
theorem and_15n (z : Nat) : bits .and .i64 (z : Int) 15 = ((z % 16 : Nat) : Int) := by
  have h := and_mask (z : Int) 4 (by decide)
  rw [show (2 : Int) ^ 4 = 16 from rfl, show (16 : Int) - 1 = 15 from rfl] at h
  rw [h]
  omega
theorem told_hi (n y : Nat) : (List.replicate n 15 ++ halves y).getD n 0 = y / 16 % 16 ∧ (List.replicate n 15 ++ halves y).getD (n + 1) 0 = y % 16 := by
  constructor
  · rw [List.getD_eq_getElem?_getD, List.getElem?_append_right (by simp), List.length_replicate, Nat.sub_self]; rfl
  · rw [List.getD_eq_getElem?_getD, List.getElem?_append_right (by simp), List.length_replicate, Nat.add_sub_cancel_left]; rfl
theorem tail_lt (k m : Nat) (hk : k < 4096) (hm : m < 256) : ∀ x ∈ tailL k m, x < 16 := by
  intro x hx
  unfold tailL at hx
  simp only [List.mem_cons, List.not_mem_nil, or_false] at hx
  omega
theorem head_lt (g : Bool) : ∀ x ∈ headG g, x < 16 := by
  cases g
  · exact wordL_lt _
  · intro x hx; cases hx
/-- The cells of the two clocks in which a byte is told. -/
theorem told_cells {B : Nat} {w : World} {g n c N y : Nat} (h : Hid (Owns B w (.slice (some ⟨g, 0, none⟩) N c) (nums (List.replicate n 15 ++ halves y)))) :
    w.cell? ⟨g, n, none⟩ = some (.int .i64 ((y / 16 % 16 : Nat) : Int)) ∧ w.cell? ⟨g, n + 1, none⟩ = some (.int .i64 ((y % 16 : Nat) : Int)) := by
  have hl : (List.replicate n 15 ++ halves y).length = n + 2 := by rw [List.length_append, List.length_replicate]; rfl
  have h1 := owns_cell h n (by omega)
  have h2 := owns_cell h (n + 1) (by omega)
  rw [(told_hi n y).1] at h1
  rw [(told_hi n y).2] at h2
  exact ⟨h1, h2⟩
theorem status_row {s : St} {A : ByteArray} (h : s.Quads A false) : s.hears (wordL [5] ++ List.replicate 8 15) = List.replicate 8 15 ++ outBs ((List.range 1).map fun _ => 0) := by
  rw [hears_status (quads_rest h), quads_first h]; rfl
end Go.Proofs.YtjhjghakfedeeaaGreat
end
