/-
  Reads that go on: plain facts on the machine. Conditions: those of each statement.
-/
import Derived.Test.YthhchfldgkgfpaaLost
namespace Go.Proofs.Ythhchfldgkgfpaa
open Go.RowKit Plain
set_option linter.unusedVariables false

/-- A chip with quad set, at rest; a read goes on, or not. -/
structure St.Quads (s : St) (A : ByteArray) (g : Bool) : Prop where
  sel : s.sel = false
  goes : s.goes = g
  k : s.k = noCmd
  left : s.left = 0
  sus : s.sus = false
  A : s.A = A
  quad : s.quad = true
  en : s.en = false
  prot : s.prot = false
theorem quads_busy {s : St} {A : ByteArray} {g : Bool} (h : s.Quads A g) : s.busy = false := by unfold St.busy; rw [h.left]; rfl
theorem quads_takes {s : St} {A : ByteArray} {g : Bool} (h : s.Quads A g) : s.takes 235 = true := by
  unfold St.takes
  rw [if_neg (by decide), if_neg (by decide), if_pos (by decide), h.quad, quads_busy h]
  rfl
theorem quads_of {s : St} {A : ByteArray} (h : s.Plain A) (hq : s.quad = true) (he : s.en = false) : s.Quads A false :=
  ⟨h.rest.idle.sel, h.rest.idle.goes, h.rest.idle.k, h.rest.left, h.rest.sus, h.A, hq, he, h.prot⟩
theorem quads_rest {s : St} {A : ByteArray} (h : s.Quads A false) : s.Rest := ⟨⟨h.sel, h.goes, h.k⟩, h.left, h.sus⟩
theorem quads_first {s : St} {A : ByteArray} {g : Bool} (h : s.Quads A g) : s.first = 0 := by
  unfold St.first
  rw [quads_busy h, h.prot, h.en]
  rfl
/-- Clocks ahead of the address. -/
def headG (g : Bool) : List Nat := if g then [] else wordL [235]
def tailL (k mode : Nat) : List Nat := [0, 0, k / 4096, k / 256 % 16, k / 16 % 16, k % 16, mode / 16, mode % 16]
theorem run_head4 {s : St} {A : ByteArray} {g : Bool} (h : s.Quads A g) (R : List Nat) :
    s.select.run (headG g ++ R) = (((s.picked.setK (startK (opOf 235))).run R).1, List.replicate (headG g).length 15 ++ ((s.picked.setK (startK (opOf 235))).run R).2) := by
  have hb : s.picked.busy = false := by rw [picked_busy]; exact quads_busy h
  cases g with
  | true =>
    have e : s.select = s.picked.setK (startK (opOf 235)) := by
      unfold St.select
      rw [if_pos h.goes]
      show s.picked.take 235 = _
      unfold St.take
      have ht : s.picked.takes 235 = true := by have h9 := quads_takes h; exact h9
      rw [ht, if_pos rfl]
      have hk : s.picked.k = noCmd := h.k
      rw [hk]
      rfl
    rw [e]
    rfl
  | false =>
    have e : s.select = s.picked := by unfold St.select; rw [if_neg (by rw [h.goes]; decide)]; rfl
    have ho : s.picked.opFor 235 = opOf 235 := by
      unfold St.opFor
      have ht : s.picked.takes 235 = true := by have h9 := quads_takes h; exact h9
      rw [ht]; rfl
    show s.select.run (wordL [235] ++ R) = _
    rw [e, wordL_one, run_append, run_byte hb rfl h.k 235 (by decide), ho]
    rfl
def modeK (a : Nat) : Cmd := { noCmd with op := opOf 235, adr := a, part := 2 }
def dumK (a m : Nat) : Cmd := { noCmd with op := opOf 235, adr := a, part := 3, mode := m }
theorem run_addr4 {s : St} (hq : s.busy = false) (hs : s.sel = true) (k : Nat) (hk : k < 4096) :
    (s.setK (startK (opOf 235))).run [0, 0, k / 4096, k / 256 % 16, k / 16 % 16, k % 16] = (s.setK (modeK k), List.replicate 6 15) := by
  have hsp : (startK (opOf 235)).split = (4, 6) := by decide
  rw [show s.setK (startK (opOf 235)) = s.setK ((startK (opOf 235)).mid 0 0) from rfl, feed hq hs (by decide) _ (by rw [hsp]; rfl) (by rw [hsp]; decide), hsp]
  have hv : val 4 0 [0, 0, k / 4096, k / 256 % 16, k / 16 % 16, k % 16] = k := by
    show (((((0 * 2 ^ 4 + 0 % 2 ^ 4) * 2 ^ 4 + 0 % 2 ^ 4) * 2 ^ 4 + k / 4096 % 2 ^ 4) * 2 ^ 4 + k / 256 % 16 % 2 ^ 4) * 2 ^ 4 + k / 16 % 16 % 2 ^ 4) * 2 ^ 4 + k % 16 % 2 ^ 4 = k
    omega
  rw [hv]
  show ((s.setK ((startK (opOf 235)).mid k 6)).complete, _) = _
  unfold St.complete
  rw [if_neg (by show ¬ (startK (opOf 235)).part = 0; decide), if_pos (by show (startK (opOf 235)).part = 1; decide)]
  show (s.setK (Cmd.turn { (startK (opOf 235)).mid k 6 with adr := k % 4096 }), _) = _
  rw [Nat.mod_eq_of_lt hk]
  have h1 : nextPart (opOf 235) (nextPart (opOf 235) 0) = 2 := by decide
  unfold Cmd.turn modeK startK Cmd.mid
  dsimp only
  rw [h1]
  rfl
theorem run_mode4 {s : St} (hq : s.busy = false) (hs : s.sel = true) (k m : Nat) (hm : m < 256) :
    (s.setK (modeK k)).run [m / 16, m % 16] = (s.setK (dumK k m), List.replicate 2 15) := by
  have hsp : (modeK k).split = (4, 2) := by show splitO (opOf 235) 2 = (4, 2); decide
  rw [show s.setK (modeK k) = s.setK ((modeK k).mid 0 0) from rfl, feed hq hs rfl _ (by rw [hsp]; rfl) (by rw [hsp]; decide), hsp]
  have hv : val 4 0 [m / 16, m % 16] = m := by
    show (0 * 2 ^ 4 + m / 16 % 2 ^ 4) * 2 ^ 4 + m % 16 % 2 ^ 4 = m
    omega
  rw [hv]
  show ((s.setK ((modeK k).mid m 2)).complete, _) = _
  unfold St.complete
  rw [if_neg (by show ¬ (2 : Nat) = 0; decide), if_neg (by show ¬ (2 : Nat) = 1; decide), if_pos (by show (2 : Nat) = 2; rfl)]
  have h1 : nextPart (opOf 235) 2 = 3 := by decide
  show (s.setK (Cmd.turn { (modeK k).mid m 2 with mode := m }), _) = _
  unfold Cmd.turn modeK dumK Cmd.mid
  dsimp only
  rw [h1]
  rfl
theorem dum_turn (k m : Nat) : (dumK k m).turn = { noCmd with op := opOf 235, adr := k, part := 4, mode := m } := by
  have h1 : nextPart (opOf 235) 3 = 4 := by decide
  unfold Cmd.turn dumK
  dsimp only
  rw [h1]
  rfl
/-- One read, of one byte. -/
theorem run_goes {s : St} {A : ByteArray} {g : Bool} (h : s.Quads A g) (k m : Nat) (hk : k < 4096) (hm : m < 256) :
    ∃ k' : Cmd, s.select.run (headG g ++ tailL k m ++ List.replicate 6 15) = (s.picked.setK k', List.replicate ((headG g).length + 12) 15 ++ halves (ub A (k % A.size)).toNat) ∧ k'.op = opOf 235 ∧ k'.mode = m := by
  have hb : s.picked.busy = false := by rw [picked_busy]; exact quads_busy h
  have hd : (dumK k m).turn = { noCmd with op := opOf 235, adr := k, part := 4, mode := m } := dum_turn k m
  obtain ⟨k', e1, e2, e3⟩ := run_outs4 (s := s.picked) (k := (dumK k m).turn) hb rfl (by rw [hd]; rfl) (by rw [hd]; show splitO (opOf 235) 4 = (4, 2); decide) (by rw [hd]; rfl) (by rw [hd]; show (opOf 235).byte ≠ 90; decide) 1 [15, 15] rfl
  refine ⟨k', ?_, by rw [e2, hd], by rw [e3, hd]⟩
  have e4 : headG g ++ tailL k m ++ List.replicate 6 15 = headG g ++ ([0, 0, k / 4096, k / 256 % 16, k / 16 % 16, k % 16] ++ ([m / 16, m % 16] ++ ([15, 15, 15, 15] ++ [15, 15]))) := by
    rw [List.append_assoc]; rfl
  rw [e4, run_head4 h, run_append, run_addr4 hb rfl k hk]
  dsimp only
  rw [run_append, run_mode4 hb rfl k m hm]
  dsimp only
  rw [run_append, run_dummy (s := s.picked) (k := dumK k m) hb rfl rfl rfl rfl [15, 15, 15, 15] rfl (show 0 < (opOf 235).dummy by decide)]
  dsimp only
  rw [e1]
  dsimp only
  have e5 : ((List.range 1).map fun i => (s.picked.setK ((dumK k m).turn.after i)).dataByte).flatMap halves = halves (ub A (k % A.size)).toNat := by
    show halves (s.picked.setK ((dumK k m).turn.after 0)).dataByte ++ [] = _
    rw [List.append_nil, hd]
    show halves (ub s.A ((k + (0 + 0)) % s.A.size)).toNat = _
    rw [h.A]; rfl
  rw [e5]
  show (_, List.replicate _ 15 ++ (List.replicate 6 15 ++ (List.replicate 2 15 ++ (List.replicate 4 15 ++ _)))) = _
  rw [← List.append_assoc, ← List.append_assoc, ← List.append_assoc, List.replicate_append_replicate, List.replicate_append_replicate, List.replicate_append_replicate]
theorem goes_on {s : St} {A : ByteArray} {g : Bool} (h : s.Quads A g) (k m : Nat) (hk : k < 4096) (hm : m < 256) :
    (s.say (headG g ++ tailL k m ++ List.replicate 6 15)).Quads A (decide (m = 160)) ∧ s.hears (headG g ++ tailL k m ++ List.replicate 6 15) = List.replicate ((headG g).length + 12) 15 ++ halves (ub A (k % A.size)).toNat := by
  obtain ⟨k', e1, e2, e3⟩ := run_goes h k m hk hm
  unfold St.say St.hears
  rw [e1]
  refine ⟨?_, rfl⟩
  have he : ∀ t : St, t.obey k' = t := fun t => obey_other t k' (by rw [e2]; decide)
  have hE : (s.picked.setK k').ended.Quads A (decide (m = 160)) := by
    refine ⟨rfl, ?_, rfl, h.left, h.sus, h.A, h.quad, h.en, h.prot⟩
    show decide (k'.mode = 160) = _
    rw [e3]
  show (s.picked.setK k').deselect.Quads A _
  unfold St.deselect
  rw [show (s.picked.setK k').k = k' from rfl, he]
  split <;> exact hE
/-- The status, asked for. -/
theorem hears_status {s : St} (h : s.Rest) : s.hears (wordL [5] ++ List.replicate 8 15) = List.replicate 8 15 ++ outBs [s.first] := by
  unfold St.hears
  rw [select_idle h.idle, wordL_one, run_append, run_byte (s := s.picked) (rest_picked h) rfl (picked_k h.idle) 5 (by decide), picked_opFor, rest_opFor h 5 (by decide)]
  dsimp only
  obtain ⟨s', k', h1, _⟩ := run_outs (s := s.picked) (k := startK (opOf 5)) (rest_picked h) rfl rfl (split_one rfl rfl) rfl 1 (List.replicate 8 15) (by simp)
  rw [h1]
  rfl
theorem hid_is {α : Type} (a : α) : ∃ t, Hid (a = t) := ⟨a, rfl⟩
theorem head_false : (headG false).length = 8 := rfl
theorem head_is : headG false = wordL [235] := rfl
theorem head_row {B : Nat} {w : World} {a : Option Addr} {c : Nat} (h : Hid (Owns B w (.slice a 8 c) (nums (wordL [235])))) : w.ownsRow B 3 1 (.slice a 8 c) 8 ((nums (headG false)).map (Value.int .i64)) := by
  have h1 := h.out
  unfold Owns at h1
  rw [nums_length, wordL_length] at h1
  rw [head_is]
  exact h1
theorem lenh_true : (headG true).length = 0 := rfl
theorem lenh_false : (headG false).length = 8 := by rw [head_is, wordL_length]; rfl
theorem len_true : (headG true).length + 12 = 12 := rfl
theorem len_false : (headG false).length + 12 = 20 := by rw [lenh_false]
theorem len_head_true (k m : Nat) : (headG true ++ tailL k m).length = 8 := rfl
theorem len_head_false (k m : Nat) : (headG false ++ tailL k m).length = 16 := by rw [List.length_append, lenh_false]; rfl
theorem len_all_true (k m : Nat) : (headG true ++ tailL k m ++ List.replicate 6 15).length = 14 := rfl
theorem len_all_false (k m : Nat) : (headG false ++ tailL k m ++ List.replicate 6 15).length = 22 := by rw [List.length_append, len_head_false]; rfl
theorem nib_or (y : Nat) (hy : y < 256) : bits .or .i64 (((y / 16 % 16 : Nat) : Int) * 16) ((y % 16 : Nat) : Int) = (y : Int) := by
  have h := or_add ((y / 16 % 16 : Nat) : Int) ((y % 16 : Nat) : Int) 4 (by omega) (by omega) (by omega) (by omega)
  rw [show (2 : Int) ^ 4 = 16 from rfl] at h
  rw [h]
  omega
theorem and_15n (z : Nat) : bits .and .i64 (z : Int) 15 = ((z % 16 : Nat) : Int) := by
  have h := and_mask (z : Int) 4 (by decide)
  rw [show (2 : Int) ^ 4 = 16 from rfl, show (16 : Int) - 1 = 15 from rfl] at h
  rw [h]
  omega
theorem told_hi (n y : Nat) : (List.replicate n 15 ++ halves y).getD n 0 = y / 16 % 16 ∧ (List.replicate n 15 ++ halves y).getD (n + 1) 0 = y % 16 := by
  constructor
  · rw [List.getD_eq_getElem?_getD, List.getElem?_append_right (by simp), List.length_replicate, Nat.sub_self]; rfl
  · rw [List.getD_eq_getElem?_getD, List.getElem?_append_right (by simp), List.length_replicate, Nat.add_sub_cancel_left]; rfl
theorem tail_lt (k m : Nat) (hk : k < 4096) (hm : m < 256) : ∀ x ∈ tailL k m, x < 16 := by
  intro x hx
  unfold tailL at hx
  simp only [List.mem_cons, List.not_mem_nil, or_false] at hx
  omega
theorem head_lt (g : Bool) : ∀ x ∈ headG g, x < 16 := by
  cases g
  · exact wordL_lt _
  · intro x hx; cases hx
/-- The cells of the two clocks in which a byte is told. -/
theorem told_cells {B : Nat} {w : World} {g n c N y : Nat} (h : Hid (Owns B w (.slice (some ⟨g, 0, none⟩) N c) (nums (List.replicate n 15 ++ halves y)))) :
    w.cell? ⟨g, n, none⟩ = some (.int .i64 ((y / 16 % 16 : Nat) : Int)) ∧ w.cell? ⟨g, n + 1, none⟩ = some (.int .i64 ((y % 16 : Nat) : Int)) := by
  have hl : (List.replicate n 15 ++ halves y).length = n + 2 := by rw [List.length_append, List.length_replicate]; rfl
  have h1 := owns_cell h n (by omega)
  have h2 := owns_cell h (n + 1) (by omega)
  rw [(told_hi n y).1] at h1
  rw [(told_hi n y).2] at h2
  exact ⟨h1, h2⟩
theorem status_row {s : St} {A : ByteArray} (h : s.Quads A false) : s.hears (wordL [5] ++ List.replicate 8 15) = List.replicate 8 15 ++ outBs ((List.range 1).map fun _ => 0) := by
  rw [hears_status (quads_rest h), quads_first h]; rfl
end Go.Proofs.Ythhchfldgkgfpaa
