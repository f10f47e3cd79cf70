/-
  The commands, each whole: what comes of it, and what the chip says meanwhile. Plain facts on the machine. Conditions: those of each statement.
-/
import Derived.Test.YtjhjghakfedeeaaGreatScript
import Derived.Test.YtjhjghakfedeeaaGreatFresh
namespace Go.Proofs.YtjhjghakfedeeaaGreat
open Go.RowKit Plain
set_option linter.unusedVariables false

theorem laneTo_congr (L M : List Nat) (i n : Nat) (h : ∀ j, j < n → L.getD (i + j) 0 = M.getD j 0) : laneTo L i n = laneTo M 0 n := by
  induction n with
  | zero => rfl
  | succ n ih =>
    show laneTo L i n * 2 + L.getD (i + n) 0 / 2 % 2 = laneTo M 0 n * 2 + M.getD (0 + n) 0 / 2 % 2
    rw [ih (fun j hj => h j (by omega)), h n (by omega), Nat.zero_add]
theorem lane_out : ∀ b : Fin 256, laneTo (outB b.val) 0 8 = b.val := by decide +kernel
theorem lane_first (b : Nat) (hb : b < 256) (P R : List Nat) : laneTo (P ++ (outB b ++ R)) P.length 8 = b := by
  rw [laneTo_congr _ (outB b) P.length 8 (fun j hj => ?_)]
  · exact lane_out ⟨b, hb⟩
  · rw [List.getD_eq_getElem?_getD, List.getElem?_append_right (by omega), show P.length + j - P.length = j by omega, List.getElem?_append_left (by rw [outB_length]; exact hj), List.getD_eq_getElem?_getD]
theorem bytes_back (P L : List Nat) (hL : ∀ x ∈ L, x < 256) : bytesTo (P ++ outBs L) P.length L.length = L := by
  induction L generalizing P with
  | nil => rfl
  | cons x r ih =>
    unfold bytesTo
    rw [List.length_cons, List.range_succ_eq_map, List.map_cons, List.map_map]
    show laneTo (P ++ (outB x ++ outBs r)) (P.length + 8 * 0) 8 :: _ = _
    rw [Nat.mul_zero, Nat.add_zero, lane_first x (hL x (by simp)) P _]
    congr 1
    have h2 := ih (P ++ outB x) (fun y hy => hL y (by simp [hy]))
    rw [List.append_assoc, List.length_append, outB_length] at h2
    refine Eq.trans ?_ h2
    unfold bytesTo
    refine List.map_congr_left fun i _ => ?_
    show laneTo (P ++ (outB x ++ outBs r)) (P.length + 8 * (i + 1)) 8 = laneTo (P ++ (outB x ++ outBs r)) (P.length + 8 + 8 * i) 8
    rw [show P.length + 8 * (i + 1) = P.length + 8 + 8 * i by omega]
theorem outB_lt (b x : Nat) (h : x ∈ outB b) : x < 16 := by
  unfold outB outs at h
  obtain ⟨i, _, rfl⟩ := List.mem_map.1 h
  have : tellBits b (0 + 1 + i) 1 < 2 := tell_bits_lt _ _
  show (if (1 : Nat) = 1 then 13 + 2 * _ else _) < 16
  rw [if_pos rfl]; omega
theorem outBs_lt (L : List Nat) (x : Nat) (h : x ∈ outBs L) : x < 16 := by
  obtain ⟨b, _, h⟩ := List.mem_flatMap.1 h
  exact outB_lt b x h
theorem wordL_one (b : Nat) : wordL [b] = bitsOf b := by simp [wordL]

/-- A chip at rest: idle, nothing under way. -/
structure St.Rest (s : St) : Prop where
  idle : s.Idle
  left : s.left = 0
  sus : s.sus = false
theorem rest_busy {s : St} (h : s.Rest) : s.busy = false := by unfold St.busy; rw [h.left]; rfl
theorem rest_picked {s : St} (h : s.Rest) : s.picked.busy = false := by rw [picked_busy]; exact rest_busy h
theorem rest_takes {s : St} (h : s.Rest) (b : Nat) (hb : b ≠ 107 ∧ b ≠ 235) : s.takes b = true := by
  unfold St.takes
  rw [rest_busy h, h.left]
  repeat' split
  all_goals first | rfl | omega
theorem rest_opFor {s : St} (h : s.Rest) (b : Nat) (hb : b ≠ 107 ∧ b ≠ 235) : s.opFor b = opOf b := by unfold St.opFor; rw [rest_takes h b hb]; rfl
theorem rest_new (a : ByteArray) : (newSt a).Rest := ⟨⟨rfl, rfl, rfl⟩, rfl, rfl⟩

/-- A command that is its byte alone. -/
theorem say_byte {s : St} (h : s.Rest) (b : Nat) (hb : b < 256) (hn : b ≠ 107 ∧ b ≠ 235) : s.say (wordL [b]) = if (startK (opOf b)).whole then s.obey (startK (opOf b)) else s := by
  unfold St.say
  rw [select_idle h.idle, wordL_one, run_byte (s := s.picked) (rest_picked h) rfl (picked_k h.idle) b hb, picked_opFor, rest_opFor h b hn]
  exact deselect_idle h.idle _ (by show (0 : Nat) ≠ 160; decide)
theorem say_enable {s : St} (h : s.Rest) : s.say (wordL [6]) = { s with en := true } := by
  rw [say_byte h 6 (by decide) (by decide), if_pos (by decide)]; rfl
theorem say_disable {s : St} (h : s.Rest) : s.say (wordL [4]) = { s with en := false } := by
  rw [say_byte h 4 (by decide) (by decide), if_pos (by decide)]; rfl
theorem rest_en {s : St} (h : s.Rest) (e : Bool) : ({ s with en := e } : St).Rest := ⟨⟨h.idle.sel, h.idle.goes, h.idle.k⟩, h.left, h.sus⟩

/-- The command behind its address. -/
def addrK (o : Op) (a : Nat) : Cmd := { noCmd with op := o, part := nextPart o 1, adr := a }
theorem run_head {s : St} (h : s.Rest) (b : Nat) (hb : b < 256) (hn : b ≠ 107 ∧ b ≠ 235) (ha : (opOf b).addr = 1) (x y z : Nat) (hx : x < 256) (hy : y < 256) (hz : z < 256) (R : List Nat) :
    s.picked.run (wordL [b, x, y, z] ++ R) = ((s.picked.setK (addrK (opOf b) ((x * 65536 + y * 256 + z) % 4096))).run R |>.1, List.replicate 32 15 ++ ((s.picked.setK (addrK (opOf b) ((x * 65536 + y * 256 + z) % 4096))).run R).2) := by
  have hp : nextPart (opOf b) 0 = 1 := by
    unfold nextPart
    rw [if_pos ⟨by decide, by show 0 < (over (opOf b).addr 24).2; rw [ha]; decide⟩]
  have e1 : wordL [b, x, y, z] = bitsOf b ++ wordL [x, y, z] := rfl
  rw [e1, List.append_assoc, run_append, run_byte (s := s.picked) (rest_picked h) rfl (picked_k h.idle) b hb, picked_opFor, rest_opFor h b hn]
  show (((s.picked.setK (startK (opOf b))).run (wordL [x, y, z] ++ R)).1, List.replicate 8 15 ++ ((s.picked.setK (startK (opOf b))).run (wordL [x, y, z] ++ R)).2) = _
  rw [run_append, run_addr (s := s.picked) (rest_picked h) rfl (show (startK (opOf b)).part = 1 from hp) ha rfl rfl x y z hx hy hz]
  have e2 : Cmd.turn { startK (opOf b) with adr := (x * 65536 + y * 256 + z) % 4096 } = addrK (opOf b) ((x * 65536 + y * 256 + z) % 4096) := by
    unfold Cmd.turn addrK startK
    show ({ noCmd with op := opOf b, adr := _, part := nextPart (opOf b) (nextPart (opOf b) 0) } : Cmd) = _
    rw [hp]
  rw [e2]
  show (_, List.replicate 8 15 ++ (List.replicate 24 15 ++ _)) = _
  rw [← List.append_assoc, List.replicate_append_replicate]
theorem adr_word (k : Nat) (hk : k < 4096) : (0 * 65536 + k / 256 * 256 + k % 256) % 4096 = k := by omega

/-- Programs. -/
theorem say_program {s : St} (h : s.Rest) (a : Nat) (ha : a < 4096) (D : List Nat) (hD : ∀ x ∈ D, x < 256) :
    s.say (wordL (2 :: 0 :: a / 256 :: a % 256 :: D)) = s.obey ((addrK (opOf 2) a).gots D) := by
  unfold St.say
  have e1 : wordL (2 :: 0 :: a / 256 :: a % 256 :: D) = wordL [2, 0, a / 256, a % 256] ++ wordL D := by simp [wordL]
  rw [select_idle h.idle, e1, run_head h 2 (by decide) (by decide) rfl 0 (a / 256) (a % 256) (by decide) (by omega) (by omega), adr_word a ha]
  rw [run_ins (s := s.picked) (k := addrK (opOf 2) a) (rest_picked h) rfl rfl rfl rfl rfl rfl D hD]
  have hg : ∀ (L : List Nat) (k : Cmd), (k.gots L).op = k.op ∧ (k.gots L).part = k.part ∧ (k.gots L).mode = k.mode ∧ (k.gots L).adr = k.adr ∧ (k.clocks = 0 → (k.gots L).clocks = 0) := by
    intro L
    induction L with
    | nil => intro k; exact ⟨rfl, rfl, rfl, rfl, id⟩
    | cons x r ih => intro k; obtain ⟨i1, i2, i3, i4, i5⟩ := ih (k.got x); exact ⟨i1, i2, i3, i4, fun _ => i5 rfl⟩
  obtain ⟨g1, g2, g3, g4, g5⟩ := hg D (addrK (opOf 2) a)
  show (s.picked.setK ((addrK (opOf 2) a).gots D)).deselect = _
  rw [deselect_idle h.idle _ (by rw [g3]; show (0 : Nat) ≠ 160; decide), if_pos]
  unfold Cmd.whole
  rw [g2, g5 rfl]
  rfl
theorem gots_keeps (L : List Nat) (k : Cmd) : (k.gots L).op = k.op ∧ (k.gots L).adr = k.adr ∧ (k.gots L).count = k.count + L.length := by
  induction L generalizing k with
  | nil => exact ⟨rfl, rfl, rfl⟩
  | cons x r ih => obtain ⟨i1, i2, i3⟩ := ih (k.got x); exact ⟨i1, i2, by rw [show k.gots (x :: r) = (k.got x).gots r from rfl, i3]; show k.count + 1 + r.length = _; simp; omega⟩
theorem gots_data (L : List Nat) (k : Cmd) (hL : k.count + L.length ≤ 32) (j : Nat) : (k.gots L).data j = if k.count ≤ j ∧ j < k.count + L.length then UInt8.ofNat (L.getD (j - k.count) 0) else k.data j := by
  induction L generalizing k with
  | nil => rw [if_neg (by simp only [List.length_nil]; omega)]; rfl
  | cons x r ih =>
    have hl : k.count + 1 + r.length ≤ 32 := by simp at hL; omega
    rw [show k.gots (x :: r) = (k.got x).gots r from rfl, ih (k.got x) hl]
    show (if k.count + 1 ≤ j ∧ j < k.count + 1 + r.length then UInt8.ofNat (r.getD (j - (k.count + 1)) 0) else if j = k.count % 32 then UInt8.ofNat x else k.data j) = _
    have hm : k.count % 32 = k.count := Nat.mod_eq_of_lt (by omega)
    rw [hm]
    by_cases e : j = k.count
    · subst e
      rw [if_neg (by omega), if_pos rfl, if_pos (by simp), Nat.sub_self]
      rfl
    · rw [if_neg e]
      by_cases h2 : k.count + 1 ≤ j ∧ j < k.count + 1 + r.length
      · rw [if_pos h2, if_pos (by simp; omega), show j - k.count = (j - (k.count + 1)) + 1 by omega]
        rfl
      · rw [if_neg h2, if_neg (by simp; omega)]
theorem obey_program {s : St} (k : Cmd) (hk : k.op = opOf 2) : s.obey k = if 0 < k.count then s.begin false (k.adr - k.adr % 32) k.page else s := by
  unfold St.obey
  rw [hk, if_neg (by decide), if_neg (by decide), if_neg (by decide), if_neg (by decide), if_neg (by decide), if_pos (by decide)]
/-- Erases. -/
theorem say_erase {s : St} (h : s.Rest) (a : Nat) (ha : a < 4096) : s.say (wordL [32, 0, a / 256, a % 256]) = s.begin true a ⟨#[]⟩ := by
  unfold St.say
  have e1 : wordL [32, 0, a / 256, a % 256] = wordL [32, 0, a / 256, a % 256] ++ [] := (List.append_nil _).symm
  rw [select_idle h.idle, e1, run_head h 32 (by decide) (by decide) rfl 0 (a / 256) (a % 256) (by decide) (by omega) (by omega), adr_word a ha]
  show (s.picked.setK (addrK (opOf 32) a)).deselect = _
  rw [deselect_idle h.idle _ (by show (0 : Nat) ≠ 160; decide), if_pos (show (addrK (opOf 32) a).whole = true from rfl)]
  rfl
/-- The status is put. -/
theorem say_put {s : St} (h : s.Rest) (p q : Nat) (hp : p < 256) (hq : q < 256) : s.say (wordL [1, p, q]) = s.putStatus (((startK (opOf 1)).got p).got q) := by
  have e1 : wordL [1, p, q] = bitsOf 1 ++ wordL [p, q] := rfl
  have h1 := run_byte (s := s.picked) (rest_picked h) rfl (picked_k h.idle) 1 (by decide)
  rw [picked_opFor, rest_opFor h 1 (by decide)] at h1
  have h2 := run_ins (s := s.picked) (k := startK (opOf 1)) (rest_picked h) rfl rfl rfl rfl rfl rfl [p, q] (by intro x hx; simp at hx; omega)
  generalize hK : (startK (opOf 1)).gots [p, q] = K at h2
  have hK' : ((startK (opOf 1)).got p).got q = K := hK
  rw [hK']
  have hw : K.whole = true := by rw [← hK']; rfl
  have hm : K.mode = 0 := by rw [← hK']; rfl
  have hb : K.op.byte = 1 := by rw [← hK']; rfl
  unfold St.say
  rw [select_idle h.idle, e1, run_append, h1]
  dsimp only
  rw [h2]
  dsimp only
  rw [deselect_idle h.idle K (by rw [hm]; decide), if_pos hw]
  unfold St.obey
  rw [if_neg (by omega), if_neg (by omega), if_neg (by omega), if_neg (by omega), if_pos hb]
end Go.Proofs.YtjhjghakfedeeaaGreat
