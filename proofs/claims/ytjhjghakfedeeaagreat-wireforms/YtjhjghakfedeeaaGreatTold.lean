/-
  What the laws are told of a chip: bytes that come back, numbers of the laws' own. Plain facts. Conditions: those of each statement.
-/
import Derived.Test.YtjhjghakfedeeaaGreatKnown
import Derived.Test.YtjhjghakfedeeaaGreatParts
import Derived.Test.YtjhjghakfedeeaaGreatSteps
namespace Go.Proofs.YtjhjghakfedeeaaGreat
open Go.RowKit Plain
set_option linter.unusedVariables false

theorem getD_range (m i : Nat) (f : Nat → Nat) (hi : i < m) : ((List.range m).map f).getD i 0 = f i := by
  rw [List.getD_eq_getElem?_getD, List.getElem?_map, List.getElem?_range hi]; rfl
/-- What comes behind f clocks of nothing. -/
theorem told_back (f m : Nat) (g : Nat → Nat) (hg : ∀ i, i < m → g i < 256) :
    bytesTo (List.replicate f 15 ++ outBs ((List.range m).map g)) f m = (List.range m).map g := by
  have h := bytes_back (List.replicate f 15) ((List.range m).map g) (fun x hx => by
    obtain ⟨i, hi, rfl⟩ := List.mem_map.1 hx
    exact hg i (List.mem_range.1 hi))
  rw [List.length_replicate, List.length_map, List.length_range] at h
  exact h
theorem told_length (f m : Nat) (g : Nat → Nat) : (List.replicate f 15 ++ outBs ((List.range m).map g)).length = f + 8 * m := by
  rw [List.length_append, List.length_replicate, outBs_length, List.length_map, List.length_range]
theorem told_lt (f m : Nat) (g : Nat → Nat) : ∀ x ∈ List.replicate f 15 ++ outBs ((List.range m).map g), x < 16 := fun x hx => by
  rcases List.mem_append.1 hx with h | h
  · rw [(List.mem_replicate.1 h).2]; decide
  · exact outBs_lt _ x h
theorem wrap_ub (t : ByteArray) (i : Nat) : wrap64 ((ub t i).toNat : Int) = ((ub t i).toNat : Int) := IntWalk.wrap64_in _ (by have := (ub t i).toNat_lt; omega)
theorem tub_lt (t : ByteArray) (i : Nat) : (ub t i).toNat < 256 := (ub t i).toNat_lt
/-- A mask's number. -/
theorem mask_nat (x : Int) (k : Nat) (hk : k ≤ 62) : ∃ K : Nat, K < 2 ^ k ∧ bits .and .i64 x (2 ^ k - 1) = (K : Int) ∧ (K : Int) = x % 2 ^ k := by
  rw [and_mask x k hk]
  have hpI : ((2 ^ k : Nat) : Int) = 2 ^ k := by norm_cast
  have hp0 : 0 < 2 ^ k := Nat.two_pow_pos k
  have h0 : 0 ≤ x % (2 ^ k : Int) := by rw [← hpI]; exact Int.emod_nonneg _ (by omega)
  have h1 : x % (2 ^ k : Int) < ((2 ^ k : Nat) : Int) := by rw [← hpI]; exact Int.emod_lt_of_pos _ (by omega)
  refine ⟨(x % (2 ^ k : Int)).toNat, by omega, by omega, by omega⟩
theorem mask_4095 (x : Int) : ∃ K : Nat, K < 4096 ∧ bits .and .i64 x 4095 = (K : Int) ∧ (K : Int) = x % 4096 := mask_nat x 12 (by decide)
theorem mask_255 (x : Int) : ∃ K : Nat, K < 256 ∧ bits .and .i64 x 255 = (K : Int) ∧ (K : Int) = x % 256 := mask_nat x 8 (by decide)
theorem mask_127 (x : Int) : ∃ K : Nat, K < 128 ∧ bits .and .i64 x 127 = (K : Int) ∧ (K : Int) = x % 128 := mask_nat x 7 (by decide)
theorem mask_63 (x : Int) : ∃ K : Nat, K < 64 ∧ bits .and .i64 x 63 = (K : Int) ∧ (K : Int) = x % 64 := mask_nat x 6 (by decide)
theorem mask_31 (x : Int) : ∃ K : Nat, K < 32 ∧ bits .and .i64 x 31 = (K : Int) ∧ (K : Int) = x % 32 := mask_nat x 5 (by decide)
theorem mask_15 (x : Int) : ∃ K : Nat, K < 16 ∧ bits .and .i64 x 15 = (K : Int) ∧ (K : Int) = x % 16 := mask_nat x 4 (by decide)
theorem mask_7 (x : Int) : ∃ K : Nat, K < 8 ∧ bits .and .i64 x 7 = (K : Int) ∧ (K : Int) = x % 8 := mask_nat x 3 (by decide)
theorem mask_3 (x : Int) : ∃ K : Nat, K < 4 ∧ bits .and .i64 x 3 = (K : Int) ∧ (K : Int) = x % 4 := mask_nat x 2 (by decide)
theorem owns_cell {B : Nat} {w : World} {g n c : Nat} {L : List Nat} (h : Hid (Owns B w (.slice (some ⟨g, 0, none⟩) n c) (nums L))) (i : Nat) (hi : i < L.length) : w.cell? ⟨g, i, none⟩ = some (.int .i64 ((L.getD i 0 : Nat) : Int)) := by
  obtain ⟨a, cap, e, hr⟩ := h.out.reads
  obtain ⟨g', o', e2, hcell⟩ := hr (by rw [nums_length]; omega)
  simp only [Value.slice.injEq] at e
  rw [← e.1] at e2
  simp only [Option.some.injEq, Addr.mk.injEq] at e2
  obtain ⟨rfl, rfl, _⟩ := e2
  have := hcell i (by rw [nums_length]; exact hi)
  rw [Nat.zero_add, nums_getD] at this
  exact this
theorem cells_run (n b : Nat) (u w : World) (s : St) (A : ByteArray) (h : Hid (Run n b u w s)) (hA : s.A = A) :
    Calls Tryz.prog 27 #[.pointer (some ⟨b, 0, none⟩)] w fun e w' => e = .returned (.string A) ∧ w = w' := by
  subst hA; exact cells_lies n b s w h.out.lies
theorem status_run (n b : Nat) (u w : World) (s : St) (f g : Nat) (h : Hid (Run n b u w s)) (hf : s.first = f) (hg : s.second = g) :
    Calls Tryz.prog 65 #[.pointer (some ⟨b, 0, none⟩)] w fun e w' => e = .returned (.tuple #[.int .i64 (f : Int), .int .i64 (g : Int)]) ∧ Hid (Run n b u w' s) ∧ Below w.heap.size w w' := by
  subst hf hg
  exact (status_lies n b s w h.out.lies).mono fun e w' ⟨h1, h2⟩ => ⟨h1, rn_below h h2, h2⟩
/-- A clock of a chip that is not selected. -/
theorem clock_run (n b : Nat) (u w : World) (s : St) (x : Nat) (h : Hid (Run n b u w s)) (hl : s.sel = false) (hn : n < 1000000) (hx : x < 16) :
    Calls Tryz.prog 58 #[.pointer (some ⟨b, 0, none⟩), .int .i64 (x : Int)] w fun e w' => e = .returned (.tuple #[.int .i64 15, .int .i64 0]) ∧ Hid (Run n b u w' s.countDown) ∧ Only b w w' := by
  have h0 := clock_lies n b s x w h.out.lies (by omega) hx
  rw [clock_off hl x] at h0
  exact h0.mono fun e w' ⟨h1, h2, h3⟩ => ⟨h1, ⟨⟨h2.1, countDown_ok h.out.lies.2⟩, h.out.only.trans h3⟩, h3⟩
theorem progA_one (A : ByteArray) (k x j : Nat) (hj : j < A.size) : ub (progA A k [x]) j = if j = k then ub A j &&& UInt8.ofNat x else ub A j := by
  rw [progA_ub A k [x] (show 1 ≤ 32 by decide) j hj]
  show (if j / 32 = k / 32 ∧ (j + 32 - k % 32) % 32 < 1 then ub A j &&& UInt8.ofNat ([x].getD ((j + 32 - k % 32) % 32) 0) else ub A j) = _
  by_cases h : j = k
  · subst h
    rw [if_pos (by omega), if_pos rfl, show (j + 32 - j % 32) % 32 = 0 by omega]
    rfl
  · rw [if_neg (by omega), if_neg h]
/-- A byte programmed so many times. -/
def twiceA (A : ByteArray) (k : Nat) (x : Nat → Nat) : Nat → ByteArray
  | 0 => A
  | j + 1 => progA (twiceA A k x j) k [x j]
theorem twiceA_size (A : ByteArray) (k : Nat) (x : Nat → Nat) (j : Nat) : (twiceA A k x j).size = A.size := by
  induction j with
  | zero => rfl
  | succ j ih => exact (progA_size _ _ _).trans ih
theorem twiceA_two (A : ByteArray) (k : Nat) (x : Nat → Nat) (j : Nat) (hj : j < A.size) : ub (twiceA A k x 2) j = if j = k then (ub A j &&& UInt8.ofNat (x 0)) &&& UInt8.ofNat (x 1) else ub A j := by
  have h1 : (progA A k [x 0]).size = A.size := progA_size _ _ _
  show ub (progA (progA A k [x 0]) k [x 1]) j = _
  rw [progA_one _ _ _ _ (by rw [h1]; exact hj), progA_one _ _ _ _ hj]
  by_cases h : j = k
  · rw [if_pos h, if_pos h, if_pos h]
  · rw [if_neg h, if_neg h, if_neg h]
theorem and_byte (x : Nat) (hx : x < 256) (b : Int) (y : Nat) (hy : (y : Int) = b % 256) : bits .and .i64 (x : Int) b = ((x &&& y : Nat) : Int) := by
  show IntKind.i64.wrap ((BitVec.ofInt 64 (x : Int) &&& BitVec.ofInt 64 b).toNat : Int) = _
  rw [BitVec.toNat_and]
  have e1 : (BitVec.ofInt 64 (x : Int)).toNat = x := by have h := ofInt_64 (x : Int); omega
  have e2 : (BitVec.ofInt 64 b).toNat % 256 = y := by have h := ofInt_64 b; omega
  rw [e1]
  generalize (BitVec.ofInt 64 b).toNat = z at e2
  have h1 : x &&& z ≤ x := Nat.and_le_left
  have h2 : (x &&& z) % 2 ^ 8 = (x % 2 ^ 8) &&& (z % 2 ^ 8) := Nat.and_mod_two_pow
  have h3 : x % 2 ^ 8 = x := Nat.mod_eq_of_lt hx
  have h4 : z % 2 ^ 8 = y := e2
  have h5 : (x &&& z) % 2 ^ 8 = x &&& z := Nat.mod_eq_of_lt (Nat.lt_of_le_of_lt h1 hx)
  rw [h5, h3, h4] at h2
  rw [h2, IntWalk.i64_in _ (by omega)]
theorem byte_and (x y : Nat) (hx : x < 256) (hy : y < 256) : (UInt8.ofNat x &&& UInt8.ofNat y).toNat = x &&& y := by
  rw [UInt8.toNat_and, UInt8.toNat_ofNat', UInt8.toNat_ofNat', Nat.mod_eq_of_lt hx, Nat.mod_eq_of_lt hy]
theorem wide_ub (s : ByteArray) (j : Nat) (hj : j < 4096) : ub (wide s) j = if s.size = 0 then 255 else ub s (j % s.size) := ub_tab _ _ _ hj
theorem wide_size (s : ByteArray) : (wide s).size = 4096 := tab_size _ _

/-- What a chip is like, told. -/
theorem hears_sfdp {s : St} (h : s.Rest) (a : Nat) (ha : a < 4096) (m : Nat) :
    s.hears ((wordL [90, 0, a / 256, a % 256] ++ List.replicate 8 15) ++ List.replicate (8 * m) 15) = List.replicate 40 15 ++ outBs ((List.range m).map fun i => (ub sfdpT ((a + i) % 32)).toNat) := by
  unfold St.hears
  rw [select_idle h.idle, List.append_assoc, run_head h 90 (by decide) (by decide) rfl 0 (a / 256) (a % 256) (by decide) (by omega) (by omega), adr_word a ha, run_append,
    run_dummy (s := s.picked) (k := addrK (opOf 90) a) (rest_picked h) rfl rfl rfl rfl (List.replicate 8 15) (by simp [addrK, opOf]) (show 0 < 8 by decide)]
  dsimp only
  have hp : (addrK (opOf 90) a).turn.part = 4 := by
    have h1 : nextPart (opOf 90) 1 = 3 := by decide
    have h2 : nextPart (opOf 90) 3 = 4 := by decide
    unfold Cmd.turn addrK
    dsimp only
    rw [h1, h2]
  have hsp : (addrK (opOf 90) a).turn.speaks = true := by unfold Cmd.speaks; rw [hp]; rfl
  obtain ⟨s', k', h1, _⟩ := run_outs (s := s.picked) (k := (addrK (opOf 90) a).turn) (rest_picked h) rfl hsp (split_one hp rfl) rfl m (List.replicate (8 * m) 15) (by simp)
  rw [h1]
  dsimp only
  rw [← List.append_assoc, show (addrK (opOf 90) a).op.dummy = 8 from rfl, List.replicate_append_replicate]
  congr 2
  refine List.map_congr_left fun i _ => ?_
  show (ub sfdpT ((a + (0 + i)) % 32)).toNat = _
  rw [Nat.zero_add]
end Go.Proofs.YtjhjghakfedeeaaGreat
