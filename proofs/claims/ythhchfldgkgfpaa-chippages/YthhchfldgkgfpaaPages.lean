/-
  A page that is programmed, with a duration of its own: plain facts on the machine, and the row that the law makes by itself. Conditions: those of each statement.
-/
import Derived.Test.YthhchfldgkgfpaaLost
namespace Go.Proofs.Ythhchfldgkgfpaa
open Go.RowKit Plain
set_option linter.unusedVariables false

/-- What the law wants, behind m of the bytes. -/
def wantU (A : ByteArray) (k : Nat) (D : List Nat) (m : Nat) (j : Nat) : UInt8 :=
  if j / 32 = k / 32 ∧ (j + 32 - k % 32) % 32 < m then ub A j &&& UInt8.ofNat (D.getD ((j + 32 - k % 32) % 32) 0) else ub A j
theorem wantU_zero (A : ByteArray) (k : Nat) (D : List Nat) (j : Nat) : wantU A k D 0 j = ub A j := by unfold wantU; rw [if_neg (by omega)]
theorem wantU_here (A : ByteArray) (k : Nat) (D : List Nat) (m : Nat) (hm : m < 32) : wantU A k D m (k / 32 * 32 + (k + m) % 32) = ub A (k / 32 * 32 + (k + m) % 32) := by
  unfold wantU; rw [if_neg (by omega)]
theorem wantU_succ (A : ByteArray) (k : Nat) (D : List Nat) (m : Nat) (hm : m < 32) (j : Nat) :
    (if j = k / 32 * 32 + (k + m) % 32 then ub A (k / 32 * 32 + (k + m) % 32) &&& UInt8.ofNat (D.getD m 0) else wantU A k D m j) = wantU A k D (m + 1) j := by
  unfold wantU
  by_cases h : j = k / 32 * 32 + (k + m) % 32
  · have e : (j + 32 - k % 32) % 32 = m := by omega
    rw [if_pos h, if_pos (by omega), e, ← h]
  · rw [if_neg h]
    by_cases h2 : j / 32 = k / 32 ∧ (j + 32 - k % 32) % 32 < m
    · rw [if_pos h2, if_pos (by omega)]
    · rw [if_neg h2, if_neg (by omega)]
theorem want_prog (A : ByteArray) (k : Nat) (D : List Nat) (hD : D.length ≤ 32) (hA : A.size = 4096) : tab 4096 (wantU A k D D.length) = progA A k D := by
  apply ext_ub (by rw [tab_size, progA_size, hA])
  intro j hj
  rw [tab_size] at hj
  rw [ub_tab _ _ _ hj, progA_ub A k D hD j (by omega)]
  rfl
theorem dur_of (x : Int) : ∃ d0 d : Nat, 1 ≤ d ∧ d ≤ 100 ∧ wrap64 ((IntKind.u64.wrap x).tmod 100) = (d0 : Int) ∧ wrap64 (1 + (d0 : Int)) = (d : Int) := by
  obtain ⟨d0, h1, h2⟩ := umod x 100 (by decide) (by decide)
  refine ⟨d0, 1 + d0, Nat.le_add_right _ _, by omega, h2, ?_⟩
  clear h2
  rw [IntWalk.wrap64_in _ (by omega)]
  omega
theorem and_walk (x : UInt8) (y : Nat) (hy : y < 256) : bits .and .u8 (x.toNat : Int) (y : Int) = ((x &&& UInt8.ofNat y).toNat : Int) := by
  have h := and_u8 x (UInt8.ofNat y)
  rw [show ((UInt8.ofNat y).toNat : Int) = (y : Int) by rw [UInt8.toNat_ofNat', Nat.mod_eq_of_lt hy]] at h
  exact h
theorem bytes_only {b g n : Nat} {f : Nat → UInt8} {w w' : World} (h : Hid (Bytes w g n f)) (k : Only b w w') (hg : g ≠ b) : Hid (Bytes w' g n f) := fun j hj => by
  have h1 := h.out j hj
  have hl : g < w.heap.size := cell_lt h1.1
  exact ⟨by rw [k.cell hl hg]; exact h1.1, by rw [World.frozen?_of_block (k.block g hl hg)]; exact h1.2⟩
theorem bytes_below {g n : Nat} {f : Nat → UInt8} {w w' : World} (h : Hid (Bytes w g n f)) (k : Below w.heap.size w w') : Hid (Bytes w' g n f) := bytes_only (b := g + 1) h (Only.of_below k) (by omega)
/-- With a duration, enabled. -/
structure St.Set (s : St) (A : ByteArray) (d : Nat) : Prop where
  rest : s.Rest
  A : s.A = A
  prot : s.prot = false
  en : s.en = true
  durs : s.durs = [(d : Int)]
theorem set_script (A : ByteArray) (d : Nat) : (((newSt A).next [(d : Int)]).say (wordL [6])).Set A d ∧ ((newSt A).next [(d : Int)]).sel = false := by
  have h1 : ((newSt A).next [(d : Int)]).Rest := ⟨⟨rfl, rfl, rfl⟩, rfl, rfl⟩
  rw [say_enable h1]
  exact ⟨⟨rest_en h1 true, rfl, rfl, rfl, rfl⟩, rfl⟩
theorem set_first {s : St} {A : ByteArray} {d : Nat} (h : s.Set A d) : s.first = 2 := by
  unfold St.first
  rw [rest_busy h.rest, h.prot, h.en]
  rfl
theorem set_none {s : St} {A : ByteArray} {d : Nat} (h : s.Set A d) (a : Nat) (ha : a < 4096) : s.say (wordL [2, 0, a / 256, a % 256]) = s := by
  have := say_program h.rest a ha [] (by simp)
  rw [this]
  show s.obey (progK a []) = s
  rw [obey_program _ (progK_op a []), if_neg (by rw [progK_count]; decide)]
/-- Under way, so many clocks of d gone. -/
structure St.Way (s : St) (A : ByteArray) (k : Nat) (D : List Nat) (d j : Nat) : Prop where
  idle : s.Idle
  left : s.left = d - j
  sus : s.sus = false
  en : s.en = true
  prot : s.prot = false
  A : s.A = A
  er : s.erases = false
  wat : s.wat = k - k % 32
  wdata : s.wdata = (progK k D).page
theorem set_way {s : St} {A : ByteArray} {d : Nat} (h : s.Set A d) (a : Nat) (ha : a < 4096) (D : List Nat) (hD : ∀ x ∈ D, x < 256) (h0 : 0 < D.length) :
    (s.say (wordL (2 :: 0 :: a / 256 :: a % 256 :: D))).Way A a D d 0 := by
  rw [say_prog h.rest h.en h.prot a ha D hD h0]
  refine ⟨under_idle h.rest.idle _ _ _, ?_, h.rest.sus, h.en, h.prot, h.A, rfl, rfl, rfl⟩
  rw [under_left, h.durs]
  show ((d : Int)).toNat = d - 0
  omega
theorem way_busy {s : St} {A : ByteArray} {k : Nat} {D : List Nat} {d j : Nat} (h : s.Way A k D d j) (hj : j < d) : s.busy = true := by
  unfold St.busy; rw [h.left, h.sus, decide_eq_true (by omega)]; rfl
theorem way_first {s : St} {A : ByteArray} {k : Nat} {D : List Nat} {d j : Nat} (h : s.Way A k D d j) (hj : j < d) : s.first = 3 := by
  unfold St.first; rw [way_busy h hj, h.prot, h.en]; rfl
theorem way_on {s : St} {A : ByteArray} {k : Nat} {D : List Nat} {d j : Nat} (h : s.Way A k D d j) (hj : j + 1 < d) : s.countDown.Way A k D d (j + 1) := by
  unfold St.countDown
  rw [if_pos (way_busy h (by omega)), if_pos (by rw [h.left]; omega)]
  exact ⟨⟨h.idle.sel, h.idle.goes, h.idle.k⟩, by show s.left - 1 = _; rw [h.left]; omega, h.sus, h.en, h.prot, h.A, h.er, h.wat, h.wdata⟩
theorem way_done {s : St} {A : ByteArray} {k : Nat} {D : List Nat} {d j : Nat} (h : s.Way A k D d j) (hj : j + 1 = d) : s.countDown.A = progA A k D ∧ s.countDown.first = 0 := by
  unfold St.countDown
  rw [if_pos (way_busy h (by omega)), if_neg (by rw [h.left]; omega)]
  constructor
  · show s.on ⟨#[255]⟩ = _
    unfold St.on progA
    rw [h.er, h.wat, h.wdata, h.A]
    rfl
  · show bitIf (decide (0 < 0) && !s.sus) 1 + bitIf false 2 + bitIf s.prot 4 = 0
    rw [h.prot]; rfl
end Go.Proofs.Ythhchfldgkgfpaa
