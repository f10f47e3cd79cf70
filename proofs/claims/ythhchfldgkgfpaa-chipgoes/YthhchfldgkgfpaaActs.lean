/-
  What is under way and what comes of it: plain facts on the machine. Conditions: those of each statement.
-/
import Derived.Test.YthhchfldgkgfpaaWaits
namespace Go.Proofs.Ythhchfldgkgfpaa
open Go.RowKit Plain
set_option linter.unusedVariables false

/-- Something under way. -/
def St.under (s : St) (er : Bool) (a : Nat) (d : ByteArray) : St :=
  { s with left := (s.durs.headD 8).toNat, durs := s.durs.tail, erases := er, wat := a, wdata := d, wipes := if er then (fun i => if i = a / 512 then wrap64 (s.wipes i + 1) else s.wipes i) else s.wipes }
theorem begin_under {s : St} (er : Bool) (a : Nat) (d : ByteArray) (he : s.en = true) (hp : s.prot = false) : s.begin er a d = s.under er a d := by
  unfold St.begin
  rw [if_neg (by rw [he]; decide), if_neg (by rw [hp]; simp)]
  rfl
theorem under_idle {s : St} (h : s.Idle) (er : Bool) (a : Nat) (d : ByteArray) : (s.under er a d).Idle := ⟨h.sel, h.goes, h.k⟩
theorem done_rest {s : St} (h : s.Idle) (hs : s.sus = false) : s.done.Rest := ⟨⟨h.sel, h.goes, h.k⟩, rfl, hs⟩
/-- The command of a program. -/
def progK (a : Nat) (D : List Nat) : Cmd := (addrK (opOf 2) a).gots D
theorem progK_op (a : Nat) (D : List Nat) : (progK a D).op = opOf 2 := (gots_keeps D _).1
theorem progK_adr (a : Nat) (D : List Nat) : (progK a D).adr = a := (gots_keeps D _).2.1
theorem progK_count (a : Nat) (D : List Nat) : (progK a D).count = D.length := by rw [progK, (gots_keeps D _).2.2]; exact Nat.zero_add _
theorem progK_data (a : Nat) (D : List Nat) (hD : D.length ≤ 32) (j : Nat) (hj : j < D.length) : (progK a D).data j = UInt8.ofNat (D.getD j 0) := by
  rw [progK, gots_data D _ (by show 0 + D.length ≤ 32; omega)]
  show (if 0 ≤ j ∧ j < 0 + D.length then UInt8.ofNat (D.getD (j - 0) 0) else _) = _
  rw [if_pos (by omega), Nat.sub_zero]
theorem say_prog {s : St} (h : s.Rest) (he : s.en = true) (hp : s.prot = false) (a : Nat) (ha : a < 4096) (D : List Nat) (hD : ∀ x ∈ D, x < 256) (h0 : 0 < D.length) :
    s.say (wordL (2 :: 0 :: a / 256 :: a % 256 :: D)) = s.under false (a - a % 32) (progK a D).page := by
  rw [say_program h a ha D hD]
  show s.obey (progK a D) = _
  rw [obey_program _ (progK_op a D), if_pos (by rw [progK_count]; exact h0), progK_adr, begin_under _ _ _ he hp]
theorem page_ub (a : Nat) (D : List Nat) (hD : D.length ≤ 32) (j : Nat) (hj : j < 32) :
    ub (progK a D).page j = if (j + 32 - a % 32) % 32 < D.length then UInt8.ofNat (D.getD ((j + 32 - a % 32) % 32) 0) else 255 := by
  unfold Cmd.page
  rw [ub_tab _ _ _ hj, progK_adr, progK_count, Nat.min_eq_left hD]
  split
  · rename_i h; rw [progK_data a D hD _ h]
  · rfl
theorem pb_ff (x d : UInt8) : pb x d 255 = x &&& d := by
  unfold pb
  have h1 : ∀ d : UInt8, ~~~(~~~d &&& 255) = d := fun d => by
    apply UInt8.eq_of_toBitVec_eq
    show ~~~(~~~d.toBitVec &&& 255#8) = d.toBitVec
    rw [show (255#8 : BitVec 8) = BitVec.allOnes 8 from rfl, BitVec.and_allOnes, BitVec.not_not]
  rw [h1]
theorem and_ff (x : UInt8) : x &&& 255 = x := by
  apply UInt8.eq_of_toBitVec_eq
  show x.toBitVec &&& 255#8 = x.toBitVec
  rw [show (255#8 : BitVec 8) = BitVec.allOnes 8 from rfl, BitVec.and_allOnes]
theorem ff_and (x : UInt8) : 255 &&& x = x := by
  apply UInt8.eq_of_toBitVec_eq
  show 255#8 &&& x.toBitVec = x.toBitVec
  rw [show (255#8 : BitVec 8) = BitVec.allOnes 8 from rfl, BitVec.allOnes_and]
/-- The cells behind a program that is done. -/
def progA (A : ByteArray) (a : Nat) (D : List Nat) : ByteArray := prog A (a - a % 32) (progK a D).page ⟨#[255]⟩
theorem progA_size (A : ByteArray) (a : Nat) (D : List Nat) : (progA A a D).size = A.size := prog_size _ _ _ _
theorem progA_ub (A : ByteArray) (a : Nat) (D : List Nat) (hD : D.length ≤ 32) (j : Nat) (hj : j < A.size) :
    ub (progA A a D) j = if j / 32 = a / 32 ∧ (j + 32 - a % 32) % 32 < D.length then ub A j &&& UInt8.ofNat (D.getD ((j + 32 - a % 32) % 32) 0) else ub A j := by
  unfold progA
  rw [prog_ub hj, page_size]
  by_cases h1 : j / 32 = a / 32
  · rw [if_pos (by omega), mb_one, pb_ff, page_ub a D hD _ (by omega), show j - (a - a % 32) + 32 - a % 32 = j % 32 + 32 - a % 32 by omega, show (j % 32 + 32 - a % 32) % 32 = (j + 32 - a % 32) % 32 by omega]
    by_cases h2 : (j + 32 - a % 32) % 32 < D.length
    · rw [if_pos h2, if_pos ⟨h1, h2⟩]
    · rw [if_neg h2, if_neg (by omega), and_ff]
  · rw [if_neg (by omega), if_neg (by omega)]
theorem under_prog_done (s : St) (a : Nat) (D : List Nat) : (s.under false (a - a % 32) (progK a D).page).done = { s with A := progA s.A a D, left := 0, durs := s.durs.tail, erases := false, wat := 0, wdata := ⟨#[]⟩, en := false } := rfl
theorem under_left (s : St) (er : Bool) (a : Nat) (d : ByteArray) : (s.under er a d).left = (s.durs.headD 8).toNat := rfl

/-- A chip of these cells, at rest. -/
structure St.Plain (s : St) (A : ByteArray) : Prop where
  rest : s.Rest
  A : s.A = A
  durs : s.durs = []
  prot : s.prot = false
theorem plain_new (a : ByteArray) : (newSt a).Plain a := ⟨rest_new a, rfl, rfl, rfl⟩
theorem plain_en {s : St} {A : ByteArray} (h : s.Plain A) (e : Bool) : ({ s with en := e } : St).Plain A := ⟨rest_en h.rest e, h.A, h.durs, h.prot⟩
/-- Enabled. -/
theorem say_en {s : St} {A : ByteArray} (h : s.Plain A) : (s.say (wordL [6])).Plain A ∧ (s.say (wordL [6])).en = true := by
  rw [say_enable h.rest]; exact ⟨plain_en h true, rfl⟩
/-- A program under way. -/
structure St.Runs (s : St) (er : Bool) (a : Nat) (d : ByteArray) (A : ByteArray) : Prop where
  idle : s.Idle
  left : s.left = 8
  sus : s.sus = false
  en : s.en = true
  prot : s.prot = false
  A : s.A = A
  er : s.erases = er
  wat : s.wat = a
  wdata : s.wdata = d
  durs : s.durs = []
theorem runs_under {s : St} {A : ByteArray} (h : s.Plain A) (he : s.en = true) (er : Bool) (a : Nat) (d : ByteArray) : (s.under er a d).Runs er a d A :=
  ⟨under_idle h.rest.idle er a d, by rw [under_left, h.durs]; rfl, h.rest.sus, he, h.prot, h.A, rfl, rfl, rfl, by show s.durs.tail = []; rw [h.durs]; rfl⟩
theorem runs_done {s : St} {er : Bool} {a : Nat} {d A : ByteArray} (h : s.Runs er a d A) (n : Nat) (hn : 8 ≤ n) :
    s.say (List.replicate n 15) = s.done := by
  rw [say_nothing h.idle n]
  obtain ⟨j, rfl⟩ : ∃ j, n = s.left + j := ⟨n - s.left, by rw [h.left]; omega⟩
  exact wait_more h.sus (by rw [h.left]; decide) j
theorem runs_plain {s : St} {er : Bool} {a : Nat} {d A : ByteArray} (h : s.Runs er a d A) : s.done.Plain (s.on ⟨#[255]⟩) :=
  ⟨done_rest h.idle h.sus, rfl, h.durs, h.prot⟩
theorem runs_on_prog {s : St} {a : Nat} {D : List Nat} {A : ByteArray} (h : s.Runs false (a - a % 32) (progK a D).page A) : s.on ⟨#[255]⟩ = progA A a D := by
  unfold St.on progA
  rw [h.er, h.wat, h.wdata, h.A]
  rfl
/-- Programs, in one: it runs, and is done. -/
theorem prog_runs {s : St} {A : ByteArray} (h : s.Plain A) (he : s.en = true) (a : Nat) (ha : a < 4096) (D : List Nat) (hD : ∀ x ∈ D, x < 256) (h0 : 0 < D.length) :
    (s.say (wordL (2 :: 0 :: a / 256 :: a % 256 :: D))).Runs false (a - a % 32) (progK a D).page A := by
  rw [say_prog h.rest he h.prot a ha D hD h0]
  exact runs_under h he _ _ _
theorem prog_done {s : St} {a : Nat} {D : List Nat} {A : ByteArray} (h : s.Runs false (a - a % 32) (progK a D).page A) (n : Nat) (hn : 8 ≤ n) :
    (s.say (List.replicate n 15)).Plain (progA A a D) ∧ (s.say (List.replicate n 15)).en = false := by
  rw [runs_done h n hn, ← runs_on_prog h]
  exact ⟨runs_plain h, rfl⟩
theorem plain_first {s : St} {A : ByteArray} (h : s.Plain A) : s.first = if s.en then 2 else 0 := by
  unfold St.first
  rw [rest_busy h.rest, h.prot]
  cases s.en <;> rfl
theorem runs_first {s : St} {er : Bool} {a : Nat} {d A : ByteArray} (h : s.Runs er a d A) : s.first = 3 := by
  have hb : s.busy = true := by unfold St.busy; rw [h.left, h.sus]; rfl
  unfold St.first
  rw [hb, h.prot, h.en]
  rfl
end Go.Proofs.Ythhchfldgkgfpaa
