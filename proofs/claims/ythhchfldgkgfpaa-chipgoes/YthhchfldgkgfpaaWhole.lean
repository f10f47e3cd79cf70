/-
  The calls of package cell, each by one contract for every argument. Conditions: the texts are no longer than any text may be; the numbers are ints.
-/
import Derived.Test.YthhchfldgkgfpaaProgram
import Derived.Test.YthhchfldgkgfpaaErase
namespace Go.Proofs.Ythhchfldgkgfpaa
open Go.RowKit Plain
set_option linter.unusedVariables false

def pcB (a : ByteArray) (k : Int) (n : Nat) : Bool := mayB a && fitsB k n
def pcS (a : ByteArray) (k : Int) (d m : ByteArray) : ByteArray := if pcB a k d.size then prog a k.toNat d m else ⟨#[]⟩
def pcN (a : ByteArray) (k : Int) (n : Nat) : Int := if pcB a k n then 0 else 100
def ecB (a : ByteArray) (s : Int) : Bool := mayB a && decide (0 ≤ s ∧ s < 8)
def ecS (a : ByteArray) (s : Int) (m : ByteArray) : ByteArray := if ecB a s then erase a s.toNat m else ⟨#[]⟩
def ecN (a : ByteArray) (s : Int) : Int := if ecB a s then 0 else 100

/-- What a call of the cells answers: a text and a number. -/
def Answers (w : World) (S : ByteArray) (N : Int) (e : Ending) (w' : World) : Prop :=
  ∃ R n, e = .returned (.tuple #[.string R, .int .i64 n]) ∧ Hid (R = S) ∧ Hid (n = N) ∧ Below w.heap.size w w'

set_option maxHeartbeats 400000 in
theorem programCut_no (a : ByteArray) (k : Int) (d m : ByteArray) (w : World) (hd : d.size ≤ maxLen) (h : pcB a k d.size = false) :
    Calls Try.prog 54 #[.string a, .int .i64 k, .string d, .string m] w fun e w' => e = .returned (.tuple #[.string ⟨#[]⟩, .int .i64 100]) ∧ w = w' := by
  unfold pcB at h
  cases h1 : mayB a with
  | false =>
    clear h
    go_enter Try.func54, Try.ntmps54
    go_wp2_with (go_at_call 43; refine (may_any _ _).mono ?_; rintro e w' ⟨rfl, rfl⟩)
    go_ret2
    exact ⟨rfl, rfl⟩
  | true =>
    have h2 : fitsB k d.size = false := by simpa [h1] using h
    clear h
    go_enter Try.func54, Try.ntmps54
    go_wp2_with (first | (go_at_call 43; refine (may_any _ _).mono ?_; rintro e w' ⟨rfl, rfl⟩) | (go_at_call 62; refine (fits_any _ _ _ hd).mono ?_; rintro e w' ⟨rfl, rfl⟩))
    go_ret2
    exact ⟨rfl, rfl⟩

set_option maxHeartbeats 400000 in
theorem eraseCut_no (a : ByteArray) (s : Int) (m : ByteArray) (w : World) (h : ecB a s = false) :
    Calls Try.prog 53 #[.string a, .int .i64 s, .string m] w fun e w' => e = .returned (.tuple #[.string ⟨#[]⟩, .int .i64 100]) ∧ w = w' := by
  unfold ecB at h
  cases h1 : mayB a with
  | false =>
    clear h
    go_enter Try.func53, Try.ntmps53
    go_wp2_with (go_at_call 43; refine (may_any _ _).mono ?_; rintro e w' ⟨rfl, rfl⟩)
    go_ret2
    exact ⟨rfl, rfl⟩
  | true =>
    have h3 : ¬ (0 ≤ s ∧ s < 8) := by simpa [h1] using h
    clear h
    by_cases c1 : s < 0
    · clear h3
      go_enter Try.func53, Try.ntmps53
      go_wp2_with (go_at_call 43; refine (may_any _ _).mono ?_; rintro e w' ⟨rfl, rfl⟩)
      go_ret2
      exact ⟨rfl, rfl⟩
    · have c2 : 8 ≤ s := by omega
      clear h3
      go_enter Try.func53, Try.ntmps53
      go_wp2_with (go_at_call 43; refine (may_any _ _).mono ?_; rintro e w' ⟨rfl, rfl⟩)
      go_ret2
      exact ⟨rfl, rfl⟩

theorem pcB_true {a : ByteArray} {k : Int} {n : Nat} (h : pcB a k n = true) : a.size = 4096 ∧ 0 ≤ k ∧ k + n ≤ 4096 := by
  simpa [pcB, mayB, fitsB] using h
theorem ecB_true {a : ByteArray} {s : Int} (h : ecB a s = true) : a.size = 4096 ∧ 0 ≤ s ∧ s < 8 := by
  simpa [ecB, mayB] using h

theorem programCut_any (a : ByteArray) (k : Int) (d m : ByteArray) (w : World) (hd : d.size ≤ maxLen) (hm : m.size ≤ maxLen) :
    Calls Try.prog 54 #[.string a, .int .i64 k, .string d, .string m] w (Answers w (pcS a k d m) (pcN a k d.size)) := by
  cases h : pcB a k d.size with
  | false => exact (programCut_no a k d m w hd h).mono fun e w' ⟨he, hw⟩ => ⟨_, _, he, by unfold pcS; rw [h]; rfl, by unfold pcN; rw [h]; rfl, hw ▸ Below.refl _ _⟩
  | true =>
    obtain ⟨ha, h0, h1⟩ := pcB_true h
    obtain ⟨A, rfl⟩ := Int.eq_ofNat_of_zero_le h0
    exact (programCut_yes a A d m w ha (by omega) hm).mono fun e w' ⟨R, he, hR, hb⟩ => ⟨R, _, he, by unfold pcS; rw [h]; exact hR, by unfold pcN; rw [h]; rfl, hb⟩
theorem eraseCut_any (a : ByteArray) (s : Int) (m : ByteArray) (w : World) (hm : m.size ≤ maxLen) :
    Calls Try.prog 53 #[.string a, .int .i64 s, .string m] w (Answers w (ecS a s m) (ecN a s)) := by
  cases h : ecB a s with
  | false => exact (eraseCut_no a s m w h).mono fun e w' ⟨he, hw⟩ => ⟨_, _, he, by unfold ecS; rw [h]; rfl, by unfold ecN; rw [h]; rfl, hw ▸ Below.refl _ _⟩
  | true =>
    obtain ⟨ha, h0, h1⟩ := ecB_true h
    obtain ⟨A, rfl⟩ := Int.eq_ofNat_of_zero_le h0
    exact (eraseCut_yes a A m w ha (by omega) hm).mono fun e w' ⟨R, he, hR, hb⟩ => ⟨R, _, he, by unfold ecS; rw [h]; exact hR, by unfold ecN; rw [h]; rfl, hb⟩
theorem ff_size : (⟨#[255]⟩ : ByteArray).size ≤ maxLen := by unfold maxLen; decide

end Go.Proofs.Ythhchfldgkgfpaa
