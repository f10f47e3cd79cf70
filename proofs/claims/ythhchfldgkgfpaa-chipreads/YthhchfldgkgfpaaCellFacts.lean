/-
  What a call of the cells answers, told for arguments that it takes, and plain facts on what it leaves. No conditions but those of each statement.
-/
import Derived.Test.YthhchfldgkgfpaaWhole
namespace Go.Proofs.Ythhchfldgkgfpaa
open Go.RowKit Plain
set_option linter.unusedVariables false

theorem pcS_yes {a d m : ByteArray} {A : Nat} (ha : a.size = 4096) (hA : A + d.size ≤ 4096) : pcS a (A : Int) d m = prog a A d m := by
  unfold pcS
  rw [if_pos (by simp [pcB, mayB, fitsB, ha]; omega)]
  simp
theorem pcN_yes {a : ByteArray} {k : Int} {n : Nat} (ha : a.size = 4096) (h0 : 0 ≤ k) (hA : k + n ≤ 4096) : pcN a k n = 0 := by
  unfold pcN
  rw [if_pos (by simp [pcB, mayB, fitsB, ha]; omega)]
theorem pcN_no {a : ByteArray} {k : Int} {n : Nat} (h : a.size ≠ 4096 ∨ k < 0 ∨ 4096 < k + n) : pcN a k n = 100 := by
  unfold pcN
  rw [if_neg (by simp [pcB, mayB, fitsB]; omega)]
theorem ecS_yes {a m : ByteArray} {S : Nat} (ha : a.size = 4096) (hS : S < 8) : ecS a (S : Int) m = erase a S m := by
  unfold ecS
  rw [if_pos (by simp [ecB, mayB, ha]; omega)]
  simp
theorem ecN_yes {a : ByteArray} {s : Int} (ha : a.size = 4096) (h0 : 0 ≤ s) (h8 : s < 8) : ecN a s = 0 := by
  unfold ecN
  rw [if_pos (by simp [ecB, mayB, ha]; omega)]
theorem ecN_no {a : ByteArray} {s : Int} (h : a.size ≠ 4096 ∨ s < 0 ∨ 8 ≤ s) : ecN a s = 100 := by
  unfold ecN
  rw [if_neg (by simp [ecB, mayB]; omega)]
theorem prog_size (a : ByteArray) (A : Nat) (d m : ByteArray) : (prog a A d m).size = a.size := tab_size _ _
theorem erase_size (a : ByteArray) (S : Nat) (m : ByteArray) : (erase a S m).size = a.size := tab_size _ _
theorem prog_ub {a : ByteArray} {A : Nat} {d m : ByteArray} {j : Nat} (hj : j < a.size) : ub (prog a A d m) j = if A ≤ j ∧ j < A + d.size then pb (ub a j) (ub d (j - A)) (mb m (j - A)) else ub a j := ub_tab _ _ _ hj
theorem erase_ub {a : ByteArray} {S : Nat} {m : ByteArray} {j : Nat} (hj : j < a.size) : ub (erase a S m) j = if S * 512 ≤ j ∧ j < S * 512 + 512 then eb (ub a j) (mb m (j - S * 512)) else ub a j := ub_tab _ _ _ hj
theorem one_size (x : UInt8) : (⟨#[x]⟩ : ByteArray).size = 1 := rfl
theorem ub_one (x : UInt8) : ub ⟨#[x]⟩ 0 = x := rfl
theorem mb_one (x : UInt8) (i : Nat) : mb ⟨#[x]⟩ i = x := by
  rw [mb_pos _ _ (by rw [one_size]; omega), one_size, Nat.mod_one]; rfl
set_option maxRecDepth 100000 in
theorem eb_ff (x : UInt8) : eb x 255 = 255 := by
  have : ∀ n : Fin 256, UInt8.ofNat n.val ||| 255 = 255 := by decide
  have h := this ⟨x.toNat, x.toNat_lt⟩
  simpa [eb] using h

/-- What the check's texts are, byte by byte. -/
theorem awake_facts {F b c d x : ByteArray} (hF : F = full 4096) (hb : b = pcS F 512 ⟨#[15]⟩ ⟨#[255]⟩) (hc : c = pcS b 512 ⟨#[0]⟩ ⟨#[3]⟩) (hd : d = ecS c 1 ⟨#[129]⟩) (hx : x = ecS d 1 ⟨#[255]⟩) :
    F.size = 4096 ∧ b.size = 4096 ∧ c.size = 4096 ∧ d.size = 4096 ∧ ((ub b 512).toNat : Int) = 15 ∧ ((ub c 512).toNat : Int) = 12 ∧ ((ub d 512).toNat : Int) = 141 ∧ x = F := by
  have sF : F.size = 4096 := full_size hF
  have hb' : b = prog F 512 ⟨#[15]⟩ ⟨#[255]⟩ := hb.trans (pcS_yes (A := 512) sF (by rw [one_size]; omega))
  have sb : b.size = 4096 := by rw [hb', prog_size, sF]
  have hc' : c = prog b 512 ⟨#[0]⟩ ⟨#[3]⟩ := hc.trans (pcS_yes (A := 512) sb (by rw [one_size]; omega))
  have sc : c.size = 4096 := by rw [hc', prog_size, sb]
  have hd' : d = erase c 1 ⟨#[129]⟩ := hd.trans (ecS_yes (S := 1) sc (by omega))
  have sd : d.size = 4096 := by rw [hd', erase_size, sc]
  have hx' : x = erase d 1 ⟨#[255]⟩ := hx.trans (ecS_yes (S := 1) sd (by omega))
  have ub_b : ub b 512 = 15 := by rw [hb', prog_ub (by omega), one_size, if_pos (by omega), full_ub hF (by omega), mb_one]; rfl
  have ub_c : ub c 512 = 12 := by rw [hc', prog_ub (by omega), one_size, if_pos (by omega), ub_b, mb_one]; rfl
  have ub_d : ub d 512 = 141 := by rw [hd', erase_ub (by omega), if_pos (by omega), ub_c, mb_one]; rfl
  refine ⟨sF, sb, sc, sd, by rw [ub_b]; rfl, by rw [ub_c]; rfl, by rw [ub_d]; rfl, ?_⟩
  refine ext_ub (by rw [hx', erase_size, sd, sF]) fun j hj => ?_
  rw [hx', erase_size, sd] at hj
  rw [hx', erase_ub (by omega), full_ub hF hj]
  by_cases h : 1 * 512 ≤ j ∧ j < 1 * 512 + 512
  · rw [if_pos h, mb_one, eb_ff]
  · rw [if_neg h, hd', erase_ub (by omega), if_neg h, hc', prog_ub (by omega), one_size, if_neg (by omega), hb', prog_ub (by omega), one_size, if_neg (by omega), full_ub hF hj]

theorem one_ok (x : UInt8) : (⟨#[x]⟩ : ByteArray).size ≤ maxLen := by rw [one_size]; unfold maxLen; omega

end Go.Proofs.Ythhchfldgkgfpaa
