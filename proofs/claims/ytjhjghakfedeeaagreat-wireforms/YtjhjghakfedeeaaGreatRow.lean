/-
  The rows of phases of commands: plain facts. Nothing of the program is named.
-/
import Derived.Test.YtjhjghakfedeeaaGreatCmdA
import Derived.Test.YtjhjghakfedeeaaGreatCtl
namespace Go.Proofs.YtjhjghakfedeeaaGreat
open Go.RowKit Plain
set_option linter.unusedVariables false

theorem okR_app : ∀ a b : List Ph, okR (a ++ b) = (okR a && okR b)
  | [], b => by rw [List.nil_append]; rfl
  | p :: a, b => by rw [List.cons_append, okR_cons, okR_cons, okR_app a b, Bool.and_assoc]
theorem nR_app : ∀ a b : List Ph, nR (a ++ b) = nR a + nR b
  | [], b => by rw [List.nil_append]; show nR b = 0 + nR b; omega
  | p :: a, b => by rw [List.cons_append, nR_cons, nR_cons, nR_app a b]; omega
theorem okR_one (p : Ph) (h : okP p = true) : okR [p] = true := by rw [okR_cons, h]; rfl
theorem okR_if (c : Prop) [Decidable c] (p : Ph) (h : c → okP p = true) : okR (if c then [p] else []) = true := by
  split
  · rename_i hc; exact okR_one p (h hc)
  · rfl
theorem okP_row {l : Int} {L : List Int} (hl : l = 1 ∨ l = 4) (h : fewB L = true) (h0 : 0 < L.length) : okP (l, L, 0, 0) = true := by
  unfold okP
  rw [if_pos h0]
  have := bc_pos hl
  simp only [h, Bool.and_true, Bool.and_eq_true, decide_eq_true_eq]
  exact ⟨trivial, trivial, this⟩
theorem okP_idle (D : Int) (h0 : 0 < D) (h1 : D ≤ 400) : okP (0, [], D, 0) = true := by
  unfold okP
  rw [if_neg (by simp), if_neg (by show ¬ D = 0; omega)]
  simp only [Bool.and_eq_true, decide_eq_true_eq]
  exact ⟨trivial, trivial, h0, h1⟩
theorem okP_read {l r : Int} (hl : l = 1 ∨ l = 4) (h0 : 0 < r) (h1 : r ≤ 512) : okP (l, [], 0, r) = true := by
  unfold okP
  rw [if_neg (by simp), if_pos rfl]
  have := bc_pos hl
  simp only [Bool.and_eq_true, decide_eq_true_eq]
  exact ⟨this, h0, h1⟩
theorem few_addr (k : Nat) (hk : k < 4096) : fewB (addrL k) = true := by
  unfold fewB addrL byB
  simp only [List.length_cons, List.length_nil, List.all_cons, List.all_nil, Bool.and_true, Bool.and_eq_true, decide_eq_true_eq]
  omega
theorem few_one (b : Int) (h0 : 0 ≤ b) (h1 : b < 256) : fewB [b] = true := by
  unfold fewB byB
  simp only [List.length_cons, List.length_nil, List.all_cons, List.all_nil, Bool.and_true, Bool.and_eq_true, decide_eq_true_eq]
  omega
theorem opA_is (b : Int) : opA b = 0 ∨ opA b = 1 ∨ opA b = 4 := by
  unfold opA; repeat' split
  all_goals omega
theorem opN_is (b : Int) : opN b = 0 ∨ opN b = 1 ∨ opN b = 4 := by
  unfold opN; repeat' split
  all_goals omega
theorem opD_is (b : Int) : opD b = 0 ∨ opD b = 8 ∨ opD b = 4 := by
  unfold opD; repeat' split
  all_goals omega
theorem isOp_lt {b : Int} (h : isOp b = true) : 0 ≤ b ∧ b < 256 := by have := (isOp_iff b).1 h; omega
theorem mode_row {b A : Int} {M : Bool} {D N : Int} {I : Bool} {n : Nat} {r : Int} (h : knB b A M D N I = true) (hc : caB N I M n r = true) (hM : M = true) : A = 4 ∧ n = 1 := by
  obtain ⟨h0, rfl, rfl, rfl, rfl, rfl⟩ := known_parts h
  have hb : b = 235 := by simpa [opM] using hM
  subst hb
  exact ⟨by decide, by simpa [caB, opN, opI, opM] using hc⟩
theorem carries_N {b A : Int} {M : Bool} {D N : Int} {I : Bool} {n : Nat} {r : Int} (hc : caB N I M n r = true) (h : 0 < n ∨ 0 < r) : N ≠ 0 := by
  intro e
  unfold caB at hc
  rw [if_pos e] at hc
  have := of_decide_eq_true hc
  omega
/-- A command's row may be. -/
theorem fit_ok {b A : Int} {M : Bool} {D N : Int} {I : Bool} {k : Int} {L : List Int} {r : Int} (h : fitB b A M D N I k L r = true) : okR (phL (b, A, M, D, N, I) k.toNat L r) = true := by
  obtain ⟨h1, h2, h3, h4, h5⟩ := fit_parts h
  obtain ⟨h0, hA, hM, hD, hN, hI⟩ := known_parts h1
  obtain ⟨j, rfl, hj⟩ := pl_nat h2
  have hr := of_decide_eq_true (show decide (0 ≤ r ∧ r ≤ 512) = true from h4)
  have hb := isOp_lt h0
  have hA' := opA_is b
  have hD' := opD_is b
  have hN' := opN_is b
  rw [hA] at hA'; rw [hD] at hD'; rw [hN] at hN'
  unfold phL
  simp only [okR_app]
  rw [okR_one _ (okP_row (.inl rfl) (few_one b hb.1 hb.2) (by simp)), okR_if _ _ fun hc => okP_row (by omega) (few_addr _ (by simpa using hj)) (by simp [addrL]),
    okR_if _ _ fun hc => ?_, okR_if _ _ fun hc => okP_idle _ hc (by show D ≤ 400; omega), okR_if _ _ fun hc => ?_, okR_if _ _ fun hc => ?_]
  · rfl
  · have := carries_N (b := b) (A := A) (D := D) h5 (.inr hc)
    exact okP_read (by show N = 1 ∨ N = 4; omega) hc hr.2
  · have := carries_N (b := b) (A := A) (D := D) h5 (.inl hc.2)
    exact okP_row (by show N = 1 ∨ N = 4; omega) h3 hc.2
  · have hc' : M = true := hc
    obtain ⟨q1, q2⟩ := mode_row h1 h5 hc'
    exact okP_row (.inr q1) h3 (by omega)
theorem okR_tail {ps : List Ph} (h : okR ps = true) : okR ps.tail = true := by
  cases ps with
  | nil => rfl
  | cons p ps => rw [okR_cons, Bool.and_eq_true] at h; exact h.2
theorem nR_len {ps : List Ph} (h : okR ps = true) : nR ps ≤ 4096 * ps.length := by
  induction ps with
  | nil => exact Nat.le_refl _
  | cons p ps ih =>
    rw [okR_cons, Bool.and_eq_true] at h
    rw [nR_cons, List.length_cons]
    have := (nP_pos h.1).2
    have := ih h.2
    omega
theorem phL_len (o : Op6) (k : Nat) (L : List Int) (r : Int) : (phL o k L r).length ≤ 6 ∧ 0 < (phL o k L r).length := by
  have hs : ∀ (c : Prop) [Decidable c] (p : Ph), (if c then [p] else []).length ≤ 1 := fun c _ p => by split <;> simp
  unfold phL
  simp only [List.length_append]
  have h1 := hs (0 < o.2.1) (o.2.1, addrL k, 0, 0)
  have h2 := hs (o.2.2.1 = true) (o.2.1, L, 0, 0)
  have h3 := hs (0 < o.2.2.2.1) (0, [], o.2.2.2.1, 0)
  have h4 := hs (o.2.2.2.2.2 = true ∧ 0 < L.length) (o.2.2.2.2.1, L, 0, 0)
  have h5 := hs (0 < r) (o.2.2.2.2.1, [], 0, r)
  simp only [List.length_cons, List.length_nil]
  omega
theorem okP_fit {p : Ph} (h : okP p = true) : p.2.1.length * 8 ≤ 140737488351232 := by have := (okP_bounds h).1; omega
theorem fit_of_ok {ps : List Ph} (h : okR ps = true) (hl : ps.length ≤ 1000000) : PFit ps := ⟨by omega, fun p hp => okP_fit (okR_mem h hp)⟩
theorem endN_small {ps : List Ph} (h : okR ps = true) (hl : ps.length ≤ 6) (m : Int) : endN ps m ≤ 24576 := by
  have h1 := nR_len h
  have h2 := endN_le ps m
  omega
theorem tail_len {ps : List Ph} {n : Nat} (h : ps.length ≤ n) : ps.tail.length ≤ n := by rw [List.length_tail]; omega

theorem last_ok : okR lastP = true := by decide
theorem last_n : nR lastP = 8 := by decide
theorem last_fit : PFit lastP := fit_of_ok last_ok (by decide)

/-- How much a row reads: as much as it says. -/
def rdN (ps : List Ph) : Nat := ps.foldr (fun p n => p.2.2.2.toNat + n) 0
theorem rdN_cons (p : Ph) (ps : List Ph) : rdN (p :: ps) = p.2.2.2.toNat + rdN ps := rfl
theorem rdN_app : ∀ a b : List Ph, rdN (a ++ b) = rdN a + rdN b
  | [], b => by rw [List.nil_append]; show _ = 0 + rdN b; omega
  | p :: a, b => by rw [List.cons_append, rdN_cons, rdN_cons, rdN_app a b]; omega
theorem hearF_many {l : Int} (hl : l = 1 ∨ l = 4) (s : List Int × List Int) (y : Nat) (n : Nat) (h1 : s.1.length = n % bcI l) (h2 : s.2.length = n / bcI l) : (hearF l s y).2.length = (n + 1) / bcI l := by
  unfold hearF
  rw [List.length_append, h1]
  split
  · rename_i h
    show s.2.length = _
    rw [h2]
    change n % bcI l + 1 < bcI l at h
    rcases hl with rfl | rfl
    · rw [bc_one] at *; omega
    · rw [bc_four] at *; omega
  · rename_i h
    show (s.2 ++ _).length = _
    rw [List.length_append, h2]
    change ¬ (n % bcI l + 1 < bcI l) at h
    show n / bcI l + 1 = _
    rcases hl with rfl | rfl
    · rw [bc_one] at *; omega
    · rw [bc_four] at *; omega
theorem hrd_many {l : Int} (hl : l = 1 ∨ l = 4) (Y : List Nat) : (hrd l Y).2.length = Y.length / bcI l := by
  refine snoc_ind (P := fun Y => (hrd l Y).2.length = Y.length / bcI l) ?_ ?_ Y
  · simp [hrd]
  · intro Y y ih
    rw [hrd_snoc, List.length_append]
    exact hearF_many hl _ y _ (hrd_len hl Y) ih
theorem rdOf_len {p : Ph} (h : okP p = true) (Y : List Nat) (hY : Y.length = nP p) : (rdOf p Y).length = p.2.2.2.toNat := by
  unfold rdOf
  rcases okP_cases h with ⟨_, _, _, _, _, h0⟩ | ⟨_, _, _, _, h0⟩ | ⟨hb, hl, hc, h0, _⟩
  · rw [if_neg (by omega), h0]; rfl
  · rw [if_neg (by omega), h0]; rfl
  · rw [if_pos h0]
    rw [hrd_many hl, hY]
    unfold nP
    rw [hb, hc]
    show (0 + (0 + p.2.2.2.toNat) * bcI p.1) / bcI p.1 = _
    rw [Nat.zero_add, Nat.zero_add, Nat.mul_div_cancel _ (bc_pos hl)]
theorem rdR_len : ∀ (ps : List Ph) (Y : List Nat), okR ps = true → Y.length = nR ps → (rdR ps Y).length = rdN ps
  | [], Y, _, _ => rfl
  | p :: ps, Y, h, hY => by
    rw [okR_cons, Bool.and_eq_true] at h
    rw [nR_cons] at hY
    show (rdOf p (Y.take (nP p)) ++ rdR ps (Y.drop (nP p))).length = _
    rw [List.length_append, rdOf_len h.1 _ (by rw [List.length_take]; omega), rdR_len ps _ h.2 (by rw [List.length_drop]; omega), rdN_cons]
/-- A row that is whole reads as much as it says. -/
theorem drvL_len (s : St) (ps : List Ph) (m : Int) (h : okR ps = true) (hw : whB ps m = true) : (drvL s ps m).length = rdN ps := by
  unfold drvL endN
  rw [if_pos hw]
  exact rdR_len ps _ h (ran_len s ps _ (Nat.le_refl _))
theorem rdN_phL (o : Op6) (k : Nat) (L : List Int) (r : Int) : rdN (phL o k L r) = r.toNat := by
  have h0 : ∀ (c : Prop) [Decidable c] (p : Ph), p.2.2.2 = 0 → rdN (if c then [p] else []) = 0 := fun c _ p h => by
    split
    · show p.2.2.2.toNat + 0 = 0; rw [h]; rfl
    · rfl
  unfold phL
  simp only [rdN_app]
  rw [h0 _ _ rfl, h0 _ _ rfl, h0 _ _ rfl, h0 _ _ rfl]
  show 0 + 0 + 0 + 0 + 0 + 0 + rdN (if 0 < r then [(o.2.2.2.2.1, [], 0, r)] else []) = _
  split
  · show 0 + 0 + 0 + 0 + 0 + 0 + (r.toNat + 0) = _; omega
  · rename_i h; show 0 + 0 + 0 + 0 + 0 + 0 + 0 = _; omega
theorem rdN_tail (o : Op6) (k : Nat) (L : List Int) (r : Int) : rdN (phL o k L r).tail = r.toNat := by
  have := rdN_phL o k L r
  unfold phL at this ⊢
  simp only [List.append_assoc, List.cons_append, List.nil_append, List.tail_cons] at this ⊢
  rw [rdN_cons] at this
  simpa using this
end Go.Proofs.YtjhjghakfedeeaaGreat
