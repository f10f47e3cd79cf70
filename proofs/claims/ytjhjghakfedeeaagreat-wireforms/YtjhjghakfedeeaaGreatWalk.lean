/-
  Phases that may be and how many clocks they take: the program's small calls. Conditions: those of each statement. Rows of phases whose blocks have a property; how many clocks a row takes: the program's call. Conditions: the row is no longer than memory bears. How far a row of phases has come, clock by clock: plain facts, and how it lies in memory. Conditions: those of each statement. A row of phases clock by clock: plain facts. Nothing of the program is named.
-/
import Derived.Test.YtjhjghakfedeeaaGreatPh
/-! Phases that may be and how many clocks they take: the program's small calls. Conditions: those of each statement. -/
section
namespace Go.Proofs.YtjhjghakfedeeaaGreat
open Go.RowKit Plain
set_option linter.unusedVariables false

/-- The clocks of a byte on k lanes. -/
def bcI (k : Int) : Nat := if k = 1 then 8 else if k = 4 then 2 else 0
theorem bc_one : bcI 1 = 8 := rfl
theorem bc_four : bcI 4 = 2 := rfl
theorem bc_no {k : Int} (h1 : k ≠ 1) (h4 : k ≠ 4) : bcI k = 0 := by unfold bcI; rw [if_neg h1, if_neg h4]
theorem bc_le (k : Int) : bcI k ≤ 8 := by unfold bcI; split; · omega
                                          · split <;> omega
/-- May a phase be? -/
def okP (p : Ph) : Bool := if 0 < p.2.1.length then decide (p.2.2.1 = 0) && (decide (p.2.2.2 = 0) && (decide (0 < bcI p.1) && fewB p.2.1)) else if p.2.2.1 = 0 then decide (0 < bcI p.1) && (decide (0 < p.2.2.2) && decide (p.2.2.2 ≤ 512)) else decide (p.2.2.2 = 0) && (decide (p.1 = 0) && (decide (0 < p.2.2.1) && decide (p.2.2.1 ≤ 400)))
/-- Its clocks. -/
def nP (p : Ph) : Nat := p.2.2.1.toNat + (p.2.1.length + p.2.2.2.toNat) * bcI p.1
/-- The value of a phase, where its bytes lie at bv. -/
def phV (bv : Value) (p : Ph) : Value := .agg #[.int .i64 p.1, bv, .int .i64 p.2.2.1, .int .i64 p.2.2.2]
theorem okP_bounds {p : Ph} (h : okP p = true) : p.2.1.length ≤ 512 ∧ 0 ≤ p.2.2.1 ∧ p.2.2.1 ≤ 400 ∧ 0 ≤ p.2.2.2 ∧ p.2.2.2 ≤ 512 := by
  unfold okP at h
  split at h
  · simp [fewB] at h; omega
  · split at h
    · simp at h; omega
    · simp at h; omega
theorem okP_cases {p : Ph} (h : okP p = true) : (0 < p.2.1.length ∧ p.2.1.length ≤ 512 ∧ byB p.2.1 = true ∧ (p.1 = 1 ∨ p.1 = 4) ∧ p.2.2.1 = 0 ∧ p.2.2.2 = 0) ∨ (p.2.1 = [] ∧ p.1 = 0 ∧ 0 < p.2.2.1 ∧ p.2.2.1 ≤ 400 ∧ p.2.2.2 = 0) ∨ (p.2.1 = [] ∧ (p.1 = 1 ∨ p.1 = 4) ∧ p.2.2.1 = 0 ∧ 0 < p.2.2.2 ∧ p.2.2.2 ≤ 512) := by
  have hb : 0 < bcI p.1 → p.1 = 1 ∨ p.1 = 4 := fun h => by
    rcases Classical.em (p.1 = 1) with h1 | h1
    · exact .inl h1
    · rcases Classical.em (p.1 = 4) with h4 | h4
      · exact .inr h4
      · rw [bc_no h1 h4] at h; omega
  unfold okP at h
  split at h
  · rename_i h0
    simp only [Bool.and_eq_true, decide_eq_true_eq, fewB] at h
    exact .inl ⟨h0, h.2.2.2.1, h.2.2.2.2, hb h.2.2.1, h.1, h.2.1⟩
  · rename_i h0
    have hn : p.2.1 = [] := List.length_eq_zero_iff.1 (by omega)
    split at h
    · rename_i hc
      simp only [Bool.and_eq_true, decide_eq_true_eq] at h
      exact .inr (.inr ⟨hn, hb h.1, hc, h.2.1, h.2.2⟩)
    · simp only [Bool.and_eq_true, decide_eq_true_eq] at h
      exact .inr (.inl ⟨hn, h.2.1, h.2.2.1, h.2.2.2, h.1⟩)
theorem nP_pos {p : Ph} (h : okP p = true) : 0 < nP p ∧ nP p ≤ 4096 := by
  unfold nP
  rcases okP_cases h with ⟨h1, h2, -, h3, h4, h5⟩ | ⟨h1, h2, h3, h4, h5⟩ | ⟨h1, h2, h3, h4, h5⟩
  · rw [h4, h5]
    rcases h3 with h3 | h3 <;> rw [h3] <;> simp [bc_one, bc_four] <;> omega
  · rw [h1, h2, h5]; simp [show bcI 0 = 0 from rfl]; omega
  · rw [h1, h3]
    rcases h2 with h3 | h3 <;> rw [h3] <;> simp [bc_one, bc_four] <;> omega

theorem bc_any (k : Int) (w : World) :
    Calls Tryz.prog 91 #[.int .i64 k] w fun e w' => e = .returned (.int .i64 (bcI k : Int)) ∧ w = w' := by
  by_cases h1 : k = 1
  · subst h1
    go_enter Tryz.func91, Tryz.ntmps91
    go_wp2
    go_ret
    exact ⟨rfl, rfl⟩
  · by_cases h4 : k = 4
    · subst h4
      go_enter Tryz.func91, Tryz.ntmps91
      go_wp2
      go_ret
      exact ⟨rfl, rfl⟩
    · have HK : Hid ((bcI k : Int) = 0) := by rw [Hid, bc_no h1 h4]; rfl
      go_enter Tryz.func91, Tryz.ntmps91
      go_wp2
      go_ret
      exact ⟨by rw [HK.out]; rfl, rfl⟩
theorem bc_q (k : Int) (w : World) : Calls Tryz.prog 91 #[.int .i64 k] w fun e w' => e = .returned (.int .i64 (bcI k : Int)) ∧ w' = w := (bc_any k w).mono fun _ _ ⟨h1, h2⟩ => ⟨h1, h2.symm⟩

set_option maxRecDepth 100000 in
set_option maxHeartbeats 2000000 in
theorem clocks_any (l c r : Int) (a : Option Addr) (n cap : Nat) (w : World) (hn : n ≤ 512) (hc : 0 ≤ c ∧ c ≤ 400) (hr : 0 ≤ r ∧ r ≤ 512) :
    Calls Tryz.prog 55 #[.agg #[.int .i64 l, .slice a n cap, .int .i64 c, .int .i64 r]] w fun e w' => e = .returned (.int .i64 ((c.toNat + (n + r.toNat) * bcI l : Nat) : Int)) ∧ Below w.heap.size w w' := by
  obtain ⟨m, hm⟩ : ∃ m, bcI l = m := ⟨_, rfl⟩
  have hle : m ≤ 8 := by rw [← hm]; exact bc_le l
  obtain ⟨c, rfl⟩ : ∃ x : Nat, c = x := ⟨c.toNat, by omega⟩
  obtain ⟨r, rfl⟩ : ∃ x : Nat, r = x := ⟨r.toNat, by omega⟩
  have HC := bc_q l
  rw [hm] at HC
  have HC : Hid (∀ w, Calls Tryz.prog 91 #[.int .i64 l] w fun e w' => e = .returned (.int .i64 (m : Int)) ∧ w' = w) := HC
  rw [hm, Int.toNat_natCast, Int.toNat_natCast]
  obtain ⟨q, hq⟩ : ∃ q : Nat, q = (n + r) * m := ⟨_, rfl⟩
  have hq1 : q ≤ 8192 := by
    have := Nat.mul_le_mul (show n + r ≤ 1024 by omega) hle
    omega
  have e1 : ((n : Int) + (r : Int)) * (m : Int) = (q : Int) := by rw [hq]; push_cast; rfl
  rw [← hq]
  have B : Hid (Below w.heap.size w (w.alloc (.cells #[.int .i64 l, .slice a n cap, .int .i64 c, .int .i64 r] 49))) := below_new _ _
  clear hm hq
  go_enter Tryz.func55, Tryz.ntmps55
  go_upto_region 1 with fail
  go_quiet (first | (go_at_call 91; exact Calls.quiet_of_same (HC.out _)))
  go_wp2
  go_ret
  exact ⟨by push_cast; rfl, below_drewN B.out _⟩

set_option maxRecDepth 100000 in
set_option maxHeartbeats 2000000 in
theorem may1_any (l c r : Int) (a : Option Addr) (cap : Nat) (L : List Int) (w : World) (h : Reads w (.slice a L.length cap) L) (hl : L.length * 8 ≤ 140737488351232) (h0 : 0 < L.length) :
    Calls Tryz.prog 54 #[.agg #[.int .i64 l, .slice a L.length cap, .int .i64 c, .int .i64 r]] w fun e w' => e = .returned (.bool (okP (l, L, c, r))) ∧ Below w.heap.size w w' := by
  have B : Hid (Below w.heap.size w (w.alloc (.cells #[.int .i64 l, .slice a L.length cap, .int .i64 c, .int .i64 r] 49))) := below_new _ _
  have HO := only_any _ L _ (h.below B.out) hl
  have HO : Hid (Calls _ _ _ _ _) := HO
  have e0 : okP (l, L, c, r) = (decide (c = 0) && (decide (r = 0) && (decide (0 < bcI l) && fewB L))) := by unfold okP; rw [if_pos h0]
  rw [e0]
  obtain ⟨m, hm⟩ : ∃ m, bcI l = m := ⟨_, rfl⟩
  obtain ⟨f, hf⟩ : ∃ f, fewB L = f := ⟨_, rfl⟩
  rw [hf] at HO ⊢
  have HC := bc_any l
  rw [hm] at HC ⊢
  have HC : Hid (∀ w, Calls Tryz.prog 91 #[.int .i64 l] w fun e w' => e = .returned (.int .i64 (m : Int)) ∧ w = w') := HC
  obtain ⟨n, hn⟩ : ∃ n, L.length = n := ⟨_, rfl⟩
  rw [hn] at h0 HO B ⊢
  have hp : 0 < (n : Int) := by omega
  clear e0 hm hf hn h hl h0
  go_enter Tryz.func54, Tryz.ntmps54
  by_cases hc : c = 0
  · subst hc
    by_cases hr : r = 0
    · subst hr
      go_wp2_with fail
      refine (HC.out _).mono ?_
      rintro e w1 ⟨rfl, rfl⟩
      by_cases hm : 0 < m
      · have hm' : 0 < (m : Int) := by omega
        go_wp2_with fail
        refine HO.out.mono ?_
        rintro e w2 ⟨rfl, b2⟩
        have b2 := below_then B.out b2
        go_wp2
        go_ret
        exact ⟨ret_bool (by first | (simp; done) | (simp; omega) | (simp [hm]; done) | (simp [hm]; omega)), b2⟩
      · have hm' : ¬ 0 < (m : Int) := by omega
        go_wp2
        go_ret
        exact ⟨ret_bool (by first | (simp; done) | (simp; omega) | (simp [hm]; done) | (simp [hm]; omega)), B.out⟩
    · go_wp2
      go_ret
      exact ⟨ret_bool (by first | (simp; done) | (simp; omega) | (simp [hr]; done) | (simp [hr]; omega)), B.out⟩
  · go_wp2
    go_ret
    exact ⟨ret_bool (by first | (simp; done) | (simp; omega) | (simp [hc]; done) | (simp [hc]; omega)), B.out⟩
set_option maxRecDepth 100000 in
set_option maxHeartbeats 2000000 in
theorem may0_any (l c r : Int) (a : Option Addr) (cap : Nat) (w : World) :
    Calls Tryz.prog 54 #[.agg #[.int .i64 l, .slice a 0 cap, .int .i64 c, .int .i64 r]] w fun e w' => e = .returned (.bool (okP (l, [], c, r))) ∧ Below w.heap.size w w' := by
  have B : Hid (Below w.heap.size w (w.alloc (.cells #[.int .i64 l, .slice a 0 cap, .int .i64 c, .int .i64 r] 49))) := below_new _ _
  have e0 : okP (l, [], c, r) = (if c = 0 then decide (0 < bcI l) && (decide (0 < r) && decide (r ≤ 512)) else decide (r = 0) && (decide (l = 0) && (decide (0 < c) && decide (c ≤ 400)))) := by unfold okP; rw [if_neg (by simp)]
  rw [e0]
  obtain ⟨m, hm⟩ : ∃ m, bcI l = m := ⟨_, rfl⟩
  have HC := bc_any l
  rw [hm] at HC ⊢
  have HC : Hid (∀ w, Calls Tryz.prog 91 #[.int .i64 l] w fun e w' => e = .returned (.int .i64 (m : Int)) ∧ w = w') := HC
  clear e0 hm
  go_enter Tryz.func54, Tryz.ntmps54
  by_cases hc : c = 0
  · subst hc
    go_wp2_with fail
    refine (HC.out _).mono ?_
    rintro e w1 ⟨rfl, rfl⟩
    by_cases hm : 0 < m
    · have hm' : 0 < (m : Int) := by omega
      by_cases hr : 0 < r
      · by_cases hr2 : r ≤ 512
        · go_wp2
          go_ret
          exact ⟨ret_bool (by first | (simp; done) | (simp; omega) | (simp [hm, hr, hr2]; done) | (simp [hm, hr, hr2]; omega)), B.out⟩
        · go_wp2
          go_ret
          exact ⟨ret_bool (by first | (simp; done) | (simp; omega) | (simp [hr2]; done) | (simp [hr2]; omega)), B.out⟩
      · go_wp2
        go_ret
        exact ⟨ret_bool (by first | (simp; done) | (simp; omega) | (simp [hr]; done) | (simp [hr]; omega)), B.out⟩
    · have hm' : ¬ 0 < (m : Int) := by omega
      go_wp2
      go_ret
      exact ⟨ret_bool (by first | (simp; done) | (simp; omega) | (simp [hm]; done) | (simp [hm]; omega)), B.out⟩
  · rw [if_neg hc]
    by_cases hr : r = 0
    · subst hr
      by_cases hl : l = 0
      · subst hl
        by_cases h1 : 0 < c
        · by_cases h2 : c ≤ 400
          · go_wp2
            go_ret
            exact ⟨ret_bool (by first | (simp; done) | (simp; omega) | (simp [h1, h2]; done) | (simp [h1, h2]; omega)), B.out⟩
          · go_wp2
            go_ret
            exact ⟨ret_bool (by first | (simp; done) | (simp; omega) | (simp [h2]; done) | (simp [h2]; omega)), B.out⟩
        · go_wp2
          go_ret
          exact ⟨ret_bool (by first | (simp; done) | (simp; omega) | (simp [h1]; done) | (simp [h1]; omega)), B.out⟩
      · go_wp2
        go_ret
        exact ⟨ret_bool (by first | (simp; done) | (simp; omega) | (simp [hl]; done) | (simp [hl]; omega)), B.out⟩
    · go_wp2
      go_ret
      exact ⟨ret_bool (by first | (simp; done) | (simp; omega) | (simp [hr]; done) | (simp [hr]; omega)), B.out⟩
theorem may_call (bv : Value) (p : Ph) (w : World) (h : Reads w bv p.2.1) (hl : p.2.1.length * 8 ≤ 140737488351232) :
    Calls Tryz.prog 54 #[phV bv p] w fun e w' => e = .returned (.bool (okP p)) ∧ Below w.heap.size w w' := by
  obtain ⟨l, L, c, r⟩ := p
  obtain ⟨a, cap, rfl, -⟩ := id h
  rcases Nat.eq_zero_or_pos L.length with h0 | h0
  · obtain rfl := List.length_eq_zero_iff.1 h0
    exact may0_any l c r a cap w
  · exact may1_any l c r a cap L w h hl h0
theorem clocks_call (bv : Value) (p : Ph) (w : World) (h : Reads w bv p.2.1) (hp : okP p = true) :
    Calls Tryz.prog 55 #[phV bv p] w fun e w' => e = .returned (.int .i64 (nP p : Int)) ∧ Below w.heap.size w w' := by
  obtain ⟨l, L, c, r⟩ := p
  obtain ⟨a, cap, rfl, -⟩ := id h
  have hb := okP_bounds hp
  exact clocks_any l c r a L.length cap w hb.1 ⟨hb.2.1, hb.2.2.1⟩ ⟨hb.2.2.2.1, hb.2.2.2.2⟩
end Go.Proofs.YtjhjghakfedeeaaGreat
end

/-! Rows of phases whose blocks have a property; how many clocks a row takes: the program's call. Conditions: the row is no longer than memory bears. -/
section
namespace Go.Proofs.YtjhjghakfedeeaaGreat
open Go.RowKit Plain
set_option linter.unusedVariables false

/-- The slice v reads as the numbers L, and its block is one of Q. -/
def RIn (Q : Nat → Prop) (w : World) (v : Value) (L : List Int) : Prop :=
  ∃ a cap, v = .slice a L.length cap ∧ (0 < L.length → ∃ g o, a = some ⟨g, o, none⟩ ∧ Q g ∧ ∀ j, j < L.length → w.cell? ⟨g, o + j, none⟩ = some (.int .i64 (L.getD j 0)))
/-- The slice v reads as the phases ps, and all its blocks are of Q. -/
def PIn (Q : Nat → Prop) (w : World) (v : Value) (ps : List Ph) : Prop :=
  ∃ a cap, v = .slice a ps.length cap ∧ ps.length ≤ cap ∧ (0 < ps.length → ∃ g o, a = some ⟨g, o, none⟩ ∧ Q g ∧ ∀ j p, ps[j]? = some p → ∃ bv, RIn Q w bv p.2.1 ∧ w.cell? ⟨g, o + j * 4, none⟩ = some (.int .i64 p.1) ∧ w.cell? ⟨g, o + j * 4 + 1, none⟩ = some bv ∧ w.cell? ⟨g, o + j * 4 + 2, none⟩ = some (.int .i64 p.2.2.1) ∧ w.cell? ⟨g, o + j * 4 + 3, none⟩ = some (.int .i64 p.2.2.2))
def PFit (ps : List Ph) : Prop := ps.length * 48 ≤ 140737488351232 ∧ ∀ p ∈ ps, p.2.1.length * 8 ≤ 140737488351232
/-- Of the blocks of Q none turned. -/
def Stays (Q : Nat → Prop) (w w' : World) : Prop := ∀ g, Q g → g < w.heap.size → w'.heap[g]? = w.heap[g]?
theorem Stays.cell {Q : Nat → Prop} {w w' : World} (h : Stays Q w w') {a : Addr} {x : Value} (hq : Q a.block) (hc : w.cell? a = some x) : w'.cell? a = some x :=
  (World.cell?_of_block (w := w) (h a.block hq (cell_lt hc))).trans hc
theorem Stays.below {Q : Nat → Prop} {w w' : World} (b : Below w.heap.size w w') : Stays Q w w' := fun g _ hl => b.block g hl
theorem RIn.reads {Q : Nat → Prop} {w : World} {v : Value} {L : List Int} (h : RIn Q w v L) : Reads w v L := by
  obtain ⟨a, cap, rfl, h⟩ := h
  refine ⟨a, cap, rfl, fun h0 => ?_⟩
  obtain ⟨g, o, rfl, _, h⟩ := h h0
  exact ⟨g, o, rfl, h⟩
theorem RIn.stays {Q : Nat → Prop} {w w' : World} {v : Value} {L : List Int} (h : RIn Q w v L) (s : Stays Q w w') : RIn Q w' v L := by
  obtain ⟨a, cap, rfl, h⟩ := h
  refine ⟨a, cap, rfl, fun h0 => ?_⟩
  obtain ⟨g, o, rfl, hq, h⟩ := h h0
  exact ⟨g, o, rfl, hq, fun j hj => s.cell hq (h j hj)⟩
theorem RIn.mono {Q R : Nat → Prop} {w : World} {v : Value} {L : List Int} (h : RIn Q w v L) (k : ∀ g, Q g → g < w.heap.size → R g) : RIn R w v L := by
  obtain ⟨a, cap, rfl, h⟩ := h
  refine ⟨a, cap, rfl, fun h0 => ?_⟩
  obtain ⟨g, o, rfl, hq, h⟩ := h h0
  exact ⟨g, o, rfl, k g hq (by exact cell_lt (h 0 h0)), h⟩
theorem PIn.stays {Q : Nat → Prop} {w w' : World} {v : Value} {ps : List Ph} (h : PIn Q w v ps) (s : Stays Q w w') : PIn Q w' v ps := by
  obtain ⟨a, cap, rfl, hc, h⟩ := h
  refine ⟨a, cap, rfl, hc, fun h0 => ?_⟩
  obtain ⟨g, o, rfl, hq, h⟩ := h h0
  refine ⟨g, o, rfl, hq, fun j p hj => ?_⟩
  obtain ⟨bv, h0, h1, h2, h3, h4⟩ := h j p hj
  exact ⟨bv, h0.stays s, s.cell hq h1, s.cell hq h2, s.cell hq h3, s.cell hq h4⟩
theorem PIn.below {Q : Nat → Prop} {w w' : World} {v : Value} {ps : List Ph} (h : PIn Q w v ps) (b : Below w.heap.size w w') : PIn Q w' v ps := h.stays (.below b)
theorem PIn.mono {Q R : Nat → Prop} {w : World} {v : Value} {ps : List Ph} (h : PIn Q w v ps) (k : ∀ g, Q g → g < w.heap.size → R g) : PIn R w v ps := by
  obtain ⟨a, cap, rfl, hc, h⟩ := h
  refine ⟨a, cap, rfl, hc, fun h0 => ?_⟩
  obtain ⟨g, o, rfl, hq, h⟩ := h h0
  have hl : g < w.heap.size := by
    obtain ⟨bv, _, h1, _⟩ := h 0 ps[0] (List.getElem?_eq_getElem h0)
    exact cell_lt h1
  refine ⟨g, o, rfl, k g hq hl, fun j p hj => ?_⟩
  obtain ⟨bv, h0, h1, h2, h3, h4⟩ := h j p hj
  exact ⟨bv, h0.mono k, h1, h2, h3, h4⟩
theorem PIn.reads {Q : Nat → Prop} {w : World} {v : Value} {ps : List Ph} (h : PIn Q w v ps) : PReads w v ps := by
  obtain ⟨a, cap, rfl, hc, h⟩ := h
  refine ⟨a, cap, rfl, fun h0 => ?_⟩
  obtain ⟨g, o, rfl, hq, h⟩ := h h0
  refine ⟨g, o, rfl, fun j p hj => ?_⟩
  obtain ⟨bv, h0, h1, h2, h3, h4⟩ := h j p hj
  exact ⟨bv, h0.reads, h1, h2, h3, h4⟩
/-- The row behind its first phase. -/
theorem PIn.tail {Q : Nat → Prop} {w : World} {g o n cap cap' : Nat} {p : Ph} {ps : List Ph} (h : PIn Q w (.slice (some ⟨g, o, none⟩) (n + 1) cap) (p :: ps)) (hc : n ≤ cap') (hn : ps.length = n) (g' o' : Nat) (ha : 0 < n → g' = g ∧ o' = o + 4) : PIn Q w (.slice (some ⟨g', o', none⟩) n cap') ps := by
  subst hn
  obtain ⟨a, cap2, e, hc2, h⟩ := h
  refine ⟨_, cap', rfl, hc, fun h0 => ?_⟩
  obtain ⟨rfl, rfl⟩ := ha h0
  obtain ⟨g2, o2, e2, hq, h⟩ := h (by simp)
  injection e with e3 e4 e5
  rw [← e3] at e2
  injection e2 with e2
  injection e2 with e6 e7 e8
  subst e6 e7
  refine ⟨_, _, rfl, hq, fun j p hj => ?_⟩
  obtain ⟨bv, q0, q1, q2, q3, q4⟩ := h (j + 1) p (by simpa using hj)
  have e9 : o + (j + 1) * 4 = o + 4 + j * 4 := by omega
  rw [e9] at q1 q2 q3 q4
  exact ⟨bv, q0, q1, q2, q3, q4⟩

/-- May a row be; how many clocks it takes. -/
def okR (ps : List Ph) : Bool := ps.all okP
def nR (ps : List Ph) : Nat := (ps.map nP).sum
def clkN (ps : List Ph) : Nat := if okR ps then nR ps else 0
def clkX (ps : List Ph) : Int := if okR ps then 0 else 1000
theorem okR_mem {ps : List Ph} (h : okR ps = true) {p : Ph} (hp : p ∈ ps) : okP p = true := List.all_eq_true.1 h p hp
theorem okR_cons (p : Ph) (ps : List Ph) : okR (p :: ps) = (okP p && okR ps) := rfl
theorem nR_cons (p : Ph) (ps : List Ph) : nR (p :: ps) = nP p + nR ps := rfl
theorem nR_append (ps qs : List Ph) : nR (ps ++ qs) = nR ps + nR qs := by simp [nR]
theorem okR_append (ps qs : List Ph) : okR (ps ++ qs) = (okR ps && okR qs) := by simp [okR]
theorem nR_le : ∀ {ps : List Ph}, okR ps = true → nR ps ≤ ps.length * 4096
  | [], _ => by simp [nR]
  | p :: ps, h => by
    rw [okR_cons, Bool.and_eq_true] at h
    have h1 := (nP_pos h.1).2
    have h2 := nR_le h.2
    rw [nR_cons, List.length_cons]; omega
theorem okR_take {ps : List Ph} (h : okR ps = true) (k : Nat) : okR (ps.take k) = true := List.all_eq_true.2 fun p hp => okR_mem h (List.mem_of_mem_take hp)
theorem take_step {ps : List Ph} {k : Nat} {p : Ph} (h : ps[k]? = some p) : ps.take (k + 1) = ps.take k ++ [p] := by rw [List.take_add_one, h]; rfl
theorem PFit.le {ps : List Ph} (h : PFit ps) (hk : okR ps = true) : nR ps ≤ 12009599006321322 := by
  have := nR_le hk
  have := h.1
  omega

set_option maxRecDepth 100000 in
set_option maxHeartbeats 4000000 in
theorem rowclocks_any (u : Value) (ps : List Ph) (w : World) (hu : PReads w u ps) (hp : PFit ps) :
    Calls Tryz.prog 15 #[u] w fun e w' => e = .returned (.tuple #[.int .i64 (clkN ps : Int), .int .i64 (clkX ps)]) ∧ Below w.heap.size w w' := by
  obtain ⟨a, c1, rfl, hu⟩ := hu
  obtain ⟨n, hn⟩ : ∃ n, n = ps.length := ⟨_, rfl⟩
  have hn48 : n ≤ 2932031007317 := by have := hp.1; omega
  rw [← hn] at hu
  rw [← hn]
  have HN : Hid (n = ps.length) := hn
  have HP : Hid (PFit ps) := hp
  clear hn hp
  by_cases h0 : n = 0
  · subst h0
    have HL : Hid (ps = []) := List.length_eq_zero_iff.1 HN.out.symm
    have HE : Hid (clkN ps = 0 ∧ clkX ps = 0) := by rw [Hid, HL.out]; exact ⟨rfl, rfl⟩
    clear hu
    go_enter Tryz.func15, Tryz.ntmps15
    go_wp2
    refine wp_loop_rounds 1 ?_
    rw [rounds_succ]
    go_wp2
    go_ret2
    exact ⟨by rw [HE.out.1, HE.out.2]; rfl, Below.refl _ _⟩
  · obtain ⟨g, o, rfl, hg⟩ := hu (by omega)
    clear hu
    have HG : Hid (∀ j p, ps[j]? = some p → _) := hg
    clear hg
    go_enter Tryz.func15, Tryz.ntmps15
    go_wp2
    go_loopw [4, 9] (fun s i wr => ∃ k t : Nat, k ≤ n ∧ s = .int .i64 t ∧ i = .int .i64 k ∧ t ≤ k * 4096 ∧ Hid (t = nR (ps.take k)) ∧ Hid (okR (ps.take k) = true) ∧ Hid (Below w.heap.size w wr)) (fun _ i _ => n - (intOf i).toNat)
    case atStart => exact ⟨0, 0, Nat.zero_le _, rfl, rfl, by omega, rfl, rfl, Below.refl _ _⟩
    case round =>
      obtain ⟨k, t, hk, rfl, rfl, ht, HT, HO, HB⟩ := hrel
      by_cases hlt : k < n
      · obtain ⟨p, hpk⟩ : ∃ p, ps[k]? = some p := ⟨_, List.getElem?_eq_getElem (by have := HN.out; omega)⟩
        obtain ⟨bv, r1, x1, x2, x3, x4⟩ := HG.out k p hpk
        obtain ⟨ba, bc, rfl, -⟩ := id r1
        have e1 := (HB.out.cell (by exact cell_lt x1)).trans x1
        have e2 := (HB.out.cell (by exact cell_lt x2)).trans x2
        have e3 := (HB.out.cell (by exact cell_lt x3)).trans x3
        have e4 := (HB.out.cell (by exact cell_lt x4)).trans x4
        have R1 : Hid (Reads wr (.slice ba p.2.1.length bc) p.2.1) := r1.below HB.out
        have HF : Hid (p.2.1.length * 8 ≤ 140737488351232) := HP.out.2 p (List.mem_of_getElem? hpk)
        have HPK : Hid (ps[k]? = some p) := hpk
        obtain ⟨x, HX⟩ : ∃ x, Hid (okP p = x) := ⟨_, rfl⟩
        have i1 : (0 : Int) ≤ (k : Int) := by omega
        have i2 : (k : Int) < n := by omega
        clear hpk r1 x1 x2 x3 x4
        go_wp2_with fail
        refine (may_call (.slice ba p.2.1.length bc) p _ (R1.out.below (below_new _ _)) HF.out).mono ?_
        rintro e w1 ⟨rfl, b1⟩
        have B1 : Hid (Below wr.heap.size wr w1) := below_then (below_new _ _) b1
        have f1 : w1.cell? ⟨wr.heap.size, 0, none⟩ = some (.int .i64 p.1) := (b1.cell (by simp)).trans (by simp)
        have f2 : w1.cell? ⟨wr.heap.size, 1, none⟩ = some (.slice ba p.2.1.length bc) := (b1.cell (by simp)).trans (by simp)
        have f3 : w1.cell? ⟨wr.heap.size, 2, none⟩ = some (.int .i64 p.2.2.1) := (b1.cell (by simp)).trans (by simp)
        have f4 : w1.cell? ⟨wr.heap.size, 3, none⟩ = some (.int .i64 p.2.2.2) := (b1.cell (by simp)).trans (by simp)
        rw [HX.out]
        clear b1 e1 e2 e3 e4
        cases x
        · have HNO : Hid (okR ps = false) := by
            rw [Hid, ← Bool.not_eq_true]
            intro h
            have := okR_mem h (List.mem_of_getElem? HPK.out)
            rw [HX.out] at this; cases this
          have HE : Hid (clkN ps = 0 ∧ clkX ps = 1000) := by
            rw [Hid, clkN, clkX, HNO.out]; exact ⟨rfl, rfl⟩
          go_wp2
          go_ret2
          exact ⟨by rw [HE.out.1, HE.out.2]; rfl, below_then HB.out B1.out⟩
        · go_wp2_with fail
          refine (clocks_call (.slice ba p.2.1.length bc) p _ (R1.out.below B1.out) HX.out).mono ?_
          rintro e w2 ⟨rfl, b2⟩
          have hx := nP_pos HX.out
          obtain ⟨q, hq⟩ : ∃ q, nP p = q := ⟨_, rfl⟩
          rw [hq] at hx ⊢
          have HQ : Hid (nP p = q) := hq
          clear hq f1 f2 f3 f4
          have B2 : Hid (Below w.heap.size w w2) := below_then HB.out (below_then B1.out b2)
          clear b2
          go_wp2
          go_roundw
          case rel =>
            refine ⟨k + 1, t + q, by omega, by go_num, by go_num, by omega, ?_, ?_, B2.out⟩
            · rw [Hid, take_step HPK.out, nR_append, ← HT.out, ← HQ.out]; simp [nR]
            · rw [Hid, take_step HPK.out, okR_append, HO.out]; simp [okR, HX.out]
          case measure => simp [intOf]; omega
      · obtain rfl : k = n := by omega
        have HE : Hid (clkN ps = t ∧ clkX ps = 0) := by
          have h1 := HO.out
          have h2 := HT.out
          rw [HN.out, List.take_length] at h1 h2
          rw [Hid, clkN, clkX, h1]; exact ⟨h2.symm, rfl⟩
        go_wp2
        go_ret2
        exact ⟨by rw [HE.out.1, HE.out.2]; rfl, HB.out⟩
end Go.Proofs.YtjhjghakfedeeaaGreat
end

/-! How far a row of phases has come, clock by clock: plain facts, and how it lies in memory. Conditions: those of each statement. -/
section
namespace Go.Proofs.YtjhjghakfedeeaaGreat
open Go.RowKit Plain
set_option linter.unusedVariables false

/-- The rows that are left, the clocks of the first that are over, what the lanes carried of a byte, the bytes that came whole. -/
structure Wk where
  rest : List Ph
  gone : Nat
  xs : List Int
  read : List Int

/-- What goes onto the lanes at clock g of a phase. -/
def inW (p : Ph) (g : Nat) : Int :=
  if p.2.1.length = 0 then 15 else
  if p.1 = 1 then 14 + (outL (p.2.1.getD (g / bcI p.1) 0) p.1).getD (g % bcI p.1) 0 else (outL (p.2.1.getD (g / bcI p.1) 0) p.1).getD (g % bcI p.1) 0
def Wk.laned (k : Wk) (p : Ph) : Wk := if p.2.1.length = 0 then k else { k with xs := outL (p.2.1.getD (k.gone / bcI p.1) 0) p.1 }
/-- What a byte that comes has of what the chip said. -/
def bitV (l : Int) (y : Nat) : Int := if l = 1 then (y / 2 % 2 : Nat) else (y : Nat)
def Wk.heard (k : Wk) (l : Int) (y : Nat) : Wk :=
  if (k.xs ++ [bitV l y]).length < bcI l then { k with xs := k.xs ++ [bitV l y] } else { k with xs := [], read := k.read ++ [inV (k.xs ++ [bitV l y]) l] }
def Wk.ended (k : Wk) (p : Ph) : Wk := if k.gone + 1 = nP p then { k with rest := k.rest.tail, gone := 0, xs := [] } else { k with gone := k.gone + 1 }
def Wk.stepped (k : Wk) (p : Ph) (y : Nat) : Wk := (if 0 < p.2.2.2 then k.heard p.1 y else k).ended p
/-- The first phase is p, it may be, and what the lanes carry is as it must be. -/
structure Wk.Fine (k : Wk) (p : Ph) : Prop where
  rest : k.rest = p :: k.rest.tail
  ok : okP p = true
  gone : k.gone < nP p
  bytes : 0 < p.2.1.length → k.gone % bcI p.1 ≠ 0 → k.xs = outL (p.2.1.getD (k.gone / bcI p.1) 0) p.1
  came : 0 < p.2.2.2 → k.xs.length = k.gone % bcI p.1

/-- It lies in block g; its row's blocks are of Q, what it made itself lies from B on. -/
def WkAt (Q : Nat → Prop) (B : Nat) (w : World) (g : Nat) (k : Wk) : Prop :=
  ∃ rv xv dv, Blk w g 99 [rv, .int .i64 (k.gone : Int), xv, dv] ∧ B ≤ g ∧ PIn Q w rv k.rest ∧ Owns B w xv k.xs ∧ Owns B w dv k.read ∧ (xv.ownBlock = none ∨ xv.ownBlock ≠ dv.ownBlock)

theorem outL_length {b l : Int} (hl : l = 1 ∨ l = 4) (hb : 0 ≤ b ∧ b < 256) : (outL b l).length = bcI l := by
  unfold outL
  rw [if_pos ⟨hl, hb.1, by omega⟩]
  rcases hl with rfl | rfl <;> rfl
theorem byB_get {L : List Int} (h : byB L = true) (k : Nat) (hk : k < L.length) : 0 ≤ L.getD k 0 ∧ L.getD k 0 < 256 := by
  have := List.all_eq_true.1 h (L.getD k 0) (by rw [List.getD_eq_getElem?_getD, List.getElem?_eq_getElem hk]; exact List.getElem_mem hk)
  simpa using this
theorem bc_pos {l : Int} (hl : l = 1 ∨ l = 4) : 0 < bcI l := by rcases hl with rfl | rfl <;> decide
/-- A phase of bytes: the byte that is under way. -/
theorem Wk.Fine.byte {k : Wk} {p : Ph} (h : k.Fine p) (hb : 0 < p.2.1.length) : (p.1 = 1 ∨ p.1 = 4) ∧ k.gone / bcI p.1 < p.2.1.length ∧ p.2.1.length ≤ 512 ∧ 0 ≤ p.2.1.getD (k.gone / bcI p.1) 0 ∧ p.2.1.getD (k.gone / bcI p.1) 0 < 256 ∧ (outL (p.2.1.getD (k.gone / bcI p.1) 0) p.1).length = bcI p.1 ∧ 0 < bcI p.1 := by
  rcases okP_cases h.ok with ⟨h1, h2, h3, h4, h5, h6⟩ | ⟨h1, -⟩ | ⟨h1, -⟩
  · have hg := h.gone
    unfold nP at hg
    rw [h5, h6] at hg
    have hp := bc_pos h4
    have hlt : k.gone / bcI p.1 < p.2.1.length := Nat.div_lt_of_lt_mul (by rw [Nat.mul_comm]; simpa using hg)
    have hx := byB_get h3 _ hlt
    exact ⟨h4, hlt, h2, hx.1, hx.2, outL_length h4 hx, hp⟩
  · rw [h1] at hb; simp at hb
  · rw [h1] at hb; simp at hb
theorem cell_other {w : World} {g j : Nat} {v x : Value} {a : Addr} (h : w.cell? a = some x) (hn : a.block ≠ g ∨ a.off ≠ j) : (w.setCell ⟨g, j, none⟩ v).cell? a = some x :=
  (World.cell?_setCell_other _ _ _ _ (fun e => by subst e; rcases hn with h | h <;> exact h rfl)).trans h
theorem wrap_small (q : Nat) (h : q ≤ 1000000000) : wrap64 (q : Int) = (q : Int) := IntWalk.wrap64_in _ (by omega)
theorem wrap_small' (q : Nat) (h : q ≤ 1000000000) : IntKind.i64.wrap (q : Int) = (q : Int) := IntWalk.i64_in _ (by omega)
theorem emod_nat (a b r : Nat) (h : a % b = r) : (a : Int) % (b : Int) = (r : Int) := by rw [← h]; rfl
theorem ediv_nat (a b q : Nat) (h : q = a / b) : (a : Int) / (b : Int) = (q : Int) := by rw [h]; rfl
theorem own_keep {w w' : World} {B e s n : Nat} {v : Value} {xs : List Value} (h : w.ownsRow B e s v n xs) (hk : ∀ j, v.ownBlock = some j → w'.heap[j]? = w.heap[j]?) : w'.ownsRow B e s v n xs := by
  refine ⟨h.1, ?_⟩
  rcases h.2 with h2 | ⟨g, cap, cur, hv, hb, hg, hr⟩
  · exact .inl h2
  · exact .inr ⟨g, cap, cur, hv, hb, (hk g (by rw [hv]; rfl)).trans hg, hr⟩
theorem own_some' {w : World} {B n c : Nat} {a : Option Addr} {L : List Int} (h : Owns B w (.slice a n c) L) (h0 : 0 < L.length) : ∃ g, a = some ⟨g, 0, none⟩ ∧ B ≤ g ∧ n = L.length ∧ L.length ≤ c ∧ ∀ i, i < L.length → w.cell? ⟨g, i, none⟩ = some (.int .i64 (L.getD i 0)) := by
  have h1 : w.ownsRow B 3 1 (.slice a n c) L.length (L.map (Value.int .i64)) := h
  rcases h.2 with ⟨_, h2⟩ | ⟨g, cap, cur, hv, hb, hg, hc, hr⟩
  · omega
  · injection hv with e1 e2 e3
    subst e1 e2 e3
    refine ⟨g, rfl, hb, rfl, hc, fun i hi => ?_⟩
    rw [h1.cellAt i (by omega), List.getElem?_map, List.getD_eq_getElem?_getD, List.getElem?_eq_getElem hi]
    rfl
theorem own_ge {w : World} {B : Nat} {v : Value} {L : List Int} (h : Owns B w v L) : ∀ j, v.ownBlock = some j → B ≤ j ∧ j < w.heap.size := fun j hj => by
  rcases h.2 with ⟨rfl, _⟩ | ⟨g, cap, cur, rfl, hb, hg, -⟩
  · cases hj
  · have : g = j := by simpa [Value.ownBlock] using hj
    subst this
    refine ⟨hb, ?_⟩
    rcases Nat.lt_or_ge g w.heap.size with hlt | hge
    · exact hlt
    · rw [Array.getElem?_eq_none hge] at hg; cases hg
theorem own_notwalk {w : World} {B g : Nat} {v : Value} {L : List Int} {M : List Value} (h : Owns B w v L) (hg : Blk w g 99 M) : v.ownBlock ≠ some g := fun e => by
  rcases h.2 with ⟨rfl, _⟩ | ⟨g', cap, cur, rfl, hb, hg', -⟩
  · cases e
  · have : g' = g := by simpa [Value.ownBlock] using e
    subst this
    unfold Blk at hg
    rw [hg] at hg'
    injection hg' with h1
    injection h1 with h1 h2
    cases h2
/-- The phases that were copied out of a row are as they were. -/
def Kept (w w' : World) : Prop := ∀ (j : Nat) (cs : Array Value) (fr : Nat × Nat), w.heap[j]? = some (Obj.cells cs 49 fr) → w'.heap[j]? = w.heap[j]?
theorem Kept.refl (w : World) : Kept w w := fun _ _ _ _ => rfl
theorem Kept.below {w w' : World} (b : Below w.heap.size w w') : Kept w w' := fun j cs fr h => b.block j (by
  rcases Nat.lt_or_ge j w.heap.size with hlt | hge
  · exact hlt
  · rw [Array.getElem?_eq_none hge] at h; cases h)
theorem Kept.trans {u v w : World} (h : Kept u v) (k : Kept v w) : Kept u w := fun j cs fr e => (k j cs fr ((h j cs fr e).trans e)).trans (h j cs fr e)
theorem Kept.grown {w w' : World} {B : Nat} {v : Value} {L : List Int} (h : Owns B w v L) (hg : w.grownBy w' v.ownBlock) : Kept w w' := fun j cs fr e => hg.block j (by
  rcases Nat.lt_or_ge j w.heap.size with hlt | hge
  · exact hlt
  · rw [Array.getElem?_eq_none hge] at e; cases e) (fun hj => by
  rcases h.2 with ⟨rfl, _⟩ | ⟨g', cap, cur, rfl, hb, hg', -⟩
  · cases hj
  · have : j = g' := by simpa [Value.ownBlock] using hj
    subst this
    rw [e] at hg'
    injection hg' with h1
    injection h1 with h1 h2
    cases h2)
theorem Kept.set {w : World} {g : Nat} {L : List Value} (h : Blk w g 99 L) (i : Nat) (v : Value) : Kept w (w.setCell ⟨g, i, none⟩ v) := fun j cs fr e => ((Only.refl g w).set i v).block j (by
  rcases Nat.lt_or_ge j w.heap.size with hlt | hge
  · exact hlt
  · rw [Array.getElem?_eq_none hge] at e; cases e) (fun hj => by
  subst hj
  unfold Blk at h
  rw [e] at h
  injection h with h1
  injection h1 with h1 h2
  cases h2)
theorem Kept.blk {w w' : World} {c : Nat} {L : List Value} (h : Kept w w') (k : Blk w c 49 L) : Blk w' c 49 L := by
  unfold Blk at k ⊢
  exact (h _ _ _ k).trans k
/-- What the lanes carry is laid anew. -/
theorem WkAt.lay {Q : Nat → Prop} {B B' g : Nat} {w w2 : World} {k : Wk} {v : Value} {X : List Int} (h : WkAt Q B w g k) (hQ : ∀ j, Q j → j < B) (b : Below w.heap.size w w2) (ho : Owns B' w2 v X) (hB' : w.heap.size ≤ B') :
    WkAt Q B (w2.setCell ⟨g, 2, none⟩ v) g { k with xs := X } ∧ Below B w (w2.setCell ⟨g, 2, none⟩ v) := by
  obtain ⟨rv, xv, dv, hg, hB, hr, hx, hd, ha⟩ := h
  have hgl : g < w.heap.size := Blk.lt hg
  have o := (Only.refl g w2).set 2 v
  have hBw : B ≤ w.heap.size := by omega
  refine ⟨⟨rv, v, dv, Blk.set (hg.below b) 2 v, hB, (hr.below b).stays fun j hj hl => o.block j hl (by have := hQ j hj; omega), ?_, ?_, ?_⟩, (b.mono hBw).setCell (by exact hB) _⟩
  · refine own_keep (own_mono ho (by omega)) fun j hj => o.block j (own_ge ho j hj).2 (by have := (own_ge ho j hj).1; omega)
  · have hd2 := hd.below b (Nat.le_refl _)
    exact own_keep hd2 fun j hj => o.block j (own_ge hd2 j hj).2 (fun e => own_notwalk hd2 (hg.below b) (e ▸ hj))
  · rcases hv : v.ownBlock with _ | j
    · exact .inl rfl
    · refine .inr fun e => ?_
      have h1 := (own_ge ho j hv).1
      have h2 := (own_ge hd j e.symm).2
      omega
theorem laned_bytes (k : Wk) (p : Ph) (hb : 0 < p.2.1.length) : k.laned p = { k with xs := outL (p.2.1.getD (k.gone / bcI p.1) 0) p.1 } := by unfold Wk.laned; rw [if_neg (by omega)]
theorem inW_one (p : Ph) (g : Nat) (hb : 0 < p.2.1.length) (h : p.1 = 1) : inW p g = 14 + (outL (p.2.1.getD (g / bcI p.1) 0) p.1).getD (g % bcI p.1) 0 := by unfold inW; rw [if_neg (by omega), if_pos h]
theorem inW_four (p : Ph) (g : Nat) (hb : 0 < p.2.1.length) (h : p.1 = 4) : inW p g = (outL (p.2.1.getD (g / bcI p.1) 0) p.1).getD (g % bcI p.1) 0 := by unfold inW; rw [if_neg (by omega), if_neg (by rw [h]; decide)]
theorem cell_set {w : World} {g j : Nat} {v x : Value} (h : w.cell? ⟨g, j, none⟩ = some x) : (w.setCell ⟨g, j, none⟩ v).cell? ⟨g, j, none⟩ = some v := World.cell?_setCell_same _ _ _ h
/-- A number was laid behind what the lanes carried. -/
theorem WkAt.more {Q : Nat → Prop} {B g gx cap n : Nat} {w w3 : World} {k : Wk} {rv xv dv : Value} {x : Int} (o : Obj) (hQ : ∀ j, Q j → j < B) (hg : Blk w g 99 [rv, .int .i64 (k.gone : Int), xv, dv]) (hB : B ≤ g) (hr : PIn Q w rv k.rest) (hx : Owns B w xv k.xs) (hd : Owns B w dv k.read) (ha : xv.ownBlock = none ∨ xv.ownBlock ≠ dv.ownBlock)
    (hown : w3.ownsRow B 3 1 (.slice (some ⟨gx, 0, none⟩) n cap) n (k.xs.map (Value.int .i64) ++ [.int .i64 x])) (hn : n = k.xs.length + 1) (hgr : (w.alloc o).grownBy w3 xv.ownBlock) (hat : xv.ownBlock = some gx ∨ gx = w.heap.size + 1) :
    WkAt Q B (w3.setCell ⟨g, 2, none⟩ (.slice (some ⟨gx, 0, none⟩) n cap)) g { k with xs := k.xs ++ [x] } ∧ Below B w (w3.setCell ⟨g, 2, none⟩ (.slice (some ⟨gx, 0, none⟩) n cap)) ∧ Blk w3 g 99 [rv, .int .i64 (k.gone : Int), xv, dv] ∧ Kept w (w3.setCell ⟨g, 2, none⟩ (.slice (some ⟨gx, 0, none⟩) n cap)) := by
  have hgl : g < w.heap.size := Blk.lt hg
  have hsz : (w.alloc o).heap.size = w.heap.size + 1 := by simp
  have ha1 : Blk (w.alloc o) g 99 [rv, .int .i64 (k.gone : Int), xv, dv] := hg.alloc o
  have hg3 : Blk w3 g 99 [rv, .int .i64 (k.gone : Int), xv, dv] := by
    unfold Blk at ha1 ⊢
    rw [hgr.block g (by omega) (fun e => own_notwalk hx hg e.symm)]
    exact ha1
  have b1 : Below w.heap.size w (w.alloc o) := below_new w o
  have hxB : ∀ j, xv.ownBlock = some j → B ≤ j := fun j hj => (own_ge hx j hj).1
  have b2 : Below B w w3 := (b1.mono (by omega)).grown hgr (by omega) hxB
  have hsz3 := hgr.size
  have hd1 : Owns B (w.alloc o) dv k.read := hd.below b1 (Nat.le_refl _)
  have hd3 : Owns B w3 dv k.read := World.ownsRow.kept hd1 hgr (by
    rcases ha with h | h
    · rw [h]; rcases hv : dv.ownBlock with _ | j
      · exact .inl rfl
      · exact .inr (by simp)
    · exact .inr (Ne.symm h))
  have hs : Stays Q w w3 := fun j hj hl => b2.block j (hQ j hj)
  have on := (Only.refl g w3).set 2 (.slice (some ⟨gx, 0, none⟩) n cap)
  have ho : Owns B w3 (.slice (some ⟨gx, 0, none⟩) n cap) (k.xs ++ [x]) := by
    unfold Owns
    rw [List.map_append, List.length_append]
    show w3.ownsRow B 3 1 _ (k.xs.length + 1) _
    rw [← hn]; exact hown
  refine ⟨⟨rv, _, dv, Blk.set hg3 2 _, hB, (hr.stays hs).stays fun j hj hl => on.block j hl (by have := hQ j hj; omega), ?_, ?_, ?_⟩, b2.setCell (by exact hB) _, hg3, (Kept.below b1).trans ((Kept.grown (show Owns B (w.alloc o) xv k.xs from hx.below b1 (Nat.le_refl _)) hgr).trans (Kept.set hg3 2 _))⟩
  · exact own_keep ho fun j hj => on.block j (own_ge ho j hj).2 (fun e => own_notwalk ho hg3 (e ▸ hj))
  · exact own_keep hd3 fun j hj => on.block j (own_ge hd3 j hj).2 (fun e => own_notwalk hd3 hg3 (e ▸ hj))
  · refine .inr fun e => ?_
    have e' : dv.ownBlock = some gx := e.symm
    rcases hat with h | h
    · rcases ha with h2 | h2
      · rw [h] at h2; cases h2
      · exact h2 (h.trans e)
    · have := (own_ge hd gx e').2; omega
/-- A byte was laid behind what came whole. -/
theorem WkAt.byte {Q : Nat → Prop} {B g gx cap n : Nat} {w w3 : World} {k : Wk} {rv xv dv : Value} {x : Int} (o : Obj) (hQ : ∀ j, Q j → j < B) (hg : Blk w g 99 [rv, .int .i64 (k.gone : Int), xv, dv]) (hB : B ≤ g) (hr : PIn Q w rv k.rest) (hx : Owns B w xv k.xs) (hd : Owns B w dv k.read) (ha : xv.ownBlock = none ∨ xv.ownBlock ≠ dv.ownBlock)
    (hown : w3.ownsRow B 3 1 (.slice (some ⟨gx, 0, none⟩) n cap) n (k.read.map (Value.int .i64) ++ [.int .i64 x])) (hn : n = k.read.length + 1) (hgr : (w.alloc o).grownBy w3 dv.ownBlock) (hat : dv.ownBlock = some gx ∨ gx = w.heap.size + 1) :
    WkAt Q B (w3.setCell ⟨g, 3, none⟩ (.slice (some ⟨gx, 0, none⟩) n cap)) g { k with read := k.read ++ [x] } ∧ Below B w (w3.setCell ⟨g, 3, none⟩ (.slice (some ⟨gx, 0, none⟩) n cap)) ∧ Blk w3 g 99 [rv, .int .i64 (k.gone : Int), xv, dv] ∧ Kept w (w3.setCell ⟨g, 3, none⟩ (.slice (some ⟨gx, 0, none⟩) n cap)) := by
  have hgl : g < w.heap.size := Blk.lt hg
  have hsz : (w.alloc o).heap.size = w.heap.size + 1 := by simp
  have ha1 : Blk (w.alloc o) g 99 [rv, .int .i64 (k.gone : Int), xv, dv] := hg.alloc o
  have hg3 : Blk w3 g 99 [rv, .int .i64 (k.gone : Int), xv, dv] := by
    unfold Blk at ha1 ⊢
    rw [hgr.block g (by omega) (fun e => own_notwalk hd hg e.symm)]
    exact ha1
  have b1 : Below w.heap.size w (w.alloc o) := below_new w o
  have hxB : ∀ j, dv.ownBlock = some j → B ≤ j := fun j hj => (own_ge hd j hj).1
  have b2 : Below B w w3 := (b1.mono (by omega)).grown hgr (by omega) hxB
  have hsz3 := hgr.size
  have hd1 : Owns B (w.alloc o) xv k.xs := hx.below b1 (Nat.le_refl _)
  have hd3 : Owns B w3 xv k.xs := World.ownsRow.kept hd1 hgr ha
  have hs : Stays Q w w3 := fun j hj hl => b2.block j (hQ j hj)
  have on := (Only.refl g w3).set 3 (.slice (some ⟨gx, 0, none⟩) n cap)
  have ho : Owns B w3 (.slice (some ⟨gx, 0, none⟩) n cap) (k.read ++ [x]) := by
    unfold Owns
    rw [List.map_append, List.length_append]
    show w3.ownsRow B 3 1 _ (k.read.length + 1) _
    rw [← hn]; exact hown
  refine ⟨⟨rv, xv, _, Blk.set hg3 3 _, hB, (hr.stays hs).stays fun j hj hl => on.block j hl (by have := hQ j hj; omega), ?_, ?_, ?_⟩, b2.setCell (by exact hB) _, hg3, (Kept.below b1).trans ((Kept.grown (show Owns B (w.alloc o) dv k.read from hd.below b1 (Nat.le_refl _)) hgr).trans (Kept.set hg3 3 _))⟩
  · exact own_keep hd3 fun j hj => on.block j (own_ge hd3 j hj).2 (fun e => own_notwalk hd3 hg3 (e ▸ hj))
  · exact own_keep ho fun j hj => on.block j (own_ge ho j hj).2 (fun e => own_notwalk ho hg3 (e ▸ hj))
  · rcases hv : xv.ownBlock with _ | j
    · exact .inl rfl
    · refine .inr fun e => ?_
      have e' : j = gx := by simpa [Value.ownBlock] using e
      subst e'
      rcases hat with h | h
      · rcases ha with h2 | h2
        · rw [hv] at h2; cases h2
        · exact h2 (hv.trans h.symm)
      · have := (own_ge hx j hv).2; omega
/-- What the lanes carried is forgotten, the room stays. -/
theorem WkAt.forget {Q : Nat → Prop} {B g : Nat} {w : World} {k : Wk} {rv xv dv : Value} {v : Value} (hQ : ∀ j, Q j → j < B) (hg : Blk w g 99 [rv, .int .i64 (k.gone : Int), xv, dv]) (hB : B ≤ g) (hr : PIn Q w rv k.rest) (hx : Owns B w v []) (hd : Owns B w dv k.read) (ha : v.ownBlock = none ∨ v.ownBlock ≠ dv.ownBlock) :
    WkAt Q B (w.setCell ⟨g, 2, none⟩ v) g { k with xs := [] } ∧ Below B w (w.setCell ⟨g, 2, none⟩ v) ∧ Kept w (w.setCell ⟨g, 2, none⟩ v) := by
  have hgl : g < w.heap.size := Blk.lt hg
  have on := (Only.refl g w).set 2 v
  refine ⟨⟨rv, v, dv, Blk.set hg 2 _, hB, hr.stays fun j hj hl => on.block j hl (by have := hQ j hj; omega), ?_, ?_, ha⟩, (Below.refl B w).setCell (by exact hB) _, Kept.set hg 2 v⟩
  · exact own_keep hx fun j hj => on.block j (own_ge hx j hj).2 (fun e => own_notwalk hx hg (e ▸ hj))
  · exact own_keep hd fun j hj => on.block j (own_ge hd j hj).2 (fun e => own_notwalk hd hg (e ▸ hj))
/-- The clocks that are over are told anew. -/
theorem WkAt.tick {Q : Nat → Prop} {B g m : Nat} {w : World} {k : Wk} (hQ : ∀ j, Q j → j < B) (h : WkAt Q B w g k) :
    WkAt Q B (w.setCell ⟨g, 1, none⟩ (.int .i64 (m : Int))) g { k with gone := m } ∧ Below B w (w.setCell ⟨g, 1, none⟩ (.int .i64 (m : Int))) ∧ Kept w (w.setCell ⟨g, 1, none⟩ (.int .i64 (m : Int))) := by
  obtain ⟨rv, xv, dv, hg, hB, hr, hx, hd, ha⟩ := h
  have on := (Only.refl g w).set 1 (.int .i64 (m : Int))
  refine ⟨⟨rv, xv, dv, Blk.set hg 1 _, hB, hr.stays fun j hj hl => on.block j hl (by have := hQ j hj; omega), ?_, ?_, ha⟩, (Below.refl B w).setCell (by exact hB) _, Kept.set hg 1 _⟩
  · exact own_keep hx fun j hj => on.block j (own_ge hx j hj).2 (fun e => own_notwalk hx hg (e ▸ hj))
  · exact own_keep hd fun j hj => on.block j (own_ge hd j hj).2 (fun e => own_notwalk hd hg (e ▸ hj))
/-- The next phase is under way. -/
theorem WkAt.next {Q : Nat → Prop} {B g gr o n cap cap' gr' o' : Nat} {w : World} {k : Wk} {p : Ph} (hQ : ∀ j, Q j → j < B) (h : WkAt Q B w g k) (hp : k.rest = p :: k.rest.tail) (hn : k.rest.tail.length = n) (hc : w.cell? ⟨g, 0, none⟩ = some (.slice (some ⟨gr, o, none⟩) (n + 1) cap)) (h1 : n ≤ cap') (ha : 0 < n → gr' = gr ∧ o' = o + 4) :
    WkAt Q B (((w.setCell ⟨g, 0, none⟩ (.slice (some ⟨gr', o', none⟩) n cap')).setCell ⟨g, 1, none⟩ (.int .i64 0)).setCell ⟨g, 2, none⟩ (.slice none 0 0)) g { k with rest := k.rest.tail, gone := 0, xs := [] } ∧ Below B w (((w.setCell ⟨g, 0, none⟩ (.slice (some ⟨gr', o', none⟩) n cap')).setCell ⟨g, 1, none⟩ (.int .i64 0)).setCell ⟨g, 2, none⟩ (.slice none 0 0)) := by
  obtain ⟨rv, xv, dv, hg, hB, hr, hx, hd, ha'⟩ := h
  obtain rfl : rv = _ := Option.some.inj ((Blk.cell hg 0 rfl).symm.trans hc)
  rw [hp] at hr
  have ht := PIn.tail hr h1 hn gr' o' ha
  have on := (((Only.refl g w).set 0 (.slice (some ⟨gr', o', none⟩) n cap')).set 1 (.int .i64 0)).set 2 (.slice none 0 0)
  refine ⟨⟨_, _, dv, Blk.set (Blk.set (Blk.set hg 0 _) 1 _) 2 _, hB, ht.stays fun j hj hl => on.block j hl (by have := hQ j hj; omega), World.ownsRow_nil _ _ _ _, ?_, .inl rfl⟩, (((Below.refl B w).setCell (by exact hB) _).setCell (by exact hB) _).setCell (by exact hB) _⟩
  exact own_keep hd fun j hj => on.block j (own_ge hd j hj).2 (fun e => own_notwalk hd hg (e ▸ hj))
theorem tmod_nat (a b : Nat) : ((a : Int)).tmod (b : Int) = ((a % b : Nat) : Int) := by rw [Int.tmod_eq_emod_of_nonneg (by omega)]; rfl
theorem or_14z (z : Int) (h : 0 ≤ z ∧ z < 2) : bits .or .i64 14 z = 14 + z := by
  rcases (show z = 0 ∨ z = 1 by omega) with rfl | rfl <;> decide
theorem out_bit (b : Int) (i : Nat) : 0 ≤ (outL b 1).getD i 0 ∧ (outL b 1).getD i 0 < 2 := by
  unfold outL
  split
  · rw [if_pos rfl]
    rcases Nat.lt_or_ge i 8 with h | h
    · have : ∀ x ∈ ones b, 0 ≤ x ∧ x < 2 := by simp [ones]; omega
      rw [List.getD_eq_getElem?_getD, List.getElem?_eq_getElem (by exact h)]
      exact this _ (List.getElem_mem _)
    · rw [List.getD_eq_getElem?_getD, List.getElem?_eq_none (by exact h)]; simp
  · simp
theorem out_half (b : Int) (i : Nat) : 0 ≤ (outL b 4).getD i 0 ∧ (outL b 4).getD i 0 < 16 := by
  unfold outL
  split
  · rw [if_neg (by decide)]
    rcases Nat.lt_or_ge i 2 with h | h
    · have : ∀ x ∈ fours b, 0 ≤ x ∧ x < 16 := by simp [fours]; omega
      rw [List.getD_eq_getElem?_getD, List.getElem?_eq_getElem (by exact h)]
      exact this _ (List.getElem_mem _)
    · rw [List.getD_eq_getElem?_getD, List.getElem?_eq_none (by exact h)]; simp
  · simp
theorem quo_run (a b q : Nat) (hb : 0 < b) (hq : q = a / b) (hs : q ≤ 1000000000) : Op.intDiv .quo .i64 (a : Int) (b : Int) = pure (.int .i64 (q : Int)) := by
  have h1 : ((a : Int)).tdiv (b : Int) = ((a / b : Nat) : Int) := by rw [Int.tdiv_eq_ediv_of_nonneg (by omega)]; rfl
  have h2 := wrap_small' q hs
  have h3 : ¬ ((b : Int) = 0) := by omega
  unfold Op.intDiv
  rw [if_neg h3, h1, ← hq]
  show pure (Value.int .i64 (IntKind.i64.wrap (q : Int))) = _
  rw [h2]
theorem rem_run (a b : Nat) (hb : 0 < b) : Op.intDiv .rem .i64 (a : Int) (b : Int) = pure (.int .i64 ((a % b : Nat) : Int)) := by
  have h1 : ((a : Int)).tmod (b : Int) = ((a % b : Nat) : Int) := by rw [Int.tmod_eq_emod_of_nonneg (by omega)]; rfl
  have h3 : ¬ ((b : Int) = 0) := by omega
  unfold Op.intDiv
  rw [if_neg h3, h1]
theorem tdiv_nat (a b : Nat) : ((a : Int)).tdiv (b : Int) = ((a / b : Nat) : Int) := by rw [Int.tdiv_eq_ediv_of_nonneg (by omega)]; rfl
theorem WkAt.below {Q : Nat → Prop} {B g : Nat} {k : Wk} {w w' : World} (h : WkAt Q B w g k) (b : Below w.heap.size w w') : WkAt Q B w' g k := by
  obtain ⟨rv, xv, dv, hg, hB, hr, hx, hd, ha⟩ := h
  exact ⟨rv, xv, dv, hg.below b, hB, hr.below b, hx.below b (Nat.le_refl _), hd.below b (Nat.le_refl _), ha⟩
end Go.Proofs.YtjhjghakfedeeaaGreat
end

/-! A row of phases clock by clock: plain facts. Nothing of the program is named. -/
section
namespace Go.Proofs.YtjhjghakfedeeaaGreat
open Go.RowKit Plain
set_option linter.unusedVariables false

def hearF (l : Int) (s : List Int × List Int) (y : Nat) : List Int × List Int :=
  if (s.1 ++ [bitV l y]).length < bcI l then (s.1 ++ [bitV l y], s.2) else ([], s.2 ++ [inV (s.1 ++ [bitV l y]) l])
/-- What is heard of a byte under way, and the bytes that came whole. -/
def hrd (l : Int) (Y : List Nat) : List Int × List Int := Y.foldl (hearF l) ([], [])
def xsOf (p : Ph) (Y : List Nat) : List Int := if p.2.1.length = 0 then (if 0 < p.2.2.2 then (hrd p.1 Y).1 else []) else if Y.length = 0 then [] else outL (p.2.1.getD ((Y.length - 1) / bcI p.1) 0) p.1
def rdOf (p : Ph) (Y : List Nat) : List Int := if 0 < p.2.2.2 then (hrd p.1 Y).2 else []
/-- The bytes of a row that came whole, where the chip said Y. -/
def rdR : List Ph → List Nat → List Int
  | [], _ => []
  | p :: ps, Y => rdOf p (Y.take (nP p)) ++ rdR ps (Y.drop (nP p))
/-- How far a row has come, where the chip said Y. -/
def wkOf : List Ph → List Nat → Wk
  | [], _ => ⟨[], 0, [], []⟩
  | p :: ps, Y => if Y.length < nP p then ⟨p :: ps, Y.length, xsOf p Y, rdOf p Y⟩ else { wkOf ps (Y.drop (nP p)) with read := rdOf p (Y.take (nP p)) ++ (wkOf ps (Y.drop (nP p))).read }
/-- What goes onto the lanes, clock by clock. -/
def inN (p : Ph) (g : Nat) : Nat := (inW p g).toNat
def insP (p : Ph) : List Nat := (List.range (nP p)).map (inN p)
def insR (ps : List Ph) : List Nat := ps.flatMap insP
theorem insP_length (p : Ph) : (insP p).length = nP p := by simp [insP]
theorem insR_cons (p : Ph) (ps : List Ph) : insR (p :: ps) = insP p ++ insR ps := by simp [insR]
theorem insR_length (ps : List Ph) : (insR ps).length = nR ps := by
  induction ps with
  | nil => rfl
  | cons p ps ih => rw [insR_cons, List.length_append, ih, insP_length, nR_cons]
theorem hrd_snoc (l : Int) (Y : List Nat) (y : Nat) : hrd l (Y ++ [y]) = hearF l (hrd l Y) y := by unfold hrd; rw [List.foldl_append]; rfl
theorem snoc_ind {P : List Nat → Prop} (h0 : P []) (h1 : ∀ Y y, P Y → P (Y ++ [y])) (Y : List Nat) : P Y := by
  have : ∀ Z : List Nat, P Z.reverse := fun Z => by
    induction Z with
    | nil => exact h0
    | cons z Z ih => rw [List.reverse_cons]; exact h1 _ _ ih
  have h := this Y.reverse
  rw [List.reverse_reverse] at h
  exact h
theorem hearF_len {l : Int} (hl : l = 1 ∨ l = 4) (s : List Int × List Int) (y n : Nat) (h : s.1.length = n % bcI l) : (hearF l s y).1.length = (n + 1) % bcI l := by
  unfold hearF
  rw [List.length_append, h]
  split
  · rename_i h1
    show (s.1 ++ [bitV l y]).length = _
    rw [List.length_append, h]
    change n % bcI l + 1 < bcI l at h1
    show n % bcI l + 1 = _
    rcases hl with rfl | rfl
    · rw [bc_one] at *; omega
    · rw [bc_four] at *; omega
  · rename_i h1
    change ¬ (n % bcI l + 1 < bcI l) at h1
    show 0 = _
    rcases hl with rfl | rfl
    · rw [bc_one] at *; omega
    · rw [bc_four] at *; omega
theorem hrd_len {l : Int} (hl : l = 1 ∨ l = 4) (Y : List Nat) : (hrd l Y).1.length = Y.length % bcI l := by
  refine snoc_ind (P := fun Y => (hrd l Y).1.length = Y.length % bcI l) ?_ ?_ Y
  · simp [hrd]
  · intro Y y ih
    rw [hrd_snoc, List.length_append]
    exact hearF_len hl _ y _ ih
theorem xsOf_nil (p : Ph) : xsOf p [] = [] := by
  unfold xsOf
  rw [if_pos (show ([] : List Nat).length = 0 from rfl)]
  split
  · split <;> rfl
  · rfl
theorem rdOf_nil (p : Ph) : rdOf p [] = [] := by unfold rdOf; split <;> rfl
theorem wkOf_nil {ps : List Ph} (h : okR ps = true) : wkOf ps [] = ⟨ps, 0, [], []⟩ := by
  cases ps with
  | nil => rfl
  | cons p ps =>
    rw [okR_cons, Bool.and_eq_true] at h
    unfold wkOf
    rw [if_pos (by exact (nP_pos h.1).1), xsOf_nil, rdOf_nil]
    rfl
theorem inN_eq {p : Ph} {g : Nat} (hp : okP p = true) : ((inN p g : Nat) : Int) = inW p g ∧ inN p g < 16 := by
  have h : 0 ≤ inW p g ∧ inW p g < 16 := by
    unfold inW
    split
    · omega
    · split
      · rename_i h1
        rw [h1]
        have := out_bit (p.2.1.getD (g / bcI 1) 0) (g % bcI 1)
        omega
      · rename_i h0 h1
        have h4 : p.1 = 4 := by
          rcases okP_cases hp with ⟨_, _, _, h, _⟩ | ⟨h, _⟩ | ⟨h, _⟩
          · rcases h with h | h
            · exact absurd h h1
            · exact h
          · rw [h] at h0; exact absurd rfl h0
          · rw [h] at h0; exact absurd rfl h0
        rw [h4]
        exact out_half _ _
  unfold inN
  omega
theorem laned_gone (k : Wk) (p : Ph) : (k.laned p).gone = k.gone := by unfold Wk.laned; split <;> rfl
theorem laned_rest (k : Wk) (p : Ph) : (k.laned p).rest = k.rest := by unfold Wk.laned; split <;> rfl
theorem laned_read (k : Wk) (p : Ph) : (k.laned p).read = k.read := by unfold Wk.laned; split <;> rfl
/-- What came whole before changes nothing. -/
theorem stepped_read (k : Wk) (p : Ph) (y : Nat) (R : List Int) : (({ k with read := R ++ k.read } : Wk).laned p).stepped p y = { (k.laned p).stepped p y with read := R ++ ((k.laned p).stepped p y).read } := by
  have e1 : ({ k with read := R ++ k.read } : Wk).laned p = { k.laned p with read := R ++ (k.laned p).read } := by
    unfold Wk.laned; split <;> rfl
  rw [e1]
  obtain ⟨K, hK⟩ : ∃ K, k.laned p = K := ⟨_, rfl⟩
  rw [hK]
  unfold Wk.stepped
  split
  · have e2 : ({ K with read := R ++ K.read } : Wk).heard p.1 y = { K.heard p.1 y with read := R ++ (K.heard p.1 y).read } := by
      unfold Wk.heard; split
      · rfl
      · simp [List.append_assoc]
    rw [e2]
    unfold Wk.ended; split <;> rfl
  · unfold Wk.ended; split <;> rfl
/-- One clock more within a phase. -/
theorem step_in (p : Ph) (ps : List Ph) (Y : List Nat) (y : Nat) (hp : okP p = true) (hlt : Y.length < nP p) :
    ((⟨p :: ps, Y.length, xsOf p Y, rdOf p Y⟩ : Wk).laned p).stepped p y = if Y.length + 1 = nP p then ⟨ps, 0, [], rdOf p (Y ++ [y])⟩ else ⟨p :: ps, Y.length + 1, xsOf p (Y ++ [y]), rdOf p (Y ++ [y])⟩ := by
  rcases okP_cases hp with ⟨h1, h2, h3, h4, h5, h6⟩ | ⟨h1, h2, h3, h4, h5⟩ | ⟨h1, h2, h3, h4, h5⟩
  · have hr : ¬ (0 < p.2.2.2) := by omega
    have hb : ¬ (p.2.1.length = 0) := by omega
    have e1 : rdOf p Y = [] := by unfold rdOf; rw [if_neg hr]
    have e2 : rdOf p (Y ++ [y]) = [] := by unfold rdOf; rw [if_neg hr]
    have e3 : xsOf p (Y ++ [y]) = outL (p.2.1.getD (Y.length / bcI p.1) 0) p.1 := by
      unfold xsOf; rw [if_neg hb, if_neg (by simp)]; simp
    rw [e1, e2, e3]
    unfold Wk.laned Wk.stepped Wk.ended
    rw [if_neg hr, if_neg hb]
    split <;> rfl
  · have hr : ¬ (0 < p.2.2.2) := by omega
    have hb : p.2.1.length = 0 := by rw [h1]; rfl
    have e1 : ∀ Y, rdOf p Y = [] := fun Y => by unfold rdOf; rw [if_neg hr]
    have e2 : ∀ Y, xsOf p Y = [] := fun Y => by unfold xsOf; rw [if_pos hb, if_neg hr]
    rw [e1, e1, e2, e2]
    unfold Wk.laned Wk.stepped Wk.ended
    rw [if_neg hr, if_pos hb]
    split <;> rfl
  · have hb : p.2.1.length = 0 := by rw [h1]; rfl
    have e1 : ∀ Y, rdOf p Y = (hrd p.1 Y).2 := fun Y => by unfold rdOf; rw [if_pos h4]
    have e2 : ∀ Y, xsOf p Y = (hrd p.1 Y).1 := fun Y => by unfold xsOf; rw [if_pos hb, if_pos h4]
    rw [e1, e1, e2, e2, hrd_snoc]
    unfold Wk.laned Wk.stepped
    rw [if_pos h4, if_pos hb]
    unfold Wk.heard hearF Wk.ended
    split
    · show (if Y.length + 1 = nP p then _ else _ : Wk) = _
      split <;> rfl
    · show (if Y.length + 1 = nP p then _ else _ : Wk) = _
      split <;> rfl
theorem wk_step : ∀ {ps : List Ph} {Y : List Nat}, okR ps = true → Y.length < nR ps → ∃ p, p ∈ ps ∧ (wkOf ps Y).Fine p ∧ (insR ps)[Y.length]? = some (inN p (wkOf ps Y).gone) ∧ ∀ y, wkOf ps (Y ++ [y]) = ((wkOf ps Y).laned p).stepped p y
  | [], Y, _, h => by simp [nR] at h
  | p :: ps, Y, hok, h => by
    rw [okR_cons, Bool.and_eq_true] at hok
    have hpos := nP_pos hok.1
    by_cases hlt : Y.length < nP p
    · have e1 : wkOf (p :: ps) Y = ⟨p :: ps, Y.length, xsOf p Y, rdOf p Y⟩ := by unfold wkOf; rw [if_pos hlt]
      refine ⟨p, List.mem_cons_self, ?_, ?_, fun y => ?_⟩
      · rw [e1]
        refine ⟨rfl, hok.1, hlt, fun hb hz => ?_, fun hr => ?_⟩
        · show xsOf p Y = _
          change Y.length % bcI p.1 ≠ 0 at hz
          rcases okP_cases hok.1 with ⟨_, _, _, h4, _⟩ | ⟨h1, _⟩ | ⟨h1, _⟩
          · unfold xsOf
            rw [if_neg (by omega), if_neg (by intro e; rw [e] at hz; simp at hz)]
            have : (Y.length - 1) / bcI p.1 = Y.length / bcI p.1 := by
              rcases h4 with h4 | h4
              · rw [h4, bc_one] at hz ⊢; omega
              · rw [h4, bc_four] at hz ⊢; omega
            rw [this]
          · rw [h1] at hb; simp at hb
          · rw [h1] at hb; simp at hb
        · show (xsOf p Y).length = Y.length % bcI p.1
          rcases okP_cases hok.1 with ⟨_, _, _, _, _, h0⟩ | ⟨_, _, _, _, h0⟩ | ⟨h0, h1, _⟩
          · omega
          · omega
          · unfold xsOf
            rw [if_pos (by rw [h0]; rfl), if_pos hr]
            exact hrd_len h1 Y
      · rw [e1, insR_cons, List.getElem?_append_left (by rw [insP_length]; exact hlt)]
        show (insP p)[Y.length]? = _
        simp [insP, hlt]
      · rw [e1, step_in p ps Y y hok.1 hlt]
        unfold wkOf
        rw [List.length_append]
        show (if Y.length + 1 < nP p then _ else _) = _
        by_cases hend : Y.length + 1 = nP p
        · rw [if_neg (by omega), if_pos hend]
          have e2 : (Y ++ [y]).drop (nP p) = [] := List.drop_eq_nil_of_le (by rw [List.length_append]; show Y.length + 1 ≤ _; omega)
          have e3 : (Y ++ [y]).take (nP p) = Y ++ [y] := List.take_of_length_le (by rw [List.length_append]; show Y.length + 1 ≤ _; omega)
          rw [e2, e3, wkOf_nil hok.2]
          show Wk.mk ps 0 [] (rdOf p (Y ++ [y]) ++ []) = _
          rw [List.append_nil]
        · rw [if_pos (by omega), if_neg hend]
          rfl
    · have hge : nP p ≤ Y.length := by omega
      have e1 : wkOf (p :: ps) Y = { wkOf ps (Y.drop (nP p)) with read := rdOf p (Y.take (nP p)) ++ (wkOf ps (Y.drop (nP p))).read } := by rw [wkOf, if_neg hlt]
      have hl2 : (Y.drop (nP p)).length < nR ps := by rw [List.length_drop]; rw [nR_cons] at h; omega
      obtain ⟨q, hq, hf, hi, hs⟩ := wk_step hok.2 hl2
      refine ⟨q, List.mem_cons_of_mem _ hq, ?_, ?_, fun y => ?_⟩
      · rw [e1]
        exact ⟨hf.rest, hf.ok, hf.gone, hf.bytes, hf.came⟩
      · rw [e1, insR_cons, List.getElem?_append_right (by rw [insP_length]; exact hge), insP_length]
        rw [List.length_drop] at hi
        exact hi
      · rw [e1, stepped_read, ← hs y]
        have e2 : (Y ++ [y]).drop (nP p) = Y.drop (nP p) ++ [y] := List.drop_append_of_le_length hge
        have e3 : (Y ++ [y]).take (nP p) = Y.take (nP p) := List.take_append_of_le_length hge
        rw [wkOf, if_neg (by rw [List.length_append]; omega), e2, e3]
/-- The bytes that came whole. -/
theorem wk_read : ∀ (ps : List Ph) (Y : List Nat), Y.length ≤ nR ps → okR ps = true → (wkOf ps Y).read = rdR ps Y
  | [], Y, _, _ => rfl
  | p :: ps, Y, h, hok => by
    rw [okR_cons, Bool.and_eq_true] at hok
    unfold wkOf rdR
    split
    · rename_i hlt
      show rdOf p Y = _
      rw [List.take_of_length_le (by omega), List.drop_eq_nil_of_le (by omega), ← wk_read ps [] (by simp) hok.2, wkOf_nil hok.2, List.append_nil]
    · show _ ++ (wkOf ps (Y.drop (nP p))).read = _
      rw [wk_read ps _ (by rw [List.length_drop]; rw [nR_cons] at h; omega) hok.2]
end Go.Proofs.YtjhjghakfedeeaaGreat
end
