/-
  The controller's registers, its bound, its clocks, and a new one: each call by a contract. Conditions: it lies in memory as told.
-/
import Derived.Test.YtjhjghakfedeeaaGreatCtlLast
namespace Go.Proofs.YtjhjghakfedeeaaGreat
open Go.RowKit Plain
set_option linter.unusedVariables false

def endI (reg : Int) : Int := if reg = 0 then 4096 else if reg = 1 then 4096 else if reg = 2 then 17 else if reg = 4 then 256 else 0
theorem end_any (reg : Int) (w : World) : Calls Tryz.prog 79 #[.int .i64 reg] w fun e w' => e = .returned (.int .i64 (endI reg)) ∧ w = w' := by
  unfold endI
  by_cases h0 : reg = 0
  · subst h0
    go_enter Tryz.func79, Tryz.ntmps79
    go_wp2
    go_ret
    exact ⟨rfl, rfl⟩
  · rw [if_neg h0]
    by_cases h1 : reg = 1
    · subst h1
      go_enter Tryz.func79, Tryz.ntmps79
      go_wp2
      go_ret
      exact ⟨rfl, rfl⟩
    · rw [if_neg h1]
      by_cases h2 : reg = 2
      · subst h2
        go_enter Tryz.func79, Tryz.ntmps79
        go_wp2
        go_ret
        exact ⟨rfl, rfl⟩
      · rw [if_neg h2]
        by_cases h4 : reg = 4
        · subst h4
          go_enter Tryz.func79, Tryz.ntmps79
          go_wp2
          go_ret
          exact ⟨rfl, rfl⟩
        · rw [if_neg h4]
          go_enter Tryz.func79, Tryz.ntmps79
          go_wp2
          go_ret
          exact ⟨rfl, rfl⟩

def K.setR (k : K) (reg x : Int) : K := if reg = 0 then { k with r0 := x } else if reg = 1 then { k with r1 := x } else { k with r2 := x }
def K.wr (k : K) (reg x : Int) : K × Int := if k.lost = true then (k, 1101) else if x < 0 ∨ endI reg ≤ x then (k, 1100) else if reg = 4 then ({ k with tx := pushL k.tx x }, pushE k.tx) else (k.setR reg x, 0)
theorem K.wr_lost {k : K} (h : k.lost = true) (reg x : Int) : k.wr reg x = (k, 1101) := by unfold K.wr; rw [if_pos h]
theorem K.wr_form {k : K} (h : k.lost = false) {reg x : Int} (hx : x < 0 ∨ endI reg ≤ x) : k.wr reg x = (k, 1100) := by unfold K.wr; rw [if_neg (by rw [h]; decide), if_pos hx]
theorem K.wr_data {k : K} (h : k.lost = false) {x : Int} (h0 : 0 ≤ x) (h1 : x < 256) : k.wr 4 x = ({ k with tx := pushL k.tx x }, pushE k.tx) := by
  unfold K.wr; rw [if_neg (by rw [h]; decide), if_neg (by unfold endI; simp; omega), if_pos rfl]
theorem K.wr_reg {k : K} (h : k.lost = false) {reg x : Int} (hr : reg = 0 ∨ reg = 1 ∨ reg = 2) (h0 : 0 ≤ x) (h1 : x < endI reg) : k.wr reg x = (k.setR reg x, 0) := by
  unfold K.wr; rw [if_neg (by rw [h]; decide), if_neg (by omega), if_neg (by omega)]
theorem end_zero {reg : Int} (h : reg ≠ 0 ∧ reg ≠ 1 ∧ reg ≠ 2 ∧ reg ≠ 4) : endI reg = 0 := by unfold endI; rw [if_neg h.1, if_neg h.2.1, if_neg h.2.2.1, if_neg h.2.2.2]

theorem cwrite_nil (reg x : Int) (w : World) : Calls Tryz.prog 37 #[.pointer none, .int .i64 reg, .int .i64 x] w fun e w' => e = .returned (.int .i64 1) ∧ w = w' := by
  go_enter Tryz.func37, Tryz.ntmps37
  go_wp2
  go_ret
  exact ⟨rfl, rfl⟩
set_option maxRecDepth 100000 in
set_option maxHeartbeats 1600000 in
theorem cwrite_any (n kb bp : Nat) (k : K) (reg x : Int) (w : World) (h : KAt n kb bp w k) :
    Calls Tryz.prog 37 #[.pointer (some ⟨kb, 0, none⟩), .int .i64 reg, .int .i64 x] w fun e w' => e = .returned (.int .i64 (k.wr reg x).2) ∧ KAt n kb bp w' (k.wr reg x).1 ∧ Turns (F2 kb bp) w w' := by
  obtain ⟨R1, f1, R2, f2, lv, ds, B⟩ := h
  have c48 : w.cell? ⟨kb, 48, none⟩ = some (.bool k.lost) := B.lay.tail 8 rfl
  have HB : Hid (KBody n kb bp w k R1 f1 R2 f2 lv ds) := B
  clear B
  obtain hl | hl : k.lost = false ∨ k.lost = true := by cases k.lost <;> simp
  · rw [hl] at c48
    have HEnd : Hid (∀ w, Calls Tryz.prog 79 #[.int .i64 reg] w fun e w' => e = .returned (.int .i64 (endI reg)) ∧ w' = w) := fun w => (end_any reg w).mono fun _ _ ⟨h1, h2⟩ => ⟨h1, h2.symm⟩
    by_cases hx : x < 0 ∨ endI reg ≤ x
    · rw [K.wr_form hl hx]
      obtain h0 | h0 : x < 0 ∨ 0 ≤ x := by omega
      · go_enter Tryz.func37, Tryz.ntmps37
        go_wp2
        go_ret
        exact ⟨rfl, ⟨R1, f1, R2, f2, lv, ds, HB.out⟩, Turns.refl _ _⟩
      · have h1 : endI reg ≤ x := by omega
        obtain ⟨E, hE⟩ : ∃ E, endI reg = E := ⟨_, rfl⟩
        rw [hE] at h1 HEnd
        clear hE hx
        go_enter Tryz.func37, Tryz.ntmps37
        go_wp2_with (go_at_call 79; refine (HEnd.out _).mono ?_; rintro e w1 ⟨rfl, rfl⟩)
        go_ret
        exact ⟨rfl, ⟨R1, f1, R2, f2, lv, ds, HB.out⟩, Turns.refl _ _⟩
    · have h0 : 0 ≤ x := by omega
      have h1 : x < endI reg := by omega
      clear hx
      by_cases h4 : reg = 4
      · subst h4
        have e4 : endI 4 = 256 := rfl
        rw [e4] at h1 HEnd
        rw [K.wr_data hl h0 h1]
        clear e4
        go_enter Tryz.func37, Tryz.ntmps37
        go_wp2_with (first | (go_at_call 79; refine (HEnd.out _).mono ?_; rintro e w1 ⟨rfl, rfl⟩) | (go_at_call 80; refine (push_any kb 4 143 _ _ R1 f1 k.tx x _ HB.out.lay.ring1 HB.out.lay.h1).mono ?_; rintro e w2 ⟨rfl, ⟨R1', f1', q1, q2⟩, o⟩))
        go_ret
        refine ⟨rfl, ⟨R1', f1', R2, f2, lv, ds, HB.out.turn o ⟨q2.blk, q1, HB.out.lay.h2⟩ rfl (fun hm => (HB.out.last hm).turns (F2.only1 o)) rfl HB.out.left HB.out.clocks⟩, F2.only1 o⟩
      · have hr : reg = 0 ∨ reg = 1 ∨ reg = 2 := by
          rcases Classical.em (reg = 0 ∨ reg = 1 ∨ reg = 2) with hr | hr
          · exact hr
          · rw [end_zero ⟨by omega, by omega, by omega, h4⟩] at h1; omega
        rw [K.wr_reg hl hr h0 h1]
        unfold K.setR
        have o : ∀ j v, Only kb w (w.setCell ⟨kb, j, none⟩ v) := fun j v => (Only.refl kb w).set j v
        have HO : Hid (∀ j v, Only kb w (w.setCell ⟨kb, j, none⟩ v)) := o
        rcases hr with rfl | rfl | rfl
        · have e4 : endI 0 = 4096 := rfl
          rw [e4] at h1 HEnd
          have c1 : w.cell? ⟨kb, 1, none⟩ = some (.int .i64 k.r0) := HB.out.lay.head 1 (by decide) rfl
          have f1' := HB.out.lay.frozen 1
          have L : Hid (KLay (w.setCell ⟨kb, 1, none⟩ (.int .i64 x)) kb bp { k with r0 := x } R1 f1 R2 f2 lv) := HB.out.lay.setHead 1 (by decide) _ _ rfl rfl rfl rfl
          clear e4 o hl
          go_enter Tryz.func37, Tryz.ntmps37
          go_wp2_with (first | (go_at_call 79; refine (HEnd.out _).mono ?_; rintro e w1 ⟨rfl, rfl⟩))
          go_ret
          exact ⟨rfl, ⟨R1, f1, R2, f2, lv, ds, HB.out.turn (HO.out _ _) L.out rfl (fun hm => (HB.out.last hm).turns (F2.only1 (HO.out _ _))) rfl HB.out.left HB.out.clocks⟩, F2.only1 (HO.out _ _)⟩
        · have e4 : endI 1 = 4096 := rfl
          rw [e4] at h1 HEnd
          have c1 : w.cell? ⟨kb, 2, none⟩ = some (.int .i64 k.r1) := HB.out.lay.head 2 (by decide) rfl
          have f1' := HB.out.lay.frozen 2
          have L : Hid (KLay (w.setCell ⟨kb, 2, none⟩ (.int .i64 x)) kb bp { k with r1 := x } R1 f1 R2 f2 lv) := HB.out.lay.setHead 2 (by decide) _ _ rfl rfl rfl rfl
          clear e4 o hl
          go_enter Tryz.func37, Tryz.ntmps37
          go_wp2_with (first | (go_at_call 79; refine (HEnd.out _).mono ?_; rintro e w1 ⟨rfl, rfl⟩))
          go_ret
          exact ⟨rfl, ⟨R1, f1, R2, f2, lv, ds, HB.out.turn (HO.out _ _) L.out rfl (fun hm => (HB.out.last hm).turns (F2.only1 (HO.out _ _))) rfl HB.out.left HB.out.clocks⟩, F2.only1 (HO.out _ _)⟩
        · have e4 : endI 2 = 17 := rfl
          rw [e4] at h1 HEnd
          have c1 : w.cell? ⟨kb, 3, none⟩ = some (.int .i64 k.r2) := HB.out.lay.head 3 (by decide) rfl
          have f1' := HB.out.lay.frozen 3
          have L : Hid (KLay (w.setCell ⟨kb, 3, none⟩ (.int .i64 x)) kb bp { k with r2 := x } R1 f1 R2 f2 lv) := HB.out.lay.setHead 3 (by decide) _ _ rfl rfl rfl rfl
          clear e4 o hl
          go_enter Tryz.func37, Tryz.ntmps37
          go_wp2_with (first | (go_at_call 79; refine (HEnd.out _).mono ?_; rintro e w1 ⟨rfl, rfl⟩))
          go_ret
          exact ⟨rfl, ⟨R1, f1, R2, f2, lv, ds, HB.out.turn (HO.out _ _) L.out rfl (fun hm => (HB.out.last hm).turns (F2.only1 (HO.out _ _))) rfl HB.out.left HB.out.clocks⟩, F2.only1 (HO.out _ _)⟩
  · rw [hl] at c48
    rw [K.wr_lost hl]
    go_enter Tryz.func37, Tryz.ntmps37
    go_wp2
    go_ret
    exact ⟨rfl, ⟨R1, f1, R2, f2, lv, ds, HB.out⟩, Turns.refl _ _⟩

def K.rd (k : K) (reg : Int) : K × Int × Int := if k.lost = true then (k, 0, 1101) else if reg = 0 then (k, k.r0, 0) else if reg = 1 then (k, k.r1, 0) else if reg = 2 then (k, k.r2, 0) else if reg = 3 then (k, (k.rx.length : Int), 0) else if reg = 4 then ({ k with rx := popL k.rx }, popV k.rx, popE k.rx) else (k, 0, 1100)
theorem cread_nil (reg : Int) (w : World) : Calls Tryz.prog 39 #[.pointer none, .int .i64 reg] w fun e w' => e = .returned (.tuple #[.int .i64 0, .int .i64 1]) ∧ w = w' := by
  go_enter Tryz.func39, Tryz.ntmps39
  go_wp2
  go_ret2
  exact ⟨rfl, rfl⟩
set_option maxRecDepth 100000 in
set_option maxHeartbeats 1600000 in
theorem cread_any (n kb bp : Nat) (k : K) (reg : Int) (w : World) (h : KAt n kb bp w k) :
    Calls Tryz.prog 39 #[.pointer (some ⟨kb, 0, none⟩), .int .i64 reg] w fun e w' => e = .returned (.tuple #[.int .i64 (k.rd reg).2.1, .int .i64 (k.rd reg).2.2]) ∧ KAt n kb bp w' (k.rd reg).1 ∧ Turns (F2 kb bp) w w' := by
  obtain ⟨R1, f1, R2, f2, lv, ds, B⟩ := h
  have c48 : w.cell? ⟨kb, 48, none⟩ = some (.bool k.lost) := B.lay.tail 8 rfl
  have HB : Hid (KBody n kb bp w k R1 f1 R2 f2 lv ds) := B
  have c1 : w.cell? ⟨kb, 1, none⟩ = some (.int .i64 k.r0) := B.lay.head 1 (by decide) rfl
  have c2 : w.cell? ⟨kb, 2, none⟩ = some (.int .i64 k.r1) := B.lay.head 2 (by decide) rfl
  have c3 : w.cell? ⟨kb, 3, none⟩ = some (.int .i64 k.r2) := B.lay.head 3 (by decide) rfl
  have HK : Hid (KAt n kb bp w k) := ⟨R1, f1, R2, f2, lv, ds, B⟩
  clear B
  unfold K.rd
  obtain hl | hl : k.lost = false ∨ k.lost = true := by cases k.lost <;> simp
  · rw [hl] at c48
    rw [if_neg (by rw [hl]; decide)]
    by_cases h0 : reg = 0
    · subst h0
      rw [if_pos rfl]
      go_enter Tryz.func39, Tryz.ntmps39
      go_wp2
      go_ret2
      exact ⟨rfl, HK.out, Turns.refl _ _⟩
    rw [if_neg h0]
    by_cases h1 : reg = 1
    · subst h1
      rw [if_pos rfl]
      go_enter Tryz.func39, Tryz.ntmps39
      go_wp2
      go_ret2
      exact ⟨rfl, HK.out, Turns.refl _ _⟩
    rw [if_neg h1]
    by_cases h2 : reg = 2
    · subst h2
      rw [if_pos rfl]
      go_enter Tryz.func39, Tryz.ntmps39
      go_wp2
      go_ret2
      exact ⟨rfl, HK.out, Turns.refl _ _⟩
    rw [if_neg h2]
    clear c1 c2 c3
    by_cases h3 : reg = 3
    · subst h3
      rw [if_pos rfl]
      go_enter Tryz.func39, Tryz.ntmps39
      go_wp2_with (go_at_call 82; refine (len_any kb 22 143 _ _ R2 f2 _ _ HB.out.lay.ring2).mono ?_; rintro e w1 ⟨rfl, rfl⟩)
      go_ret2
      exact ⟨rfl, HK.out, Turns.refl _ _⟩
    rw [if_neg h3]
    by_cases h4 : reg = 4
    · subst h4
      rw [if_pos rfl]
      go_enter Tryz.func39, Tryz.ntmps39
      go_wp2_with (go_at_call 83; refine (pop_any kb 22 143 _ _ R2 f2 k.rx _ HB.out.lay.ring2 HB.out.lay.h2).mono ?_; rintro e w1 ⟨rfl, ⟨R2', f2', q1, q2⟩, o⟩)
      go_ret2
      exact ⟨rfl, ⟨R1, f1, R2', f2', lv, ds, HB.out.turn o ⟨by have := q2.blk; rw [List.append_assoc] at this; exact this, HB.out.lay.h1, q1⟩ rfl (fun hm => (HB.out.last hm).turns (F2.only1 o)) rfl HB.out.left HB.out.clocks⟩, F2.only1 o⟩
    rw [if_neg h4]
    go_enter Tryz.func39, Tryz.ntmps39
    go_wp2
    go_ret2
    exact ⟨rfl, HK.out, Turns.refl _ _⟩
  · rw [hl] at c48
    rw [if_pos hl]
    go_enter Tryz.func39, Tryz.ntmps39
    go_wp2
    go_ret2
    exact ⟨rfl, HK.out, Turns.refl _ _⟩

def K.bind (k : K) (c : Int) : K × Int := if c < 0 then (k, 1100) else ({ k with bounded := true, left := c }, 0)
theorem ccut_nil (c : Int) (w : World) : Calls Tryz.prog 43 #[.pointer none, .int .i64 c] w fun e w' => e = .returned (.int .i64 1) ∧ w = w' := by
  go_enter Tryz.func43, Tryz.ntmps43
  go_wp2
  go_ret
  exact ⟨rfl, rfl⟩
theorem bound_any {w : World} {kb bp f1 f2 : Nat} {k : K} {R1 R2 : List Int} {lv : Value} (h : KLay w kb bp k R1 f1 R2 f2 lv) (c : Int) :
    Calls Tryz.prog 86 #[.pointer (some ⟨kb, 45, none⟩), .int .i64 c] w fun e w' => e = .returned (.tuple #[]) ∧ KLay w' kb bp { k with bounded := true, left := c } R1 f1 R2 f2 lv ∧ Only kb w w' := by
  have c46 : w.cell? ⟨kb, 46, none⟩ = some (.bool k.bounded) := h.tail 6 rfl
  have f46 := h.frozen 46
  have g1 : KLay (w.setCell ⟨kb, 46, none⟩ (.bool true)) kb bp { k with bounded := true } R1 f1 R2 f2 lv := h.setTail 6 _ _ _ rfl rfl rfl rfl
  have c47 : (w.setCell ⟨kb, 46, none⟩ (.bool true)).cell? ⟨kb, 47, none⟩ = some (.int .i64 k.left) := g1.tail 7 rfl
  have f47 := g1.frozen 47
  have G : Hid (KLay ((w.setCell ⟨kb, 46, none⟩ (.bool true)).setCell ⟨kb, 47, none⟩ (.int .i64 c)) kb bp { k with bounded := true, left := c } R1 f1 R2 f2 lv) := g1.setTail 7 _ _ _ rfl rfl rfl rfl
  have O : Hid (Only kb w ((w.setCell ⟨kb, 46, none⟩ (.bool true)).setCell ⟨kb, 47, none⟩ (.int .i64 c))) := ((Only.refl kb w).set 46 _).set 47 _
  clear g1 h
  go_enter Tryz.func86, Tryz.ntmps86
  go_wp2
  go_end0
  exact ⟨rfl, G.out, O.out⟩
set_option maxRecDepth 100000 in
theorem ccut_any (n kb bp : Nat) (k : K) (c : Int) (w : World) (h : KAt n kb bp w k) (hc : c ≤ 9223372036854775807) :
    Calls Tryz.prog 43 #[.pointer (some ⟨kb, 0, none⟩), .int .i64 c] w fun e w' => e = .returned (.int .i64 (k.bind c).2) ∧ KAt n kb bp w' (k.bind c).1 ∧ Turns (F2 kb bp) w w' := by
  obtain ⟨R1, f1, R2, f2, lv, ds, B⟩ := h
  have HB : Hid (KBody n kb bp w k R1 f1 R2 f2 lv ds) := B
  clear B
  unfold K.bind
  by_cases h0 : c < 0
  · rw [if_pos h0]
    go_enter Tryz.func43, Tryz.ntmps43
    go_wp2
    go_ret
    exact ⟨rfl, ⟨R1, f1, R2, f2, lv, ds, HB.out⟩, Turns.refl _ _⟩
  · rw [if_neg h0]
    have h0' : ¬ c < 0 := h0
    have hcc : 0 ≤ c ∧ c ≤ 9223372036854775807 := by omega
    go_enter Tryz.func43, Tryz.ntmps43
    go_wp2_with (go_at_call 86; refine (bound_any HB.out.lay c).mono ?_; rintro e w1 ⟨rfl, l, o⟩)
    go_ret
    exact ⟨rfl, ⟨R1, f1, R2, f2, lv, ds, HB.out.turn o l rfl (fun hm => (HB.out.last hm).turns (F2.only1 o)) rfl (fun _ => hcc) HB.out.clocks⟩, F2.only1 o⟩
theorem cclocks_any (n kb bp : Nat) (k : K) (w : World) (h : KAt n kb bp w k) :
    Calls Tryz.prog 47 #[.pointer (some ⟨kb, 0, none⟩)] w fun e w' => e = .returned (.int .i64 (k.clocks : Int)) ∧ w = w' := by
  obtain ⟨R1, f1, R2, f2, lv, ds, B⟩ := h
  have c45 : w.cell? ⟨kb, 45, none⟩ = some (.int .i64 (k.clocks : Int)) := B.lay.tail 5 rfl
  clear B
  go_enter Tryz.func47, Tryz.ntmps47
  go_wp2
  go_ret
  exact ⟨rfl, rfl⟩
theorem cclocks_nil (w : World) : Calls Tryz.prog 47 #[.pointer none] w fun e w' => e = .returned (.int .i64 0) ∧ w = w' := by
  go_enter Tryz.func47, Tryz.ntmps47
  go_wp2
  go_ret
  exact ⟨rfl, rfl⟩
theorem clost_any (n kb bp : Nat) (k : K) (w : World) (h : KAt n kb bp w k) :
    Calls Tryz.prog 48 #[.pointer (some ⟨kb, 0, none⟩)] w fun e w' => e = .returned (.bool k.lost) ∧ w = w' := by
  obtain ⟨R1, f1, R2, f2, lv, ds, B⟩ := h
  have c48 : w.cell? ⟨kb, 48, none⟩ = some (.bool k.lost) := B.lay.tail 8 rfl
  clear B
  go_enter Tryz.func48, Tryz.ntmps48
  go_wp2
  go_ret
  exact ⟨rfl, rfl⟩
theorem clost_nil (w : World) : Calls Tryz.prog 48 #[.pointer none] w fun e w' => e = .returned (.bool false) ∧ w = w' := by
  go_enter Tryz.func48, Tryz.ntmps48
  go_wp2
  go_ret
  exact ⟨rfl, rfl⟩

def newK (s : St) : K := ⟨s, 0, 0, 0, [], [], false, false, 0, false, 0, false⟩
theorem cnew_nil (w : World) : Calls Tryz.prog 31 #[.pointer none] w fun e w' => e = .returned (.tuple #[.pointer none, .int .i64 1]) ∧ w = w' := by
  go_enter Tryz.func31, Tryz.ntmps31
  go_wp2
  go_ret2
  exact ⟨rfl, rfl⟩
theorem holds_nil : Holds (List.replicate 16 0) 0 [] := ⟨rfl, by decide, by decide, fun j hj => absurd hj (by simp)⟩
theorem newK_lay (w : World) (bp : Nat) (s : St) : KLay (w.alloc (.cells (ctlC bp (newK s) (List.replicate 16 0) 0 (List.replicate 16 0) 0 (.slice none 0 0)).toArray 143)) w.heap.size bp (newK s) (List.replicate 16 0) 0 (List.replicate 16 0) 0 (.slice none 0 0) :=
  ⟨Blk.new w 143 _ _ rfl, holds_nil, holds_nil⟩
set_option maxRecDepth 100000 in
theorem cnew_any (n bp : Nat) (s : St) (ds : Value) (w : World) (h : At w bp s ds) (hd : Durs w bp ds s.durs) (ho : s.Ok n) (hs : s.sel = false) :
    Calls Tryz.prog 31 #[.pointer (some ⟨bp, 0, none⟩)] w fun e w' => ∃ kb, e = .returned (.tuple #[.pointer (some ⟨kb, 0, none⟩), .int .i64 0]) ∧ w.heap.size ≤ kb ∧ KAt n kb bp w' (newK s) ∧ Below w.heap.size w w' := by
  have hlt := Blk.lt h
  have hrd := rd_blk hd.1
  have L := newK_lay w bp s
  have b := below_new w (.cells (ctlC bp (newK s) (List.replicate 16 0) 0 (List.replicate 16 0) 0 (.slice none 0 0)).toArray 143)
  have HK : Hid (KAt n w.heap.size bp (w.alloc (.cells (ctlC bp (newK s) (List.replicate 16 0) 0 (List.replicate 16 0) 0 (.slice none 0 0)).toArray 143)) (newK s)) :=
    ⟨_, _, _, _, _, ds, L, Blk.below h b, hd.only (Only.of_below b), fun g hg h0 => by have := hrd g hg h0; omega, (fun hm => by cases hm), ho, by omega, fun _ => hs, (fun hb => by cases hb), Nat.zero_le _⟩
  have HBl : Hid (Below w.heap.size w (w.alloc (.cells (ctlC bp (newK s) (List.replicate 16 0) 0 (List.replicate 16 0) 0 (.slice none 0 0)).toArray 143))) := b
  clear L b h hd
  go_enter Tryz.func31, Tryz.ntmps31
  go_wp2
  go_ret2
  exact ⟨_, rfl, Nat.le_refl _, HK.out, HBl.out⟩
end Go.Proofs.YtjhjghakfedeeaaGreat
