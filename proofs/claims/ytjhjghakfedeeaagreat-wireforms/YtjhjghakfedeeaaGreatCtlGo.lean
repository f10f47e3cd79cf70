/-
  The controller's Go by a contract. Conditions: the controller lies in memory as told, its length is small.
-/
import Derived.Test.YtjhjghakfedeeaaGreatCtlAll
namespace Go.Proofs.YtjhjghakfedeeaaGreat
open Go.RowKit Plain
set_option linter.unusedVariables false

def pushAll (rx xs : List Int) : List Int := xs.foldl pushL rx
def K.go (k : K) : K × Int :=
  if k.lost = true then (k, 1101)
  else if 16 < (k.rx.length : Int) + k.r2 then (k, 801)
  else if (k.runs k.r0 k.r1 k.tx k.r2).2.2 = 1101 then ((k.runs k.r0 k.r1 k.tx k.r2).1, 1101)
  else ({ (k.runs k.r0 k.r1 k.tx k.r2).1 with tx := [], rx := pushAll (k.runs k.r0 k.r1 k.tx k.r2).1.rx (k.runs k.r0 k.r1 k.tx k.r2).2.1 }, (k.runs k.r0 k.r1 k.tx k.r2).2.2)
theorem came_own {B : Nat} {w : World} {a : Option Addr} {n c : Nat} {L : List Int} (h : Owns B w (.slice a n c) L) : Came w a n c L := by
  have hr := h.reads
  have h2 := h.2
  rcases h2 with ⟨e, h0⟩ | ⟨g, cap, cur, e, hB, hg, hc, -, -, -⟩
  · injection e with e1 e2 e3
    exact ⟨by omega, .inl ⟨e1, e2, e3⟩⟩
  · injection e with e1 e2 e3
    subst e1; subst e2; subst e3
    refine ⟨rfl, .inr ⟨_, rfl, hc, fun j hj => ?_⟩⟩
    obtain ⟨a', c', e, hr⟩ := hr
    injection e with e1 e2 e3
    obtain ⟨g2, o2, e4, hc2⟩ := hr (by omega)
    rw [← e1] at e4
    injection e4 with e4
    injection e4 with q1 q2
    subst q1; subst q2
    rw [Addr.add_mid]
    exact hc2 j hj
theorem rin_own {B : Nat} {w : World} {v : Value} {L : List Int} (h : Owns B w v L) : RIn (fun g => B ≤ g) w v L := by
  have hb := owns_block h
  obtain ⟨a, c, rfl, hr⟩ := h.reads
  refine ⟨a, c, rfl, fun h0 => ?_⟩
  obtain ⟨g, o, rfl, hc⟩ := hr h0
  exact ⟨g, o, rfl, hb g rfl h0, hc⟩
/-- What layer 9 and 10 answer Go: the row that was read, the error, and the controller. -/
def RanTo (n kb bp : Nat) (R1 : List Int) (f1 : Nat) (R2 : List Int) (f2 : Nat) (k : K) (w w' : World) (u : Value) : Prop :=
  Owns w.heap.size w' u (k.runs k.r0 k.r1 k.tx k.r2).2.1 ∧ KRg (n + 30000) kb bp R1 f1 R2 f2 w' (k.runs k.r0 k.r1 k.tx k.r2).1 ∧ Turns (F2 kb bp) w w'
theorem drv_keeps (k : K) (ps : List Ph) : (k.drv ps).r0 = k.r0 ∧ (k.drv ps).r1 = k.r1 ∧ (k.drv ps).r2 = k.r2 ∧ (k.drv ps).tx = k.tx ∧ (k.drv ps).rx = k.rx := ⟨rfl, rfl, rfl, rfl, rfl⟩
theorem fin_keeps (k : K) (ps : List Ph) (g : Bool) : (k.fin ps g).1.r0 = k.r0 ∧ (k.fin ps g).1.r1 = k.r1 ∧ (k.fin ps g).1.r2 = k.r2 ∧ (k.fin ps g).1.tx = k.tx ∧ (k.fin ps g).1.rx = k.rx := by
  unfold K.fin; split <;> exact ⟨rfl, rfl, rfl, rfl, rfl⟩
theorem endR_keeps (k : K) : k.endR.r0 = k.r0 ∧ k.endR.r1 = k.r1 ∧ k.endR.r2 = k.r2 ∧ k.endR.tx = k.tx ∧ k.endR.rx = k.rx := by
  unfold K.endR; split
  · split <;> exact ⟨rfl, rfl, rfl, rfl, rfl⟩
  · exact ⟨rfl, rfl, rfl, rfl, rfl⟩
/-- Run turns no register and no queue. -/
theorem runs_keeps (k : K) (b at' : Int) (L : List Int) (r : Int) : (k.runs b at' L r).1.r0 = k.r0 ∧ (k.runs b at' L r).1.r1 = k.r1 ∧ (k.runs b at' L r).1.r2 = k.r2 ∧ (k.runs b at' L r).1.tx = k.tx ∧ (k.runs b at' L r).1.rx = k.rx := by
  unfold K.runs
  split
  · exact ⟨rfl, rfl, rfl, rfl, rfl⟩
  · split
    · exact ⟨rfl, rfl, rfl, rfl, rfl⟩
    · split
      · exact fin_keeps _ _ _
      · split
        · exact endR_keeps k
        · obtain ⟨h1, h2, h3, h4, h5⟩ := fin_keeps k.endR (rowP b at' L r) (isOn b L)
          obtain ⟨g1, g2, g3, g4, g5⟩ := endR_keeps k
          exact ⟨h1.trans g1, h2.trans g2, h3.trans g3, h4.trans g4, h5.trans g5⟩
def zeroFif : Array Value := #[.int .i64 0, .int .i64 0, .int .i64 0, .int .i64 0, .int .i64 0, .int .i64 0, .int .i64 0, .int .i64 0, .int .i64 0, .int .i64 0, .int .i64 0, .int .i64 0, .int .i64 0, .int .i64 0, .int .i64 0, .int .i64 0, .int .i64 0, .int .i64 0]
theorem zeroFif_is : zeroFif.toList = ringCells (List.replicate 16 0) 0 0 := rfl
theorem pushAll_more (rx D : List Int) (j : Nat) (h : j < D.length) : pushAll rx (D.take (j + 1)) = pushL (pushAll rx (D.take j)) (D.getD j 0) := by
  unfold pushAll
  rw [← List.take_append_getElem h, List.foldl_append, List.getD_eq_getElem?_getD, List.getElem?_eq_getElem h]
  rfl
theorem fif_size : (Tryz.prog.info? 139).map (·.size) = some 18 := by kernel_rfl
theorem cgo_nil (w : World) : Calls Tryz.prog 41 #[.pointer none] w fun e w' => e = .returned (.int .i64 1) ∧ w = w' := by
  go_enter Tryz.func41, Tryz.ntmps41
  go_wp2
  go_ret
  exact ⟨rfl, rfl⟩

theorem list16 (R : List Int) (h : R.length = 16) : ∃ x0 x1 x2 x3 x4 x5 x6 x7 x8 x9 x10 x11 x12 x13 x14 x15, R = [x0, x1, x2, x3, x4, x5, x6, x7, x8, x9, x10, x11, x12, x13, x14, x15] := by
  match R, h with
  | [x0, x1, x2, x3, x4, x5, x6, x7, x8, x9, x10, x11, x12, x13, x14, x15], _ => exact ⟨x0, x1, x2, x3, x4, x5, x6, x7, x8, x9, x10, x11, x12, x13, x14, x15, rfl⟩
set_option maxRecDepth 100000 in
set_option maxHeartbeats 8000000 in
theorem cgo_any (n kb bp : Nat) (k : K) (w : World) (h : KAt n kb bp w k) (h2 : 0 ≤ k.r2 ∧ k.r2 ≤ 1000) (hn : n ≤ 999999999900000) :
    Calls Tryz.prog 41 #[.pointer (some ⟨kb, 0, none⟩)] w fun e w' => e = .returned (.int .i64 k.go.2) ∧ KAt (n + 30000) kb bp w' k.go.1 ∧ Turns (F2 kb bp) w w' := by
  have HK : Hid (KAt n kb bp w k) := h
  obtain ⟨R1, f1, R2, f2, lv, ds, B⟩ := h
  have HB : Hid (KBody n kb bp w k R1 f1 R2 f2 lv ds) := B
  have HN : Hid (n ≤ 999999999900000) := hn
  have c48 : w.cell? ⟨kb, 48, none⟩ = some (.bool k.lost) := B.lay.tail 8 rfl
  have c1 : w.cell? ⟨kb, 1, none⟩ = some (.int .i64 k.r0) := B.lay.head 1 (by decide) rfl
  have c2 : w.cell? ⟨kb, 2, none⟩ = some (.int .i64 k.r1) := B.lay.head 2 (by decide) rfl
  have c3 : w.cell? ⟨kb, 3, none⟩ = some (.int .i64 k.r2) := B.lay.head 3 (by decide) rfl
  clear B hn
  obtain hl | hl : k.lost = false ∨ k.lost = true := by cases k.lost <;> simp
  · have HL : Hid (k.lost = false) := hl
    rw [hl] at c48
    have hx16 := HB.out.lay.h2.few
    have hsum : wrap64 ((k.rx.length : Int) + k.r2) = (k.rx.length : Int) + k.r2 := IntWalk.wrap64_in _ (by omega)
    by_cases h16 : 16 < (k.rx.length : Int) + k.r2
    · have HG : Hid (k.go = (k, 801)) := by unfold Hid K.go; rw [if_neg (by rw [hl]; decide), if_pos h16]
      clear hl
      go_enter Tryz.func41, Tryz.ntmps41
      go_wp2_with (go_at_call 82; refine (len_any kb 22 143 _ _ R2 f2 _ _ HB.out.lay.ring2).mono ?_; rintro e w1 ⟨rfl, rfl⟩)
      go_ret
      exact ⟨by rw [HG.out]; rfl, by rw [HG.out]; exact HK.out.more (Nat.le_add_right _ _), Turns.refl _ _⟩
    · clear hl
      have HAll : Hid (∀ v : World, Calls Tryz.prog 85 #[.agg (ringCells R1 f1 k.tx.length).toArray] v fun e w' => ∃ u, e = .returned u ∧ Owns v.heap.size w' u k.tx ∧ Below v.heap.size v w') := fun v => all_any R1 f1 k.tx v HB.out.lay.h1
      obtain ⟨x0, x1, x2, x3, x4, x5, x6, x7, x8, x9, x10, x11, x12, x13, x14, x15, hR⟩ := list16 R1 HB.out.lay.h1.ring
      rw [hR] at HAll
      have hr1 := HB.out.lay.ring1
      rw [hR] at hr1
      have e4 : w.cell? ⟨kb, 4, none⟩ = some (.int .i64 x0) := hr1.cring 0 (by decide)
      have e5 : w.cell? ⟨kb, 5, none⟩ = some (.int .i64 x1) := hr1.cring 1 (by decide)
      have e6 : w.cell? ⟨kb, 6, none⟩ = some (.int .i64 x2) := hr1.cring 2 (by decide)
      have e7 : w.cell? ⟨kb, 7, none⟩ = some (.int .i64 x3) := hr1.cring 3 (by decide)
      have e8 : w.cell? ⟨kb, 8, none⟩ = some (.int .i64 x4) := hr1.cring 4 (by decide)
      have e9 : w.cell? ⟨kb, 9, none⟩ = some (.int .i64 x5) := hr1.cring 5 (by decide)
      have e10 : w.cell? ⟨kb, 10, none⟩ = some (.int .i64 x6) := hr1.cring 6 (by decide)
      have e11 : w.cell? ⟨kb, 11, none⟩ = some (.int .i64 x7) := hr1.cring 7 (by decide)
      have e12 : w.cell? ⟨kb, 12, none⟩ = some (.int .i64 x8) := hr1.cring 8 (by decide)
      have e13 : w.cell? ⟨kb, 13, none⟩ = some (.int .i64 x9) := hr1.cring 9 (by decide)
      have e14 : w.cell? ⟨kb, 14, none⟩ = some (.int .i64 x10) := hr1.cring 10 (by decide)
      have e15 : w.cell? ⟨kb, 15, none⟩ = some (.int .i64 x11) := hr1.cring 11 (by decide)
      have e16 : w.cell? ⟨kb, 16, none⟩ = some (.int .i64 x12) := hr1.cring 12 (by decide)
      have e17 : w.cell? ⟨kb, 17, none⟩ = some (.int .i64 x13) := hr1.cring 13 (by decide)
      have e18 : w.cell? ⟨kb, 18, none⟩ = some (.int .i64 x14) := hr1.cring 14 (by decide)
      have e19 : w.cell? ⟨kb, 19, none⟩ = some (.int .i64 x15) := hr1.cring 15 (by decide)
      have e20 : w.cell? ⟨kb, 20, none⟩ = some (.int .i64 (f1 : Int)) := hr1.cfirst
      have e21 : w.cell? ⟨kb, 21, none⟩ = some (.int .i64 (k.tx.length : Int)) := hr1.ccount
      have S0 : (fun z : World => z.cell? ⟨kb, 1, none⟩ = some (.int .i64 k.r0) ∧ z.cell? ⟨kb, 2, none⟩ = some (.int .i64 k.r1) ∧ z.cell? ⟨kb, 4, none⟩ = some (.int .i64 x0) ∧ z.cell? ⟨kb, 5, none⟩ = some (.int .i64 x1) ∧ z.cell? ⟨kb, 6, none⟩ = some (.int .i64 x2) ∧ z.cell? ⟨kb, 7, none⟩ = some (.int .i64 x3) ∧ z.cell? ⟨kb, 8, none⟩ = some (.int .i64 x4) ∧ z.cell? ⟨kb, 9, none⟩ = some (.int .i64 x5) ∧ z.cell? ⟨kb, 10, none⟩ = some (.int .i64 x6) ∧ z.cell? ⟨kb, 11, none⟩ = some (.int .i64 x7) ∧ z.cell? ⟨kb, 12, none⟩ = some (.int .i64 x8) ∧ z.cell? ⟨kb, 13, none⟩ = some (.int .i64 x9) ∧ z.cell? ⟨kb, 14, none⟩ = some (.int .i64 x10) ∧ z.cell? ⟨kb, 15, none⟩ = some (.int .i64 x11) ∧ z.cell? ⟨kb, 16, none⟩ = some (.int .i64 x12) ∧ z.cell? ⟨kb, 17, none⟩ = some (.int .i64 x13) ∧ z.cell? ⟨kb, 18, none⟩ = some (.int .i64 x14) ∧ z.cell? ⟨kb, 19, none⟩ = some (.int .i64 x15) ∧ z.cell? ⟨kb, 20, none⟩ = some (.int .i64 (f1 : Int)) ∧ z.cell? ⟨kb, 21, none⟩ = some (.int .i64 (k.tx.length : Int))) w := ⟨c1, c2, e4, e5, e6, e7, e8, e9, e10, e11, e12, e13, e14, e15, e16, e17, e18, e19, e20, e21⟩
      have S1 : (fun z : World => z.cell? ⟨kb, 1, none⟩ = some (.int .i64 k.r0) ∧ z.cell? ⟨kb, 2, none⟩ = some (.int .i64 k.r1) ∧ z.cell? ⟨kb, 4, none⟩ = some (.int .i64 x0) ∧ z.cell? ⟨kb, 5, none⟩ = some (.int .i64 x1) ∧ z.cell? ⟨kb, 6, none⟩ = some (.int .i64 x2) ∧ z.cell? ⟨kb, 7, none⟩ = some (.int .i64 x3) ∧ z.cell? ⟨kb, 8, none⟩ = some (.int .i64 x4) ∧ z.cell? ⟨kb, 9, none⟩ = some (.int .i64 x5) ∧ z.cell? ⟨kb, 10, none⟩ = some (.int .i64 x6) ∧ z.cell? ⟨kb, 11, none⟩ = some (.int .i64 x7) ∧ z.cell? ⟨kb, 12, none⟩ = some (.int .i64 x8) ∧ z.cell? ⟨kb, 13, none⟩ = some (.int .i64 x9) ∧ z.cell? ⟨kb, 14, none⟩ = some (.int .i64 x10) ∧ z.cell? ⟨kb, 15, none⟩ = some (.int .i64 x11) ∧ z.cell? ⟨kb, 16, none⟩ = some (.int .i64 x12) ∧ z.cell? ⟨kb, 17, none⟩ = some (.int .i64 x13) ∧ z.cell? ⟨kb, 18, none⟩ = some (.int .i64 x14) ∧ z.cell? ⟨kb, 19, none⟩ = some (.int .i64 x15) ∧ z.cell? ⟨kb, 20, none⟩ = some (.int .i64 (f1 : Int)) ∧ z.cell? ⟨kb, 21, none⟩ = some (.int .i64 (k.tx.length : Int))) w.drew := ⟨c1, c2, e4, e5, e6, e7, e8, e9, e10, e11, e12, e13, e14, e15, e16, e17, e18, e19, e20, e21⟩
      have HS2 : Hid (∀ v, Below w.heap.size w v → (fun z : World => z.cell? ⟨kb, 1, none⟩ = some (.int .i64 k.r0) ∧ z.cell? ⟨kb, 2, none⟩ = some (.int .i64 k.r1) ∧ z.cell? ⟨kb, 4, none⟩ = some (.int .i64 x0) ∧ z.cell? ⟨kb, 5, none⟩ = some (.int .i64 x1) ∧ z.cell? ⟨kb, 6, none⟩ = some (.int .i64 x2) ∧ z.cell? ⟨kb, 7, none⟩ = some (.int .i64 x3) ∧ z.cell? ⟨kb, 8, none⟩ = some (.int .i64 x4) ∧ z.cell? ⟨kb, 9, none⟩ = some (.int .i64 x5) ∧ z.cell? ⟨kb, 10, none⟩ = some (.int .i64 x6) ∧ z.cell? ⟨kb, 11, none⟩ = some (.int .i64 x7) ∧ z.cell? ⟨kb, 12, none⟩ = some (.int .i64 x8) ∧ z.cell? ⟨kb, 13, none⟩ = some (.int .i64 x9) ∧ z.cell? ⟨kb, 14, none⟩ = some (.int .i64 x10) ∧ z.cell? ⟨kb, 15, none⟩ = some (.int .i64 x11) ∧ z.cell? ⟨kb, 16, none⟩ = some (.int .i64 x12) ∧ z.cell? ⟨kb, 17, none⟩ = some (.int .i64 x13) ∧ z.cell? ⟨kb, 18, none⟩ = some (.int .i64 x14) ∧ z.cell? ⟨kb, 19, none⟩ = some (.int .i64 x15) ∧ z.cell? ⟨kb, 20, none⟩ = some (.int .i64 (f1 : Int)) ∧ z.cell? ⟨kb, 21, none⟩ = some (.int .i64 (k.tx.length : Int))) v) := fun v hv => ⟨(hv.cell (cell_lt c1)).trans c1, (hv.cell (cell_lt c2)).trans c2, (hv.cell (cell_lt e4)).trans e4, (hv.cell (cell_lt e5)).trans e5, (hv.cell (cell_lt e6)).trans e6, (hv.cell (cell_lt e7)).trans e7, (hv.cell (cell_lt e8)).trans e8, (hv.cell (cell_lt e9)).trans e9, (hv.cell (cell_lt e10)).trans e10, (hv.cell (cell_lt e11)).trans e11, (hv.cell (cell_lt e12)).trans e12, (hv.cell (cell_lt e13)).trans e13, (hv.cell (cell_lt e14)).trans e14, (hv.cell (cell_lt e15)).trans e15, (hv.cell (cell_lt e16)).trans e16, (hv.cell (cell_lt e17)).trans e17, (hv.cell (cell_lt e18)).trans e18, (hv.cell (cell_lt e19)).trans e19, (hv.cell (cell_lt e20)).trans e20, (hv.cell (cell_lt e21)).trans e21⟩
      clear e4 e5 e6 e7 e8 e9 e10 e11 e12 e13 e14 e15 e16 e17 e18 e19 e20 e21
      have HS3 : Hid (∀ v, KRg (n + 30000) kb bp R1 f1 R2 f2 v (k.runs k.r0 k.r1 k.tx k.r2).1 → (fun z : World => z.cell? ⟨kb, 1, none⟩ = some (.int .i64 k.r0) ∧ z.cell? ⟨kb, 2, none⟩ = some (.int .i64 k.r1) ∧ z.cell? ⟨kb, 4, none⟩ = some (.int .i64 x0) ∧ z.cell? ⟨kb, 5, none⟩ = some (.int .i64 x1) ∧ z.cell? ⟨kb, 6, none⟩ = some (.int .i64 x2) ∧ z.cell? ⟨kb, 7, none⟩ = some (.int .i64 x3) ∧ z.cell? ⟨kb, 8, none⟩ = some (.int .i64 x4) ∧ z.cell? ⟨kb, 9, none⟩ = some (.int .i64 x5) ∧ z.cell? ⟨kb, 10, none⟩ = some (.int .i64 x6) ∧ z.cell? ⟨kb, 11, none⟩ = some (.int .i64 x7) ∧ z.cell? ⟨kb, 12, none⟩ = some (.int .i64 x8) ∧ z.cell? ⟨kb, 13, none⟩ = some (.int .i64 x9) ∧ z.cell? ⟨kb, 14, none⟩ = some (.int .i64 x10) ∧ z.cell? ⟨kb, 15, none⟩ = some (.int .i64 x11) ∧ z.cell? ⟨kb, 16, none⟩ = some (.int .i64 x12) ∧ z.cell? ⟨kb, 17, none⟩ = some (.int .i64 x13) ∧ z.cell? ⟨kb, 18, none⟩ = some (.int .i64 x14) ∧ z.cell? ⟨kb, 19, none⟩ = some (.int .i64 x15) ∧ z.cell? ⟨kb, 20, none⟩ = some (.int .i64 (f1 : Int)) ∧ z.cell? ⟨kb, 21, none⟩ = some (.int .i64 (k.tx.length : Int))) v) := fun v hv => by
        obtain ⟨lv', ds', B'⟩ := hv
        obtain ⟨g0, g1, g2, g3, g4⟩ := runs_keeps k k.r0 k.r1 k.tx k.r2
        have l := B'.lay
        have hh := l.ring1
        rw [g3] at hh
        rw [hR] at hh
        have k1 := l.head 1 (by decide) (v := .int .i64 k.r0) (by show some (Value.int .i64 (k.runs k.r0 k.r1 k.tx k.r2).1.r0) = _; rw [g0])
        have k2 := l.head 2 (by decide) (v := .int .i64 k.r1) (by show some (Value.int .i64 (k.runs k.r0 k.r1 k.tx k.r2).1.r1) = _; rw [g1])
        exact ⟨k1, k2, hh.cring 0 (by decide), hh.cring 1 (by decide), hh.cring 2 (by decide), hh.cring 3 (by decide), hh.cring 4 (by decide), hh.cring 5 (by decide), hh.cring 6 (by decide), hh.cring 7 (by decide), hh.cring 8 (by decide), hh.cring 9 (by decide), hh.cring 10 (by decide), hh.cring 11 (by decide), hh.cring 12 (by decide), hh.cring 13 (by decide), hh.cring 14 (by decide), hh.cring 15 (by decide), hh.cfirst, hh.ccount⟩
      clear hr1
      go_enter Tryz.func41, Tryz.ntmps41
      go_upto_region 8 with (go_at_call 82; refine (len_any kb 22 143 _ _ R2 f2 _ _ HB.out.lay.ring2).mono ?_; rintro e w1 ⟨rfl, rfl⟩)
      have hKlt : kb < w.heap.size ∧ bp < w.heap.size := ⟨HB.out.lay.lt, Blk.lt HB.out.chip⟩
      have HRun : Hid (∀ (v : World) (a : Option Addr) (m c : Nat), Below w.heap.size w v → Owns w.heap.size v (.slice a m c) k.tx → Calls Tryz.prog 34 #[.pointer (some ⟨kb, 0, none⟩), .int .i64 k.r0, .int .i64 k.r1, .slice a m c, .int .i64 k.r2] v fun e w' => ∃ u, e = .returned (.tuple #[u, .int .i64 (k.runs k.r0 k.r1 k.tx k.r2).2.2]) ∧ RanTo n kb bp R1 f1 R2 f2 k w w' u) := fun v a m c hv ho => by
        have hm : k.tx.length = m := (came_own ho).1
        refine (crun_rg n kb bp R1 f1 R2 f2 k k.r0 k.r1 a m c k.tx k.r2 v (KRg.below ⟨lv, ds, HB.out⟩ hv) (came_own ho) ((rin_own ho).mono fun g hg _ => by omega) (by have := HB.out.lay.h1.few; omega) HN.out).mono ?_
        rintro e w' ⟨u, rfl, h1, h2, h3⟩
        exact ⟨u, rfl, owns_down h1 hv.size, h2, (Turns.below (Turns.refl _ _) hv).trans h3⟩
      obtain ⟨E, hE⟩ : ∃ E, (k.runs k.r0 k.r1 k.tx k.r2).2.2 = E := ⟨_, rfl⟩
      have HE : Hid ((k.runs k.r0 k.r1 k.tx k.r2).2.2 = E) := hE
      rw [hE] at HRun
      clear hE
      have HA1 : Calls Tryz.prog 85 #[.agg #[.int .i64 x0, .int .i64 x1, .int .i64 x2, .int .i64 x3, .int .i64 x4, .int .i64 x5, .int .i64 x6, .int .i64 x7, .int .i64 x8, .int .i64 x9, .int .i64 x10, .int .i64 x11, .int .i64 x12, .int .i64 x13, .int .i64 x14, .int .i64 x15, .int .i64 (f1 : Int), .int .i64 (k.tx.length : Int)]] w.drew fun e w' => ∃ u, e = .returned u ∧ Owns w.drew.heap.size w' u k.tx ∧ Below w.drew.heap.size w.drew w' := HAll.out w.drew
      have HA1 : Hid (Calls _ _ _ _ _) := HA1
      have HBd : Hid (Below w.heap.size w w.drew) := (Below.refl _ _).drew
      go_region_held3 (fun z : World => z.cell? ⟨kb, 1, none⟩ = some (.int .i64 k.r0) ∧ z.cell? ⟨kb, 2, none⟩ = some (.int .i64 k.r1) ∧ z.cell? ⟨kb, 4, none⟩ = some (.int .i64 x0) ∧ z.cell? ⟨kb, 5, none⟩ = some (.int .i64 x1) ∧ z.cell? ⟨kb, 6, none⟩ = some (.int .i64 x2) ∧ z.cell? ⟨kb, 7, none⟩ = some (.int .i64 x3) ∧ z.cell? ⟨kb, 8, none⟩ = some (.int .i64 x4) ∧ z.cell? ⟨kb, 9, none⟩ = some (.int .i64 x5) ∧ z.cell? ⟨kb, 10, none⟩ = some (.int .i64 x6) ∧ z.cell? ⟨kb, 11, none⟩ = some (.int .i64 x7) ∧ z.cell? ⟨kb, 12, none⟩ = some (.int .i64 x8) ∧ z.cell? ⟨kb, 13, none⟩ = some (.int .i64 x9) ∧ z.cell? ⟨kb, 14, none⟩ = some (.int .i64 x10) ∧ z.cell? ⟨kb, 15, none⟩ = some (.int .i64 x11) ∧ z.cell? ⟨kb, 16, none⟩ = some (.int .i64 x12) ∧ z.cell? ⟨kb, 17, none⟩ = some (.int .i64 x13) ∧ z.cell? ⟨kb, 18, none⟩ = some (.int .i64 x14) ∧ z.cell? ⟨kb, 19, none⟩ = some (.int .i64 x15) ∧ z.cell? ⟨kb, 20, none⟩ = some (.int .i64 (f1 : Int)) ∧ z.cell? ⟨kb, 21, none⟩ = some (.int .i64 (k.tx.length : Int))) (first | exact S0 | exact S1 | exact s2 | exact s3) (first | (go_at_call 85; refine HA1.out.mono ?_; rintro e w2 ⟨u2, rfl, ho2, b2⟩; (have B2 := HBd.out.trans b2); obtain ⟨ua2, uc2, rfl⟩ := own_slice ho2; (have s2 := HS2.out w2 B2); (have HR2 := HRun.out w2 ua2 _ uc2 B2 ho2)) | (go_at_call 34; refine HR2.mono ?_; rintro e w3 ⟨u3, rfl, h3⟩; (have s3 := HS3.out w3 h3.2.1)))
      have H3 : Hid (RanTo n kb bp R1 f1 R2 f2 k w w3 u3) := h3
      clear s3 h3 S0 S1 HS2 HS3 HA1 HR2 s2 b2 B2 ho2 HAll HRun HBd hR c1 c2 c3 hsum
      obtain ⟨D, hD⟩ : ∃ D, (k.runs k.r0 k.r1 k.tx k.r2).2.1 = D := ⟨_, rfl⟩
      obtain ⟨kd, hkd⟩ : ∃ kd, (k.runs k.r0 k.r1 k.tx k.r2).1 = kd := ⟨_, rfl⟩
      have HG : Hid (k.go = if E = 1101 then (kd, 1101) else ({ kd with tx := [], rx := pushAll kd.rx D }, E)) := by
        unfold Hid K.go; rw [if_neg (by rw [HL.out]; decide), if_neg (by omega), HE.out, hD, hkd]
      have hU := H3.out.1
      have hK3 := H3.out.2.1
      rw [hD] at hU
      rw [hkd] at hK3
      have HU : Hid (Owns w.heap.size w3 u3 D) := hU
      have HK3 : Hid (KRg (n + 30000) kb bp R1 f1 R2 f2 w3 kd) := hK3
      have HT3 : Hid (Turns (F2 kb bp) w w3) := H3.out.2.2
      obtain ⟨ua, uc, rfl⟩ := own_slice hU
      clear hU hK3 H3 hD hkd HE h16 hx16 h2
      by_cases hE : E = 1101
      · subst hE
        rw [if_pos rfl] at HG
        go_wp2
        go_ret
        exact ⟨by rw [HG.out]; rfl, by rw [HG.out]; exact HK3.out.at, HT3.out⟩
      · rw [if_neg hE] at HG
        have hE' : (E == 1101) = false := beq_eq_false_iff_ne.2 hE
        obtain ⟨lv3, ds3, B3⟩ := HK3.out
        have HB3 : Hid (KBody (n + 30000) kb bp w3 kd R1 f1 R2 f2 lv3 ds3) := B3
        have HTh : Hid (w3.there kb 4 zeroFif.size) := Blk.there B3.lay.blk 4 18 (by
          unfold ctlC
          rw [List.length_append, List.length_append, ringCells_len B3.lay.h1.ring]
          show 4 + 18 ≤ 4 + (18 + _); omega)
        have HI : Hid ((Tryz.prog.info? 139).map (·.size) = some zeroFif.size) := fif_size
        have HO : Hid (zeroFif.all (·.oneCell') = true) := by unfold Hid; decide +kernel
        have L4 : Hid (KLay (w3.setCells kb 4 zeroFif.toList) kb bp { kd with tx := [] } (List.replicate 16 0) 0 R2 f2 lv3) := by
          refine ⟨?_, holds_nil, B3.lay.h2⟩
          have := Blk.sets B3.lay.blk 4 zeroFif.toList (by
            unfold ctlC
            rw [List.length_append, List.length_append, ringCells_len B3.lay.h1.ring]
            show 4 + 18 ≤ 4 + (18 + _); omega)
          have e : (ctlC bp kd R1 f1 R2 f2 lv3).take 4 ++ zeroFif.toList ++ (ctlC bp kd R1 f1 R2 f2 lv3).drop (4 + zeroFif.toList.length) = ctlC bp { kd with tx := [] } (List.replicate 16 0) 0 R2 f2 lv3 := by
            unfold ctlC
            rw [show (4 : Nat) + zeroFif.toList.length = 4 + 18 from rfl, ← List.drop_drop, List.drop_left' (show (headC bp kd).length = 4 from rfl), List.take_left' (show (headC bp kd).length = 4 from rfl), List.drop_left' (ringCells_len B3.lay.h1.ring), zeroFif_is, List.append_assoc]
            rfl
          rw [e] at this
          exact this
        have O4 : Hid (Only kb w3 (w3.setCells kb 4 zeroFif.toList)) := (Only.refl kb w3).sets 4 _
        have K4 : Hid (KAt (n + 30000) kb bp (w3.setCells kb 4 zeroFif.toList) { kd with tx := [], rx := pushAll kd.rx (D.take 0) }) :=
          ⟨_, _, _, _, _, _, B3.turn O4.out L4.out rfl (fun hm => (B3.last hm).turns (F2.only1 O4.out)) rfl B3.left B3.clocks⟩
        have U4 : Hid (Owns w.heap.size (w3.setCells kb 4 zeroFif.toList) (.slice ua D.length uc) D) := owns_only HU O4.out hKlt.1
        have T4 : Hid (Turns (F2 kb bp) w (w3.setCells kb 4 zeroFif.toList)) := HT3.out.trans (F2.only1 O4.out)
        obtain ⟨nd, hnd⟩ : ∃ nd, D.length = nd := ⟨_, rfl⟩
        have HND : Hid (D.length = nd) := hnd
        have hndb : nd ≤ 9223372036854775807 := by
          rcases HU.out.2 with ⟨-, h0⟩ | ⟨_, cap, _, _, _, _, q1, q2, _, _⟩
          · omega
          · have : D.length ≤ maxLen := Nat.le_trans q1 q2
            unfold maxLen at this; omega
        rw [hnd] at U4 ⊢
        clear B3 HU HT3 HK3 L4 hE hnd
        go_wp2_with (refine wpList_store_mid rfl 139 _ _ rfl kb 4 zeroFif rfl rfl HTh.out HI.out HO.out ?_; generalize w3.setCells kb 4 zeroFif.toList = W4 at K4 O4 U4 T4 ⊢)
        go_loopw [57] (fun i wr => ∃ j : Nat, j ≤ nd ∧ i = .int .i64 j ∧ Hid (KAt (n + 30000) kb bp wr { kd with tx := [], rx := pushAll kd.rx (D.take j) }) ∧ Hid (Owns w.heap.size wr (.slice ua nd uc) D) ∧ Hid (Turns (F2 kb bp) w wr)) (fun i _ => nd - (intOf i).toNat)
        case atStart => exact ⟨0, Nat.zero_le _, rfl, K4.out, U4.out, T4.out⟩
        case round =>
          obtain ⟨j, hj, rfl, HKj, HUj, HTj⟩ := hrel
          clear K4 U4 T4
          by_cases hlt : j < nd
          · obtain ⟨g, rfl, hnc⟩ := owns_some HUj HND.out (by omega)
            have cj := reads_cell HUj.out.reads j (by rw [HND.out]; exact hlt)
            have HPA : Hid (pushAll kd.rx (D.take (j + 1)) = pushL (pushAll kd.rx (D.take j)) (D.getD j 0)) := pushAll_more _ _ _ (by rw [HND.out]; exact hlt)
            obtain ⟨x, hx⟩ : ∃ x, D.getD j 0 = x := ⟨_, rfl⟩
            rw [hx] at cj HPA
            obtain ⟨R1', f1', R2', f2', lv', ds', B'⟩ := HKj.out
            have HB' : Hid (KBody (n + 30000) kb bp wr { kd with tx := [], rx := pushAll kd.rx (D.take j) } R1' f1' R2' f2' lv' ds') := B'
            clear B' hx
            go_wp2_with fail
            refine (push_any kb 22 143 _ _ R2' f2' _ x _ HB'.out.lay.ring2 HB'.out.lay.h2).mono ?_
            rintro e w6 ⟨rfl, ⟨R2'', f2'', q1, q2⟩, o6⟩
            have K6 : Hid (KAt (n + 30000) kb bp w6 { kd with tx := [], rx := pushAll kd.rx (D.take (j + 1)) }) := by
              rw [HPA.out]
              exact ⟨R1', f1', R2'', f2'', lv', ds', HB'.out.turn o6 ⟨by have := q2.blk; rw [List.append_assoc] at this; exact this, HB'.out.lay.h1, q1⟩ rfl (fun hm => (HB'.out.last hm).turns (F2.only1 o6)) rfl HB'.out.left HB'.out.clocks⟩
            have U6 : Hid (Owns w.heap.size w6 _ D) := owns_only HUj o6 hKlt.1
            have T6 : Hid (Turns (F2 kb bp) w w6) := HTj.out.trans (F2.only1 o6)
            clear q1 q2 o6 HB' HUj HTj HKj HPA
            go_wp2
            go_roundw
            case rel => exact ⟨j + 1, by omega, by go_num, K6.out, U6.out, T6.out⟩
            case measure => simp [intOf]; omega
          · have hjn : j = nd := by omega
            subst hjn
            have HKz : Hid (KAt (n + 30000) kb bp wr { kd with tx := [], rx := pushAll kd.rx D }) := by
              have := HKj.out
              rw [← HND.out, List.take_length] at this
              exact this
            clear HKj HUj
            go_wp2
            go_ret
            exact ⟨by rw [HG.out]; rfl, by rw [HG.out]; exact HKz.out, HTj.out⟩
  · have HG : Hid (k.go = (k, 1101)) := by unfold Hid K.go; rw [if_pos hl]
    rw [hl] at c48
    clear hl
    go_enter Tryz.func41, Tryz.ntmps41
    go_wp2
    go_ret
    exact ⟨by rw [HG.out]; rfl, by rw [HG.out]; exact HK.out.more (Nat.le_add_right _ _), Turns.refl _ _⟩
end Go.Proofs.YtjhjghakfedeeaaGreat
