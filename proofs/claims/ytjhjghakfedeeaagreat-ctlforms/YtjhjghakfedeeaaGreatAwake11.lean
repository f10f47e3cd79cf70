/-
  What every program answers that is one: no conditions.
-/
import Derived.Test.YtjhjghakfedeeaaGreatCtlUse
import Derived.Test.YtjhjghakfedeeaaGreatMine
namespace Go.Proofs.YtjhjghakfedeeaaGreat
open Go.RowKit Plain
set_option linter.unusedVariables false

theorem go_yes {k k' : K} {V : List Int} {E : Int} (hl : k.lost = false) (h16 : (k.rx.length : Int) + k.r2 ≤ 16) (hE : E ≠ 1101) (hX : k.runs k.r0 k.r1 k.tx k.r2 = (k', V, E)) : k.go = ({ k' with tx := [], rx := pushAll k'.rx V }, E) := by
  unfold K.go
  rw [if_neg (by rw [hl]; decide), if_neg (by omega), hX, if_neg hE]
theorem go_full {k : K} (hl : k.lost = false) (h16 : 16 < (k.rx.length : Int) + k.r2) : k.go = (k, 801) := by
  unfold K.go
  rw [if_neg (by rw [hl]; decide), if_pos h16]
/-- The answers of the check. -/
theorem wake_facts (a : ByteArray) (ha : numI (bytesOf a 4 2) = [121, 122]) : ∃ (s : St) (k1 k2 k3 k4 k5 k6 k7 : K), Hid (newSt a = s) ∧ s.sel = false ∧ Hid ((newK s).runs 3 4 [] 2 = (k1, [121, 122], 0)) ∧ Hid (k1.runs 0 0 [] 0 = (k1, [], 1100)) ∧ Hid (k1.wr 0 159 = (k2, 0)) ∧ Hid (k2.wr 2 2 = (k3, 0)) ∧ Hid (0 ≤ k3.r2 ∧ k3.r2 ≤ 1000) ∧ Hid (k3.go = (k4, 0)) ∧ Hid (k4.rd 3 = (k4, 2, 0)) ∧ Hid (k4.rd 4 = (k5, 239, 0)) ∧ Hid (k5.bind 5 = (k6, 0)) ∧ Hid (k6.runs 159 0 [] 1 = (k7, [], 1101)) ∧ Hid (k7.wr 4 1 = (k7, 1101)) ∧ Hid (k7.lost = true) ∧ Hid (k7.clocks = 77) := by
  have hr := rest_new a
  obtain ⟨s, hs⟩ : ∃ s, newSt a = s := ⟨_, rfl⟩
  have hsl : s.sel = false := by rw [← hs]; rfl
  have hA : s.A = a := by rw [← hs]; rfl
  rw [hs] at hr
  have e1 := kq_read hr hA 0 false 4 2 (by decide) (by decide)
  rw [ha] at e1
  have hV : plainV s 159 2 = [239, 64] := by rw [plainV_id hr 2]; decide +kernel
  have e3 : (⟨s, 159, 0, 2, [], [], false, false, 48, false, 0, false⟩ : K).runs 159 0 [] 2 = (⟨s, 159, 0, 2, [], [], false, false, 72, false, 0, false⟩, [239, 64], 0) := by
    have := kp_plain (k := ⟨s, 159, 0, 2, [], [], false, false, 48, false, 0, false⟩) rfl rfl rfl hr 159 (.inl rfl) 2 (by decide)
    rw [hV] at this
    exact this
  have hw : whB (rowP 159 0 [] 1) 5 = false := by decide
  have e7 : (⟨s, 159, 0, 2, [], [64], false, false, 72, true, 5, false⟩ : K).runs 159 0 [] 1 = ((⟨s, 159, 0, 2, [], [64], false, false, 72, true, 5, false⟩ : K).drv (rowP 159 0 [] 1), [], 1101) :=
    runs_cut rfl rfl (by decide) hw
  have hl7 : ((⟨s, 159, 0, 2, [], [64], false, false, 72, true, 5, false⟩ : K).drv (rowP 159 0 [] 1)).lost = true := by
    show (!whB (rowP 159 0 [] 1) 5) = true
    rw [hw]; rfl
  refine ⟨s, kq s 48 false false, ⟨s, 159, 0, 0, [], [], false, false, 48, false, 0, false⟩, ⟨s, 159, 0, 2, [], [], false, false, 48, false, 0, false⟩, ⟨s, 159, 0, 2, [], [239, 64], false, false, 72, false, 0, false⟩, ⟨s, 159, 0, 2, [], [64], false, false, 72, false, 0, false⟩, ⟨s, 159, 0, 2, [], [64], false, false, 72, true, 5, false⟩, _, hs, hsl, e1, runs_form rfl (by decide), K.wr_reg rfl (.inl rfl) (by decide) (by decide), K.wr_reg rfl (.inr (.inr rfl)) (by decide) (by decide), (show (0 : Int) ≤ 2 ∧ (2 : Int) ≤ 1000 by decide), ?_, rfl, rfl, rfl, e7, K.wr_lost hl7 4 1, hl7, ?_⟩
  · exact go_yes rfl (by show ((0 : Nat) : Int) + 2 ≤ 16; decide) (by decide) e3
  · show 72 + endN (rowP 159 0 [] 1) 5 = 77
    decide
theorem xyz_bytes : numI (bytesOf (wide ⟨#[120, 121, 122]⟩) 4 2) = [121, 122] := by
  have h := wide_size ⟨#[120, 121, 122]⟩
  have e : ∀ j, j < 4096 → ub (wide ⟨#[120, 121, 122]⟩) j = ub ⟨#[120, 121, 122]⟩ (j % 3) := fun j hj => by
    rw [wide_ub _ j hj]; rfl
  unfold bytesOf numI
  rw [h]
  simp only [List.range, List.range.loop, List.map_cons, List.map_nil]
  rw [e 4 (by decide), e 5 (by decide)]
  decide +kernel

theorem cgo_nilq (w : World) : Calls Tryz.prog 41 #[.pointer none] w fun e w' => e = .returned (.int .i64 1) ∧ w = w' := cgo_nil w

set_option maxRecDepth 100000 in
set_option maxHeartbeats 8000000 in
theorem cawake_any (w : World) : Calls Tryz.prog 50 #[] w fun e w' => e = .returned (.bool true) ∧ Below w.heap.size w w' := by
  go_enter Tryz.func50, Tryz.ntmps50
  go_wp2_with fail
  refine (ctwins_mine _ w (by unfold maxLen; decide)).mono ?_
  rintro e w1 ⟨bp, b, rfl, hbp, HL0, hbw⟩
  obtain ⟨s, k1, k2, k3, k4, k5, k6, k7, Hs, hsl, X1, X2, X3, X4, X5, X6, X7, X8, X9, X10, X11, X12, X13⟩ := wake_facts (wide ⟨#[120, 121, 122]⟩) xyz_bytes
  have HB0 : Hid (Below w.heap.size w w1) := hbw
  have HL : Hid (Lies 0 bp w1 s) := by rw [← Hs.out]; exact HL0.out
  clear HL0 hbw Hs
  go_wp2_with fail
  refine (kr_new HL.out hsl HB0.out hbp (Nat.le_refl _)).mono ?_
  rintro e w2 ⟨kb, rfl, H2⟩
  clear HL HB0 hsl
  go_wp2_with (go_at_call 31; refine (cnew_nil _).mono ?_; rintro e w3 ⟨rfl, rfl⟩)
  go_wp2_with (go_at_call 19; refine (num_any _ _).mono ?_; rintro e w3 ⟨rfl, rfl⟩)
  refine (kr_run_nil H2 X1 (by decide)).mono ?_
  rintro e w3 ⟨ua, uc, rfl, U3, H3, T3⟩
  have hlt := kr_lt H2
  clear H2 X1 T3
  go_wp2_with fail
  refine (kr_run_nil H3 X2 (by decide)).mono ?_
  rintro e w4 ⟨va, vc, rfl, U4, H4, T4⟩
  have U3 := owns_turns U3 T4 hlt.1 hlt.2
  clear H3 X2 T4 U4
  go_wp2_with fail
  refine (kr_write H4 X3).mono ?_
  rintro e w5 ⟨rfl, H5, T5⟩
  have U3 := owns_turns U3 T5 hlt.1 hlt.2
  clear H4 X3 T5
  go_wp2_with fail
  refine (kr_write H5 X4).mono ?_
  rintro e w6 ⟨rfl, H6, T6⟩
  have U3 := owns_turns U3 T6 hlt.1 hlt.2
  clear H5 X4 T6
  go_wp2_with fail
  refine (kr_go H6 X6 X5.out (by decide)).mono ?_
  rintro e w7 ⟨rfl, H7, T7⟩
  have U3 := owns_turns U3 T7 hlt.1 hlt.2
  clear H6 X6 T7
  go_wp2_with fail
  refine (kr_read H7 X7).mono ?_
  rintro e w8 ⟨rfl, H8, T8⟩
  have U3 := owns_turns U3 T8 hlt.1 hlt.2
  clear H7 X7 T8
  go_wp2_with fail
  refine (kr_read H8 X8).mono ?_
  rintro e w9 ⟨rfl, H9, T9⟩
  have U3 := owns_turns U3 T9 hlt.1 hlt.2
  clear H8 X8 T9
  go_wp2_with fail
  refine (kr_cut H9 X9 (by decide)).mono ?_
  rintro e w10 ⟨rfl, H10, T10⟩
  have U3 := owns_turns U3 T10 hlt.1 hlt.2
  clear H9 X9 T10
  go_wp2_with fail
  refine (kr_run_nil H10 X10 (by decide)).mono ?_
  rintro e w11 ⟨xa, xc, rfl, U11, H11, T11⟩
  have U3 := owns_turns U3 T11 hlt.1 hlt.2
  clear H10 X10 T11 U11
  go_wp2_with fail
  refine (kr_write H11 X11).mono ?_
  rintro e w12 ⟨rfl, H12, T12⟩
  have U3 := owns_turns U3 T12 hlt.1 hlt.2
  clear H11 X11 T12
  go_wp2_with fail
  refine (num_any _ _).mono ?_
  rintro e w13 ⟨rfl, rfl⟩
  have hb13 := below_new w12 (.cells #[.int .i64 121, .int .i64 122] 3)
  have U13 := owns_below U3 hb13
  have H13 := kr_below H12 hb13
  have L13 : Hid (Reads _ _ _) := lit_reads w12 #[.int .i64 121, .int .i64 122] [121, 122] 2 rfl rfl
  clear U3 H12 hb13
  go_wp2_with fail
  refine (same_any _ _ _ _ _ U13.out.reads L13.out (by decide) (by decide)).mono ?_
  rintro e w14 ⟨rfl, b14⟩
  have H14 := kr_below H13 b14
  clear b14 H13 U13 L13
  go_wp2_with (first | (go_at_call 19; refine (num_any _ _).mono ?_; rintro e w15 ⟨rfl, rfl⟩) | (go_at_call 48; refine (kr_lost H14 X12.out).mono ?_; rintro e w15 ⟨rfl, rfl⟩) | (go_at_call 47; refine (kr_clocks H14 X13.out).mono ?_; rintro e w15 ⟨rfl, rfl⟩) | (go_at_call 41; refine (cgo_nil _).mono ?_; rintro e w15 ⟨rfl, rfl⟩))
  go_ret
  exact ⟨rfl, H14.out.below⟩
end Go.Proofs.YtjhjghakfedeeaaGreat
