/-
  What the laws on a controller want of its answers: plain facts. Nothing of the program is named.
-/
import Derived.Test.YtjhjghakfedeeaaGreatAwake11
namespace Go.Proofs.YtjhjghakfedeeaaGreat
open Go.RowKit Plain
set_option linter.unusedVariables false

theorem quads_back {s : St} {A : ByteArray} (h : s.Quads A false) : ({ ({ s with goes := true } : St) with goes := false } : St) = s := by
  have h1 := h.goes
  cases s; cases h1; rfl
theorem fit_len {b at' r : Int} {L : List Int} (hf : fitC b at' L r = true) (s : St) : True := trivial
/-- A command that is none of those with mode bits, behind a start with four lanes let be. -/
theorem exit_facts {s : St} {A : ByteArray} (h : s.Quads A false) (K : Nat) (hK : K < 4) (k : Nat) (hk : k < 4096) :
    ∃ (b z : Int) (V : List Int) (N : Nat), b = [159, 3, 53, 107].getD K 0 ∧ z = (if K % 2 = 1 then (k : Int) else 0) ∧ b ≠ 235 ∧ fitC b z [] 3 = true ∧ N ≤ 1000 ∧ V.length ≤ 1000 ∧ ∀ c md, (kq s c false md).runs b z [] 3 = (kq s (c + N) false md, V, 0) := by
  have hr := quads_rest h
  rcases (show K = 0 ∨ K = 1 ∨ K = 2 ∨ K = 3 by omega) with rfl | rfl | rfl | rfl
  · exact ⟨159, 0, plainV s 159 3, 8 + 8 * 3, rfl, rfl, by decide, (row_plain 159 (.inl rfl) 3 (by decide)).2, by decide, by rw [plainV_len hr 159 (.inl rfl) 3 (by decide)]; decide, fun c md => kq_plain hr c md 159 (.inl rfl) 3 (by decide)⟩
  · exact ⟨3, k, numI (bytesOf A k 3), 32 + 8 * 3, rfl, rfl, by decide, (row_read k 3 hk (by decide)).2, by decide, by rw [numI_length, bytesOf_length]; decide, fun c md => kq_read hr h.A c md k 3 hk (by decide)⟩
  · exact ⟨53, 0, plainV s 53 3, 8 + 8 * 3, rfl, rfl, by decide, (row_plain 53 (.inr (.inr rfl)) 3 (by decide)).2, by decide, by rw [plainV_len hr 53 (.inr (.inr rfl)) 3 (by decide)]; decide, fun c md => kq_plain hr c md 53 (.inr (.inr rfl)) 3 (by decide)⟩
  · exact ⟨107, k, numI (bytesOf A k 3), 40 + 2 * 3, rfl, rfl, by decide, (row_quadOut k 3 hk (by decide)).2, by decide, by rw [numI_length, bytesOf_length]; decide, fun c md => kq_quadOut hr h.quad h.A c md k 3 hk (by decide)⟩
theorem exit_all {s : St} {A : ByteArray} (h : s.Quads A false) (K : Nat) (hK : K < 4) (k : Nat) (hk : k < 4096) :
    ∃ (b z : Int) (V W : List Int) (N M C1 C2 C3 C4 : Nat) (t : St), b = [159, 3, 53, 107].getD K 0 ∧ z = (if K % 2 = 1 then (k : Int) else 0) ∧
      Hid ((kq s 32 false false).runs b z [] 3 = (kq s C1 false false, V, 0)) ∧ Hid ((kq s C1 false false).runs 235 k [160] 1 = (kq t C2 true false, W, 0)) ∧ Hid ((kq t C2 true false).runs b z [] 3 = (kq s C3 false true, V, 0)) ∧ Hid ((kq s C3 false true).runs b z [] 3 = (kq s C4 false true, V, 0)) ∧
      V.length * 8 ≤ 140737488351232 ∧ (C1 : Int) - 32 = (N : Int) ∧ (C3 : Int) - (C2 : Int) = (M : Int) ∧ (C4 : Int) - (C3 : Int) = (N : Int) ∧ (N : Int) + 8 = (M : Int) ∧ wrap64 (N : Int) = (N : Int) ∧ wrap64 (M : Int) = (M : Int) := by
  obtain ⟨b, z, V, N, hb, hto, hb235, hfit, hN, hV, hR⟩ := exit_facts h K hK k hk
  refine ⟨b, z, V, numI (bytesOf A k 1), N, N + 8, 32 + N, 32 + N + (20 + 2 * 1), 32 + N + (20 + 2 * 1) + 8 + N, 32 + N + (20 + 2 * 1) + 8 + N + N, { s with goes := true }, hb, hto, hR 32 false, kq_io0 h (32 + N) false k 160 1 hk (by decide) (by decide), ?_, hR _ _, by omega, by omega, by omega, by omega, by omega, IntWalk.wrap64_in _ (by omega), IntWalk.wrap64_in _ (by omega)⟩
  have e := kq_quit (quads_goes h true) (32 + N + (20 + 2 * 1)) false hb235 hfit
  rw [quads_back h] at e
  exact e.trans (hR _ _)
theorem saves_all {s : St} {A : ByteArray} (h : s.Quads A false) (K : Nat) (hK : K < 32) (k : Nat) (hk : k < 4096) :
    ∃ (V : List Int) (m M2 F S C1 C2 C3 : Nat) (t t' : St), Hid ((kq s 32 false false).runs 235 k [160] m = (kq t C1 true false, V, 0)) ∧ Hid ((kq t C1 true false).runs 235 k [0] m = (kq s C2 false false, V, 0)) ∧ Hid ((kq s C2 false false).runs 235 k [0] m = (kq t' C3 false false, V, 0)) ∧
      V.length * 8 ≤ 140737488351232 ∧ Hid (1 + (K : Int) = (m : Int)) ∧ Hid (2 * (m : Int) = (M2 : Int)) ∧ Hid (20 + (M2 : Int) = (F : Int)) ∧ Hid ((F : Int) - 8 = (S : Int)) ∧ Hid ((C1 : Int) - 32 = (F : Int)) ∧ Hid ((C2 : Int) - (C1 : Int) = (S : Int)) ∧ Hid ((C3 : Int) - (C2 : Int) = (F : Int)) ∧
      Hid (wrap64 (m : Int) = (m : Int)) ∧ Hid (wrap64 (M2 : Int) = (M2 : Int)) ∧ Hid (wrap64 (F : Int) = (F : Int)) ∧ Hid (wrap64 (S : Int) = (S : Int)) := by
  have e := kq_io1 (quads_goes h true) (32 + (20 + 2 * (1 + K))) false k 0 (1 + K) hk (by decide) (by omega)
  have e0 : ({ ({ s with goes := true } : St) with goes := decide ((0 : Nat) = 160) } : St) = s := quads_back h
  rw [e0] at e
  exact ⟨numI (bytesOf A k (1 + K)), 1 + K, 2 * (1 + K), 20 + 2 * (1 + K), 12 + 2 * (1 + K), 32 + (20 + 2 * (1 + K)), 32 + (20 + 2 * (1 + K)) + (12 + 2 * (1 + K)), 32 + (20 + 2 * (1 + K)) + (12 + 2 * (1 + K)) + (20 + 2 * (1 + K)), { s with goes := true }, _,
    kq_io0 h 32 false k 160 (1 + K) hk (by decide) (by omega), e, kq_io0 h _ false k 0 (1 + K) hk (by decide) (by omega), by rw [numI_length, bytesOf_length]; omega, by unfold Hid; omega, by unfold Hid; omega, by unfold Hid; omega, by unfold Hid; omega, by unfold Hid; omega, by unfold Hid; omega, by unfold Hid; omega,
    IntWalk.wrap64_in _ (by omega), IntWalk.wrap64_in _ (by omega), IntWalk.wrap64_in _ (by omega), IntWalk.wrap64_in _ (by omega)⟩
theorem reads_at {w : World} {a : Option Addr} {n c : Nat} {L : List Int} (h : Reads w (.slice a n c) L) (hn : L.length = n) (j : Nat) (hj : j < n) : ∃ g o, a = some ⟨g, o, none⟩ ∧ w.cell? ⟨g, o + j, none⟩ = some (.int .i64 (L.getD j 0)) := by
  obtain ⟨a', c', e, hr⟩ := h
  injection e with e1 e2 e3
  obtain ⟨g, o, e4, hc⟩ := hr (by omega)
  exact ⟨g, o, e1.trans e4, hc j (by omega)⟩
/-- A controller with a bound. -/
def kbd (s : St) (c l : Nat) : K := ⟨s, 0, 0, 0, [], [], false, false, c, true, (l : Int), false⟩
theorem kbd_most (s : St) (c l : Nat) : (kbd s c l).most = (l : Int) := rfl
theorem id_row (M : Nat) (hM : M ≤ 512) : nR (rowP 159 0 [] M) = 8 + 8 * M ∧ insR (rowP 159 0 [] M) = wordL [159] ++ List.replicate (8 * M) 15 := by
  have hrow : rowP 159 0 [] M = headP 159 ++ readPh 1 M := (row_plain 159 (.inl rfl) M hM).1
  rw [hrow]
  constructor
  · rw [nR_app, readPh_n, bc_one, Nat.mul_comm M 8]; rfl
  · rw [insR_app, headP_ins 159 (by decide), readPh_ins, bc_one, Nat.mul_comm M 8]
theorem kbd_yes {s : St} (h : s.Rest) (c l M : Nat) (hM : M ≤ 512) (hl : 8 + 8 * M ≤ l) : ∃ V, V.length = M ∧ (kbd s c l).runs 159 0 [] M = (kbd s (c + (8 + 8 * M)) (l - (8 + 8 * M)), V, 0) := by
  obtain ⟨hn, hi⟩ := id_row M hM
  have hf : fitC 159 0 [] M = true := (row_plain 159 (.inl rfl) M hM).2
  have hw : whB (rowP 159 0 [] M) (kbd s c l).most = true := by
    rw [kbd_most]; unfold whB; rw [hn]; simp; omega
  refine ⟨drvL s (rowP 159 0 [] M) l, ?_, ?_⟩
  · have hok : okR (rowP 159 0 [] M) = true := fit_ok hf
    rw [drvL_len s _ _ hok (by rw [kbd_most] at hw; exact hw)]
    exact (rdN_phL _ _ _ _).trans (by simp)
  · unfold K.runs
    have hl0 : (kbd s c l).lost = false := rfl
    have hg0 : (kbd s c l).goes = false := rfl
    rw [if_neg (by rw [hl0]; decide), if_neg (by rw [hf]; decide), if_neg (by rw [hg0]; simp), if_neg (by rw [hg0]; simp)]
    have e : (kbd s c l).endR = kbd s c l := rfl
    rw [e, (fin_yes (kbd s c l) (rowP 159 0 [] M) (isOn 159 []) hw).1]
    obtain ⟨d1, -, d3⟩ := drv_whole s (rowP 159 0 [] M) l (by rw [kbd_most] at hw; exact hw)
    unfold K.drv
    rw [kbd_most] at hw ⊢
    rw [show (kbd s c l).s = s from rfl, d1, d3, hi, hn, say_plain h 159 (.inl rfl) M, hw]
    have e2 : ((l : Int) - ((8 + 8 * M : Nat) : Int)) = ((l - (8 + 8 * M) : Nat) : Int) := by omega
    unfold kbd
    rw [← e2]
    rfl
theorem kbd_no (s : St) (c l M : Nat) (hM : M ≤ 512) (hl : l < 8 + 8 * M) : ∃ k' : K, (kbd s c l).runs 159 0 [] M = (k', [], 1101) ∧ k'.lost = true ∧ k'.clocks = c + l := by
  obtain ⟨hn, hi⟩ := id_row M hM
  have hf : fitC 159 0 [] M = true := (row_plain 159 (.inl rfl) M hM).2
  have hw : whB (rowP 159 0 [] M) (kbd s c l).most = false := by
    rw [kbd_most]; unfold whB; rw [hn]; simp; omega
  refine ⟨_, runs_cut rfl rfl hf hw, ?_, ?_⟩
  · show (!whB _ _) = true
    rw [hw]; rfl
  · show c + endN _ (kbd s c l).most = c + l
    unfold endN
    rw [hw, kbd_most]; simp
/-- What is answered in a round of CtlCuts. -/
theorem cuts_round {s : St} (h : s.Rest) (T L M : Nat) (hT : T ≤ 1023) (hL : L ≤ T) (hM : M < 16) :
    ∃ M8 ND : Nat, 8 * (M : Int) = (M8 : Int) ∧ 8 + (M8 : Int) = (ND : Int) ∧ wrap64 (M8 : Int) = (M8 : Int) ∧ wrap64 (ND : Int) = (ND : Int) ∧
      ((L < ND ∧ ∃ k' : K, Hid ((kbd s (T - L) L).runs 159 0 [] M = (k', [], 1101)) ∧ k'.lost = true ∧ k'.clocks = T) ∨
       (ND ≤ L ∧ ∃ (V : List Int) (L2 C2 : Nat), V.length = M ∧ Hid ((kbd s (T - L) L).runs 159 0 [] M = (kbd s C2 L2, V, 0)) ∧ Hid (C2 = T - L2) ∧ L2 ≤ T ∧ Hid ((L : Int) - (ND : Int) = (L2 : Int)) ∧ Hid (wrap64 (L2 : Int) = (L2 : Int)) ∧ Hid ((T : Int) - (L2 : Int) = (C2 : Int)) ∧ Hid (wrap64 (C2 : Int) = (C2 : Int)))) := by
  refine ⟨8 * M, 8 + 8 * M, by omega, by omega, IntWalk.wrap64_in _ (by omega), IntWalk.wrap64_in _ (by omega), ?_⟩
  by_cases hl : L < 8 + 8 * M
  · obtain ⟨k', h1, h2, h3⟩ := kbd_no s (T - L) L M (by omega) hl
    exact .inl ⟨hl, k', h1, h2, by omega⟩
  · obtain ⟨V, h1, h2⟩ := kbd_yes h (T - L) L M (by omega) (by omega)
    refine .inr ⟨by omega, V, L - (8 + 8 * M), T - L + (8 + 8 * M), h1, h2, by unfold Hid; omega, by omega, by unfold Hid; omega, IntWalk.wrap64_in _ (by omega), by unfold Hid; omega, IntWalk.wrap64_in _ (by omega)⟩
end Go.Proofs.YtjhjghakfedeeaaGreat
