/-
  Push and Pop where there is room, or something in: each by a contract. Conditions: the queue lies in memory as told.
-/
import Derived.Test.YtkmhcihkdpdmoaaFifo
namespace Go.Proofs.Ytkmhcihkdpdmoaa
open Go.RowKit
set_option linter.unusedVariables false

theorem RingAt.drewN {w : World} {b : Nat} {R : List Int} {f c : Nat} (h : RingAt w b R f c) (n : Nat) : RingAt (w.drewN n) b R f c := by
  refine ⟨h.1, ?_⟩
  have := h.2
  unfold Blk at this ⊢
  rw [World.heap_drewN]; exact this
theorem ring_push {R L : List Int} {f : Nat} (hR : R.length = 16) (hf : f < 16) (hl : L.length < 16) (h : ∀ j, j < L.length → R.getD ((f + j) % 16) 0 = L.getD j 0) (x : Int) :
    ∀ j, j < (L ++ [x]).length → (R.set ((f + L.length) % 16) x).getD ((f + j) % 16) 0 = (L ++ [x]).getD j 0 := by
  intro j hj
  rw [List.length_append] at hj
  have hm : (f + j) % 16 < 16 := Nat.mod_lt _ (by decide)
  rw [List.getD_eq_getElem?_getD, List.getElem?_set]
  by_cases e : j = L.length
  · subst e
    rw [if_pos rfl, if_pos (by rw [hR]; exact hm), List.getD_eq_getElem?_getD, List.getElem?_append_right (Nat.le_refl _), Nat.sub_self]; rfl
  · have hj' : j < L.length := by simp at hj; omega
    rw [if_neg (by omega), ← List.getD_eq_getElem?_getD, h j hj', List.getD_eq_getElem?_getD, List.getD_eq_getElem?_getD, List.getElem?_append_left hj']
theorem ring_pop {R L : List Int} {f : Nat} (hf : f < 16) {x : Int} (hl : (x :: L).length ≤ 16) (h : ∀ j, j < (x :: L).length → R.getD ((f + j) % 16) 0 = (x :: L).getD j 0) :
    R.getD f 0 = x ∧ ∀ j, j < L.length → R.getD (((f + 1) % 16 + j) % 16) 0 = L.getD j 0 := by
  refine ⟨?_, fun j hj => ?_⟩
  · have := h 0 (by simp)
    rw [show (f + 0) % 16 = f by omega] at this
    exact this
  · have := h (j + 1) (by simp; omega)
    rw [show (f + (j + 1)) % 16 = ((f + 1) % 16 + j) % 16 by omega] at this
    exact this

set_option maxHeartbeats 1000000 in
theorem push_yes (b : Nat) (L : List Int) (x : Int) (w : World) (h : Fif w b L) (hl : L.length < 16) :
    Calls Try.prog 10 #[.pointer (some ⟨b, 0, none⟩), .int .i64 x] w fun e w' => e = .returned (.int .i64 0) ∧ Fif w' b (L ++ [x]) ∧ Only b w w' := by
  obtain ⟨R, f, h1, h2, h3, h4⟩ := h
  have H4 : Hid (∀ j, j < L.length → R.getD ((f + j) % 16) 0 = L.getD j 0) := h4
  have HR : Hid (RingAt w b R f L.length) := h3
  obtain ⟨c, hc⟩ : ∃ c, c = L.length := ⟨_, rfl⟩
  have HC : Hid (c = L.length) := hc
  rw [← hc] at h3 hl
  have c17 := h3.count
  obtain ⟨p, hp⟩ : ∃ p : Nat, p = (f + c) % 16 := ⟨_, rfl⟩
  have HP : Hid (p = (f + c) % 16) := hp
  have hp16 : p < 16 := by rw [hp]; exact Nat.mod_lt _ (by decide)
  have cp := h3.ring p hp16
  have fp := h3.2.frozen p
  have HPl : Hid (∀ v : World, RingAt v b R f c → Calls Try.prog 14 #[.pointer (some ⟨b, 0, none⟩), .int .i64 (c : Int)] v fun e w' => e = .returned (.int .i64 (p : Int)) ∧ v = w') := fun v hv => by
    rw [hp]; exact place_any b R f c c v hv h1 (by omega)
  have h3d : RingAt w.drew b R f c := h3
  have H3 : Hid (RingAt w b R f c) := h3
  obtain ⟨y, hy⟩ : ∃ y, y = R.getD p 0 := ⟨_, rfl⟩
  rw [← hy] at cp
  have hn : ((c : Int) == 16) = false := beq_eq_false_iff_ne.2 (by omega)
  have hp0 : (0 : Int) ≤ p := by omega
  have hpi : (p : Int) < 16 := by omega
  have g1 := h3.setRing p hp16 x
  have d17 := g1.count
  have e17 := g1.2.frozen 17
  have G2 : Hid (RingAt ((w.setCell ⟨b, p, none⟩ (.int .i64 x)).setCell ⟨b, 17, none⟩ (.int .i64 ((c : Int) + 1))) b (R.set p x) f (c + 1)) := g1.setCount (c + 1)
  clear h4 h2 hc hp hy h3 g1
  go_enter Try.func10, Try.ntmps10
  go_wp2
  go_region_with (go_at_call 14; refine (HPl.out _ h3d).mono ?_; rintro e w' ⟨rfl, rfl⟩)
  all_goals
    go_wp2
    go_ret
    refine ⟨rfl, ⟨R.set p x, f, h1, by rw [List.length_append]; show L.length + 1 ≤ 16; rw [← HC.out]; omega, ?_, ?_⟩, ?_⟩
    · have e : (L ++ [x]).length = c + 1 := by rw [List.length_append, HC.out]; rfl
      rw [e]
      exact G2.out
    · have := ring_push H3.out.1 h1 (by rw [← HC.out]; exact hl) H4.out x
      rw [← HC.out, ← HP.out] at this
      exact this
    · exact (((Only.refl b w).set p _).set 17 _).drew

set_option maxHeartbeats 1000000 in
theorem pop_yes (b : Nat) (x : Int) (L : List Int) (w : World) (h : Fif w b (x :: L)) :
    Calls Try.prog 7 #[.pointer (some ⟨b, 0, none⟩)] w fun e w' => e = .returned (.tuple #[.int .i64 x, .int .i64 0]) ∧ Fif w' b L ∧ Only b w w' := by
  obtain ⟨R, f, h1, h2, h3, h4⟩ := h
  obtain ⟨hx, h4'⟩ := ring_pop h1 h2 h4
  have H4 : Hid (∀ j, j < L.length → R.getD (((f + 1) % 16 + j) % 16) 0 = L.getD j 0) := h4'
  obtain ⟨c, hc⟩ : ∃ c, c = L.length := ⟨_, rfl⟩
  have HC : Hid (c = L.length) := hc
  rw [List.length_cons, ← hc] at h3 h2
  have c17 : w.cell? ⟨b, 17, none⟩ = some (.int .i64 ((c : Int) + 1)) := h3.count
  have c16 := h3.first
  have cf := h3.ring f h1
  rw [hx] at cf
  obtain ⟨p, hp⟩ : ∃ p : Nat, p = (f + 1) % 16 := ⟨_, rfl⟩
  have HP : Hid (p = (f + 1) % 16) := hp
  have hp16 : p < 16 := by rw [hp]; exact Nat.mod_lt _ (by decide)
  have HPl : Hid (∀ v : World, RingAt v b R f (c + 1) → Calls Try.prog 14 #[.pointer (some ⟨b, 0, none⟩), .int .i64 1] v fun e w' => e = .returned (.int .i64 (p : Int)) ∧ v = w') := fun v hv => by
    rw [hp]; exact place_any b R f (c + 1) 1 v hv h1 (by omega)
  have hn : (((c : Int) + 1) == 0) = false := beq_eq_false_iff_ne.2 (by omega)
  have hf0 : (0 : Int) ≤ f := by omega
  have hfi : (f : Int) < 16 := by omega
  have H3 : Hid (RingAt w b R f (c + 1)) := h3
  clear h4 h4' hc hp h3 hx
  go_enter Try.func7, Try.ntmps7
  go_wp2
  go_quiet (fail)
  obtain ⟨W, hW⟩ : ∃ W, W = w.drewN nq := ⟨_, rfl⟩
  have h3 : RingAt W b R f (c + 1) := by rw [hW]; exact H3.out.drewN _
  have HO : Hid (Only b w W) := by rw [hW]; exact (Only.refl b w).drewN _
  rw [← hW]
  clear hW cf c16 c17
  have f16 := h3.2.frozen 16
  have c16 := h3.first
  have g1 := h3.setFirst p
  have d17 : (W.setCell ⟨b, 16, none⟩ (.int .i64 (p : Int))).cell? ⟨b, 17, none⟩ = some (.int .i64 ((c : Int) + 1)) := g1.count
  have e17 := g1.2.frozen 17
  have G2 : Hid (RingAt ((W.setCell ⟨b, 16, none⟩ (.int .i64 (p : Int))).setCell ⟨b, 17, none⟩ (.int .i64 (c : Int))) b R p c) := g1.setCount c
  have H3 : Hid (RingAt W b R f (c + 1)) := h3
  clear h3 g1
  go_wp2_with (go_at_call 14; refine (HPl.out _ H3.out).mono ?_; rintro e w' ⟨rfl, rfl⟩)
  go_ret2
  refine ⟨rfl, ⟨R, p, hp16, by rw [← HC.out]; omega, by rw [← HC.out]; exact G2.out, ?_⟩, (HO.out.set 16 _).set 17 _⟩
  rw [HP.out]
  exact H4.out

theorem push_any (b : Nat) (L : List Int) (x : Int) (w : World) (h : Fif w b L) :
    Calls Try.prog 10 #[.pointer (some ⟨b, 0, none⟩), .int .i64 x] w fun e w' => e = .returned (.int .i64 (pushE L)) ∧ Fif w' b (pushL L x) ∧ Only b w w' := by
  by_cases hl : L.length < 16
  · rw [show pushE L = 0 from if_pos hl, show pushL L x = L ++ [x] from if_pos hl]
    exact push_yes b L x w h hl
  · rw [show pushE L = 801 from if_neg hl, show pushL L x = L from if_neg hl]
    exact (push_full b L x w h (by have := h.le; omega)).mono fun e w' ⟨h1, h2⟩ => by subst h2; exact ⟨h1, h, Only.refl _ _⟩
theorem pop_any (b : Nat) (L : List Int) (w : World) (h : Fif w b L) :
    Calls Try.prog 7 #[.pointer (some ⟨b, 0, none⟩)] w fun e w' => e = .returned (.tuple #[.int .i64 (popV L), .int .i64 (popE L)]) ∧ Fif w' b (popL L) ∧ Only b w w' := by
  cases L with
  | nil => exact (pop_none b w h).mono fun e w' ⟨h1, h2⟩ => by subst h2; exact ⟨h1, h, Only.refl _ _⟩
  | cons x L => exact pop_yes b x L w h
end Go.Proofs.Ytkmhcihkdpdmoaa
