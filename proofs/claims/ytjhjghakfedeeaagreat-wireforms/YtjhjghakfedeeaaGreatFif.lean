/-
  The queue of package fifo as it lies within a block of memory, at any place, and each of its calls by a contract. Conditions: the queue lies in memory as told.
-/
import Derived.Test.YtjhjghakfedeeaaGreatCalls
import Derived.BigQuiet
import Derived.BigRegion
import Derived.Deep.QuietTactic
import Derived.Deep.CutRange
import Derived.Deep.RegionHeld3
namespace Go.Proofs.YtjhjghakfedeeaaGreat
open Go.RowKit Plain
set_option linter.unusedVariables false

/-- A row of at most 16: what a push and a pop answer, and leave. -/
def pushE (L : List Int) : Int := if L.length < 16 then 0 else 801
def pushL (L : List Int) (x : Int) : List Int := if L.length < 16 then L ++ [x] else L
def popE : List Int → Int | [] => 800 | _ :: _ => 0
def popV : List Int → Int | [] => 0 | x :: _ => x
def popL : List Int → List Int | [] => [] | _ :: L => L
theorem pushL_le {L : List Int} (h : L.length ≤ 16) (x : Int) : (pushL L x).length ≤ 16 := by
  unfold pushL; split
  · rw [List.length_append]; simp; omega
  · exact h
theorem popL_le {L : List Int} (h : L.length ≤ 16) : (popL L).length ≤ 16 := by
  cases L with
  | nil => exact h
  | cons x L => simp [popL] at h ⊢; omega
/-- The cells of a queue: the ring, where it begins, how many are in. -/
def ringCells (R : List Int) (f c : Nat) : List Value := R.map (Value.int .i64) ++ [.int .i64 (f : Int), .int .i64 (c : Int)]
theorem ringCells_len {R : List Int} {f c : Nat} (h : R.length = 16) : (ringCells R f c).length = 18 := by simp [ringCells, h]
/-- Ring R, first f hold the row L. -/
structure Holds (R : List Int) (f : Nat) (L : List Int) : Prop where
  ring : R.length = 16
  first : f < 16
  few : L.length ≤ 16
  at' : ∀ j, j < L.length → R.getD ((f + j) % 16) 0 = L.getD j 0
/-- At place o of block b lies a queue of ring R, first f, count c; ahead of it pre, behind it post. -/
structure RingAt (w : World) (b : Nat) (T : TypeId) (o : Nat) (pre post : List Value) (R : List Int) (f c : Nat) : Prop where
  ring : R.length = 16
  plen : pre.length = o
  blk : Blk w b T (pre ++ (ringCells R f c ++ post))

theorem ringCells_ring (R : List Int) (f c i : Nat) (h : i < R.length) : (ringCells R f c)[i]? = some (.int .i64 (R.getD i 0)) := by
  unfold ringCells
  rw [List.getElem?_append_left (by simpa using h), List.getElem?_map, List.getD_eq_getElem?_getD, List.getElem?_eq_getElem h]; rfl
theorem ringCells_first (R : List Int) (f c : Nat) (h : R.length = 16) : (ringCells R f c)[16]? = some (.int .i64 (f : Int)) := by
  unfold ringCells
  rw [List.getElem?_append_right (by simp [h]), List.length_map, h]; rfl
theorem ringCells_count (R : List Int) (f c : Nat) (h : R.length = 16) : (ringCells R f c)[17]? = some (.int .i64 (c : Int)) := by
  unfold ringCells
  rw [List.getElem?_append_right (by simp [h]), List.length_map, h]; rfl
theorem ringCells_setRing (R : List Int) (f c i : Nat) (x : Int) (h : i < R.length) : (ringCells R f c).set i (.int .i64 x) = ringCells (R.set i x) f c := by
  unfold ringCells
  rw [List.set_append_left _ _ (by simpa using h), List.map_set]
theorem ringCells_setFirst (R : List Int) (f c f' : Nat) (h : R.length = 16) : (ringCells R f c).set 16 (.int .i64 (f' : Int)) = ringCells R f' c := by
  unfold ringCells
  rw [List.set_append_right _ _ (by simp [h]), List.length_map, h]; rfl
theorem ringCells_setCount (R : List Int) (f c c' : Nat) (h : R.length = 16) : (ringCells R f c).set 17 (.int .i64 (c' : Int)) = ringCells R f c' := by
  unfold ringCells
  rw [List.set_append_right _ _ (by simp [h]), List.length_map, h]; rfl
theorem mid_get (pre post cs : List Value) (o i : Nat) (hp : pre.length = o) (hi : i < cs.length) : (pre ++ (cs ++ post))[o + i]? = cs[i]? := by
  rw [List.getElem?_append_right (by omega), hp, Nat.add_sub_cancel_left, List.getElem?_append_left hi]
theorem mid_set (pre post cs : List Value) (o i : Nat) (v : Value) (hp : pre.length = o) (hi : i < cs.length) : (pre ++ (cs ++ post)).set (o + i) v = pre ++ (cs.set i v ++ post) := by
  rw [List.set_append_right _ _ (by omega), hp, Nat.add_sub_cancel_left, List.set_append_left _ _ hi]

variable {w : World} {b o f c : Nat} {T : TypeId} {pre post : List Value} {R : List Int}
theorem RingAt.at_ (h : RingAt w b T o pre post R f c) (i : Nat) (hi : i < 18) : w.cell? ⟨b, o + i, none⟩ = (ringCells R f c)[i]? := by
  have hl : (ringCells R f c).length = 18 := ringCells_len h.ring
  rw [(List.getElem?_eq_some_iff.2 ⟨by omega, rfl⟩ : (ringCells R f c)[i]? = some ((ringCells R f c)[i]'(by omega)))]
  refine h.blk.cell (o + i) ?_
  rw [mid_get pre post _ o i h.plen (by omega)]
  exact List.getElem?_eq_some_iff.2 ⟨by omega, rfl⟩
theorem RingAt.cring (h : RingAt w b T o pre post R f c) (i : Nat) (hi : i < 16) : w.cell? ⟨b, o + i, none⟩ = some (.int .i64 (R.getD i 0)) := (h.at_ i (by omega)).trans (ringCells_ring R f c i (by rw [h.ring]; exact hi))
theorem RingAt.cfirst (h : RingAt w b T o pre post R f c) : w.cell? ⟨b, o + 16, none⟩ = some (.int .i64 (f : Int)) := (h.at_ 16 (by omega)).trans (ringCells_first R f c h.ring)
theorem RingAt.ccount (h : RingAt w b T o pre post R f c) : w.cell? ⟨b, o + 17, none⟩ = some (.int .i64 (c : Int)) := (h.at_ 17 (by omega)).trans (ringCells_count R f c h.ring)
theorem RingAt.setRing (h : RingAt w b T o pre post R f c) (i : Nat) (hi : i < 16) (x : Int) : RingAt (w.setCell ⟨b, o + i, none⟩ (.int .i64 x)) b T o pre post (R.set i x) f c := by
  refine ⟨by rw [List.length_set]; exact h.ring, h.plen, ?_⟩
  have := h.blk.set (o + i) (.int .i64 x)
  rw [mid_set pre post _ o i _ h.plen (by rw [ringCells_len h.ring]; omega), ringCells_setRing R f c i x (by rw [h.ring]; exact hi)] at this
  exact this
theorem RingAt.setFirst (h : RingAt w b T o pre post R f c) (f' : Nat) : RingAt (w.setCell ⟨b, o + 16, none⟩ (.int .i64 (f' : Int))) b T o pre post R f' c := by
  refine ⟨h.ring, h.plen, ?_⟩
  have := h.blk.set (o + 16) (.int .i64 (f' : Int))
  rw [mid_set pre post _ o 16 _ h.plen (by rw [ringCells_len h.ring]; omega), ringCells_setFirst R f c f' h.ring] at this
  exact this
theorem RingAt.setCount (h : RingAt w b T o pre post R f c) (c' : Nat) : RingAt (w.setCell ⟨b, o + 17, none⟩ (.int .i64 (c' : Int))) b T o pre post R f c' := by
  refine ⟨h.ring, h.plen, ?_⟩
  have := h.blk.set (o + 17) (.int .i64 (c' : Int))
  rw [mid_set pre post _ o 17 _ h.plen (by rw [ringCells_len h.ring]; omega), ringCells_setCount R f c c' h.ring] at this
  exact this
theorem RingAt.same {w' : World} (h : RingAt w b T o pre post R f c) (e : w'.heap[b]? = w.heap[b]?) : RingAt w' b T o pre post R f c := by
  refine ⟨h.ring, h.plen, ?_⟩
  have := h.blk
  unfold Blk at this ⊢
  rw [e]; exact this
theorem RingAt.drewN (h : RingAt w b T o pre post R f c) (n : Nat) : RingAt (w.drewN n) b T o pre post R f c := h.same (by rw [World.heap_drewN])

theorem place_any (b o : Nat) (T : TypeId) (pre post : List Value) (R : List Int) (f c k : Nat) (w : World) (h : RingAt w b T o pre post R f c) (hf : f < 16) (hk : k ≤ 16) :
    Calls Tryz.prog 121 #[.pointer (some ⟨b, o, none⟩), .int .i64 (k : Int)] w fun e w' => e = .returned (.int .i64 (((f + k) % 16 : Nat) : Int)) ∧ w = w' := by
  have c16 := h.cfirst
  go_enter Tryz.func121, Tryz.ntmps121
  go_wp2
  go_ret
  exact ⟨rfl, rfl⟩
theorem len_any (b o : Nat) (T : TypeId) (pre post : List Value) (R : List Int) (f c : Nat) (w : World) (h : RingAt w b T o pre post R f c) :
    Calls Tryz.prog 82 #[.pointer (some ⟨b, o, none⟩)] w fun e w' => e = .returned (.int .i64 (c : Int)) ∧ w = w' := by
  have c17 := h.ccount
  go_enter Tryz.func82, Tryz.ntmps82
  go_wp2
  go_ret
  exact ⟨rfl, rfl⟩
theorem push_full (b o : Nat) (T : TypeId) (pre post : List Value) (R : List Int) (f : Nat) (x : Int) (w : World) (h : RingAt w b T o pre post R f 16) :
    Calls Tryz.prog 80 #[.pointer (some ⟨b, o, none⟩), .int .i64 x] w fun e w' => e = .returned (.int .i64 801) ∧ w = w' := by
  have c17 : w.cell? ⟨b, o + 17, none⟩ = some (.int .i64 16) := h.ccount
  go_enter Tryz.func80, Tryz.ntmps80
  go_wp2
  go_ret
  exact ⟨rfl, rfl⟩
theorem pop_none (b o : Nat) (T : TypeId) (pre post : List Value) (R : List Int) (f : Nat) (w : World) (h : RingAt w b T o pre post R f 0) :
    Calls Tryz.prog 83 #[.pointer (some ⟨b, o, none⟩)] w fun e w' => e = .returned (.tuple #[.int .i64 0, .int .i64 800]) ∧ w = w' := by
  have c17 : w.cell? ⟨b, o + 17, none⟩ = some (.int .i64 0) := h.ccount
  go_enter Tryz.func83, Tryz.ntmps83
  go_wp2
  go_ret2
  exact ⟨rfl, rfl⟩

theorem ring_push {R L : List Int} {f : Nat} (hR : R.length = 16) (hf : f < 16) (hl : L.length < 16) (h : ∀ j, j < L.length → R.getD ((f + j) % 16) 0 = L.getD j 0) (x : Int) :
    ∀ j, j < (L ++ [x]).length → (R.set ((f + L.length) % 16) x).getD ((f + j) % 16) 0 = (L ++ [x]).getD j 0 := by
  intro j hj
  rw [List.length_append] at hj
  have hm : (f + j) % 16 < 16 := Nat.mod_lt _ (by decide)
  rw [List.getD_eq_getElem?_getD, List.getElem?_set]
  by_cases e : j = L.length
  · subst e
    rw [if_pos rfl, if_pos (by rw [hR]; exact hm), List.getD_eq_getElem?_getD, List.getElem?_append_right (Nat.le_refl _), Nat.sub_self]; rfl
  · have hj' : j < L.length := by simp at hj; omega
    rw [if_neg (by omega), ← List.getD_eq_getElem?_getD, h j hj', List.getD_eq_getElem?_getD, List.getD_eq_getElem?_getD, List.getElem?_append_left hj']
theorem ring_pop {R L : List Int} {f : Nat} (hf : f < 16) {x : Int} (hl : (x :: L).length ≤ 16) (h : ∀ j, j < (x :: L).length → R.getD ((f + j) % 16) 0 = (x :: L).getD j 0) :
    R.getD f 0 = x ∧ ∀ j, j < L.length → R.getD (((f + 1) % 16 + j) % 16) 0 = L.getD j 0 := by
  refine ⟨?_, fun j hj => ?_⟩
  · have := h 0 (by simp)
    rw [show (f + 0) % 16 = f by omega] at this
    exact this
  · have := h (j + 1) (by simp; omega)
    rw [show (f + (j + 1)) % 16 = ((f + 1) % 16 + j) % 16 by omega] at this
    exact this

set_option maxHeartbeats 1000000 in
theorem push_yes (b o : Nat) (T : TypeId) (pre post : List Value) (R : List Int) (f : Nat) (L : List Int) (x : Int) (w : World) (h : RingAt w b T o pre post R f L.length) (H : Holds R f L) (hl : L.length < 16) :
    Calls Tryz.prog 80 #[.pointer (some ⟨b, o, none⟩), .int .i64 x] w fun e w' => e = .returned (.int .i64 0) ∧ (∃ R' f', Holds R' f' (L ++ [x]) ∧ RingAt w' b T o pre post R' f' (L ++ [x]).length) ∧ Only b w w' := by
  obtain ⟨hR, h1, h2, h4⟩ := H
  have h3 := h
  have H4 : Hid (∀ j, j < L.length → R.getD ((f + j) % 16) 0 = L.getD j 0) := h4
  have HRL : Hid (R.length = 16) := hR
  obtain ⟨c, hc⟩ : ∃ c, c = L.length := ⟨_, rfl⟩
  have HC : Hid (c = L.length) := hc
  rw [← hc] at h3 hl
  have c17 := h3.ccount
  obtain ⟨p, hp⟩ : ∃ p : Nat, p = (f + c) % 16 := ⟨_, rfl⟩
  have HP : Hid (p = (f + c) % 16) := hp
  have hp16 : p < 16 := by rw [hp]; exact Nat.mod_lt _ (by decide)
  have cp := h3.cring p hp16
  have fp := h3.blk.frozen (o + p)
  have HPl : Hid (∀ v : World, RingAt v b T o pre post R f c → Calls Tryz.prog 121 #[.pointer (some ⟨b, o, none⟩), .int .i64 (c : Int)] v fun e w' => e = .returned (.int .i64 (p : Int)) ∧ v = w') := fun v hv => by
    rw [hp]; exact place_any b o T pre post R f c c v hv h1 (by omega)
  have h3d : RingAt w.drew b T o pre post R f c := h3.same rfl
  obtain ⟨y, hy⟩ : ∃ y, y = R.getD p 0 := ⟨_, rfl⟩
  rw [← hy] at cp
  have hn : ((c : Int) == 16) = false := beq_eq_false_iff_ne.2 (by omega)
  have hp0 : (0 : Int) ≤ p := by omega
  have hpi : (p : Int) < 16 := by omega
  have g1 := h3.setRing p hp16 x
  have d17 := g1.ccount
  have e17 := g1.blk.frozen (o + 17)
  have G2 : Hid (RingAt ((w.setCell ⟨b, o + p, none⟩ (.int .i64 x)).setCell ⟨b, o + 17, none⟩ (.int .i64 ((c : Int) + 1))) b T o pre post (R.set p x) f (c + 1)) := g1.setCount (c + 1)
  have H3d : Hid (RingAt w.drew b T o pre post R f c) := h3d
  clear h4 h2 hc hp hy h3 g1 h h3d hR
  go_enter Tryz.func80, Tryz.ntmps80
  go_wp2
  go_region_with (go_at_call 121; refine (HPl.out _ H3d.out).mono ?_; rintro e w' ⟨rfl, rfl⟩)
  all_goals
    go_wp2
    go_ret
    have e : (L ++ [x]).length = c + 1 := by rw [List.length_append, HC.out]; rfl
    refine ⟨rfl, ⟨R.set p x, f, ⟨by rw [List.length_set]; exact HRL.out, h1, by rw [e]; omega, ?_⟩, ?_⟩, ?_⟩
    · have := ring_push HRL.out h1 (by rw [← HC.out]; exact hl) H4.out x
      rw [← HC.out, ← HP.out] at this
      exact this
    · rw [e]
      exact G2.out.same rfl
    · exact (((Only.refl b w).set (o + p) _).set (o + 17) _).drew

set_option maxHeartbeats 1000000 in
theorem pop_yes (b o : Nat) (T : TypeId) (pre post : List Value) (R : List Int) (f : Nat) (x : Int) (L : List Int) (w : World) (h : RingAt w b T o pre post R f (x :: L).length) (H : Holds R f (x :: L)) :
    Calls Tryz.prog 83 #[.pointer (some ⟨b, o, none⟩)] w fun e w' => e = .returned (.tuple #[.int .i64 x, .int .i64 0]) ∧ (∃ R' f', Holds R' f' L ∧ RingAt w' b T o pre post R' f' L.length) ∧ Only b w w' := by
  obtain ⟨hR, h1, h2, h4⟩ := H
  have h3 := h
  obtain ⟨hx, h4'⟩ := ring_pop h1 h2 h4
  have H4 : Hid (∀ j, j < L.length → R.getD (((f + 1) % 16 + j) % 16) 0 = L.getD j 0) := h4'
  have HRL : Hid (R.length = 16) := hR
  obtain ⟨c, hc⟩ : ∃ c, c = L.length := ⟨_, rfl⟩
  have HC : Hid (c = L.length) := hc
  rw [List.length_cons, ← hc] at h3 h2
  have c17 : w.cell? ⟨b, o + 17, none⟩ = some (.int .i64 ((c : Int) + 1)) := h3.ccount
  have c16 := h3.cfirst
  have cf := h3.cring f h1
  rw [hx] at cf
  obtain ⟨p, hp⟩ : ∃ p : Nat, p = (f + 1) % 16 := ⟨_, rfl⟩
  have HP : Hid (p = (f + 1) % 16) := hp
  have hp16 : p < 16 := by rw [hp]; exact Nat.mod_lt _ (by decide)
  have HPl : Hid (∀ v : World, RingAt v b T o pre post R f (c + 1) → Calls Tryz.prog 121 #[.pointer (some ⟨b, o, none⟩), .int .i64 1] v fun e w' => e = .returned (.int .i64 (p : Int)) ∧ v = w') := fun v hv => by
    rw [hp]; exact place_any b o T pre post R f (c + 1) 1 v hv h1 (by omega)
  have hn : (((c : Int) + 1) == 0) = false := beq_eq_false_iff_ne.2 (by omega)
  have hf0 : (0 : Int) ≤ f := by omega
  have hfi : (f : Int) < 16 := by omega
  have H3 : Hid (RingAt w b T o pre post R f (c + 1)) := h3
  clear h4 h4' hc hp h3 hx h hR
  go_enter Tryz.func83, Tryz.ntmps83
  go_wp2
  go_quiet (fail)
  obtain ⟨W, hW⟩ : ∃ W, W = w.drewN nq := ⟨_, rfl⟩
  have h3 : RingAt W b T o pre post R f (c + 1) := by rw [hW]; exact H3.out.drewN _
  have HO : Hid (Only b w W) := by rw [hW]; exact (Only.refl b w).drewN _
  rw [← hW]
  clear hW cf c16 c17
  have f16 := h3.blk.frozen (o + 16)
  have c16 := h3.cfirst
  have g1 := h3.setFirst p
  have d17 : (W.setCell ⟨b, o + 16, none⟩ (.int .i64 (p : Int))).cell? ⟨b, o + 17, none⟩ = some (.int .i64 ((c : Int) + 1)) := g1.ccount
  have e17 := g1.blk.frozen (o + 17)
  have G2 : Hid (RingAt ((W.setCell ⟨b, o + 16, none⟩ (.int .i64 (p : Int))).setCell ⟨b, o + 17, none⟩ (.int .i64 (c : Int))) b T o pre post R p c) := g1.setCount c
  have H3 : Hid (RingAt W b T o pre post R f (c + 1)) := h3
  clear h3 g1
  go_wp2_with (go_at_call 121; refine (HPl.out _ H3.out).mono ?_; rintro e w' ⟨rfl, rfl⟩)
  go_ret2
  refine ⟨rfl, ⟨R, p, ⟨HRL.out, hp16, by rw [← HC.out]; omega, ?_⟩, by rw [← HC.out]; exact G2.out⟩, (HO.out.set (o + 16) _).set (o + 17) _⟩
  rw [HP.out]
  exact H4.out
theorem push_any (b o : Nat) (T : TypeId) (pre post : List Value) (R : List Int) (f : Nat) (L : List Int) (x : Int) (w : World) (h : RingAt w b T o pre post R f L.length) (H : Holds R f L) :
    Calls Tryz.prog 80 #[.pointer (some ⟨b, o, none⟩), .int .i64 x] w fun e w' => e = .returned (.int .i64 (pushE L)) ∧ (∃ R' f', Holds R' f' (pushL L x) ∧ RingAt w' b T o pre post R' f' (pushL L x).length) ∧ Only b w w' := by
  by_cases hl : L.length < 16
  · rw [show pushE L = 0 from if_pos hl, show pushL L x = L ++ [x] from if_pos hl]
    exact push_yes b o T pre post R f L x w h H hl
  · rw [show pushE L = 801 from if_neg hl, show pushL L x = L from if_neg hl]
    have h16 : L.length = 16 := by have := H.few; omega
    refine (push_full b o T pre post R f x w (by rw [← h16]; exact h)).mono ?_
    rintro e w' ⟨h1, rfl⟩
    exact ⟨h1, ⟨R, f, H, h⟩, Only.refl _ _⟩
theorem pop_any (b o : Nat) (T : TypeId) (pre post : List Value) (R : List Int) (f : Nat) (L : List Int) (w : World) (h : RingAt w b T o pre post R f L.length) (H : Holds R f L) :
    Calls Tryz.prog 83 #[.pointer (some ⟨b, o, none⟩)] w fun e w' => e = .returned (.tuple #[.int .i64 (popV L), .int .i64 (popE L)]) ∧ (∃ R' f', Holds R' f' (popL L) ∧ RingAt w' b T o pre post R' f' (popL L).length) ∧ Only b w w' := by
  cases L with
  | nil => exact (pop_none b o T pre post R f w h).mono fun e w' ⟨h1, h2⟩ => by subst h2; exact ⟨h1, ⟨R, f, H, h⟩, Only.refl _ _⟩
  | cons x L => exact pop_yes b o T pre post R f x L w h H
end Go.Proofs.YtjhjghakfedeeaaGreat
