/-
  A new chip of the document's, and its durations: by contracts. Conditions: the chip lies in memory as told, and is one that may be. The durations that come: the document's chip, by a contract. Conditions: the chip lies in memory as told, and is one that may be.
-/
import Derived.Test.YtlemmabgbaleiaaGreatRClock2
import Derived.Test.YtlemmabgbaleiaaGreatCalls2
import Derived.Test.YtlemmabgbaleiaaGreatGuard
import Derived.Laws.AppendOwnNone
/-! A new chip of the document's, and its durations: by contracts. Conditions: the chip lies in memory as told, and is one that may be. -/
section
namespace Go.Proofs.YtlemmabgbaleiaaGreat
open Go.RowKit Plain
set_option linter.unusedVariables false

set_option maxRecDepth 100000 in
set_option maxHeartbeats 1000000 in
theorem rnew_any (F : Nat → Prop) (n : Nat) (a : ByteArray) (w : World) (ha : a.size = 4096) :
    Calls Tryz.prog 27 #[.string a] w fun e w' => ∃ b, e = .returned (.tuple #[.pointer (some ⟨b, 0, none⟩), .int .i64 0]) ∧ w.heap.size < b ∧ RRun F n b w w' (newR a) := by
  obtain ⟨cs, hmk, Hcs⟩ := make8
  have hm : mayB a = true := by simp [mayB, ha]
  go_enter Tryz.func27, Tryz.ntmps27
  go_wp2_with (go_at_call 50; refine (cellsMay_any _ _).mono ?_; rintro e w' ⟨rfl, rfl⟩; rw [hm])
  go_ret2
  refine ⟨w.heap.size + 1, ?_, Nat.lt_succ_self _, ?_⟩
  · simp
  · have hb1 : (w.alloc (.cells cs 3)).heap.size = w.heap.size + 1 := by simp
    have hA : Blk ((w.alloc (.cells cs 3)).alloc (.cells (rCells (newR a) (.slice (some ⟨w.heap.size, 0, none⟩) 8 8) (.slice none 0 0) (.slice none 0 0)).toArray 81)) (w.heap.size + 1) 81 (rCells (newR a) (.slice (some ⟨w.heap.size, 0, none⟩) 8 8) (.slice none 0 0) (.slice none 0 0)) := by
      have := Blk.new (w.alloc (.cells cs 3)) 81 (rCells (newR a) (.slice (some ⟨w.heap.size, 0, none⟩) 8 8) (.slice none 0 0) (.slice none 0 0)) _ rfl
      rw [hb1] at this
      exact this
    have hW : Blk (w.alloc (.cells cs 3)) w.heap.size 3 ((List.replicate 8 0).map (Value.int .i64)) := Blk.new _ _ _ _ (by rw [← Hcs.out])
    have hn : ∀ k, (Value.slice none 0 0).ownBlock = some k → False := fun k hk => by cases hk
    exact ⟨((Turns.refl F w).alloc _).alloc _, .inr (by omega), newR_ok a ha n, .slice (some ⟨w.heap.size, 0, none⟩) 8 8, .slice none 0 0, .slice none 0 0, hA, ⟨⟨w.heap.size, rfl, Blk.alloc hW _, .inr (Nat.le_refl _), by omega, fun k hk => (hn k hk).elim, fun k hk => (hn k hk).elim⟩, ⟨none, 0, rfl, fun h => absurd h (show ¬ (0 < 0) by decide)⟩, fun a n c e => (by cases e; exact Nat.le_refl _), fun k hk => (hn k hk).elim, World.ownsRow_nil _ _ _ _, fun k hk => (hn k hk).elim⟩⟩

/-- Another row of durations, laid since. -/
theorem Rows3.durs' {F : Nat → Prop} {u w w' : World} {b : Nat} {W D D' : List Int} {I : List Nat} {wv dv dv' iv : Value} (h : Rows3 F u w b W D I wv dv iv) (hb : Below w.heap.size w w') (hbl : b < w.heap.size) (hu : u.heap.size ≤ w.heap.size)
    (hr : Reads w' dv' D') (hc : ∀ a n c, dv' = .slice a n c → n ≤ c) (hn : ∀ k, dv'.ownBlock = some k → 0 < D'.length → w.heap.size ≤ k) : Rows3 F u w' b W D' I wv dv' iv := by
  obtain ⟨g, e, hg, ho, hne, hd, hi⟩ := h.wiped
  have hgl := hg.lt
  have hil : ∀ k, iv.ownBlock = some k → k < w.heap.size := fun k hk => by
    rcases h.inn.2 with ⟨h1, _⟩ | ⟨g', cap, cur, hv, _, hg', _⟩
    · rw [h1] at hk; cases hk
    · rw [hv] at hk
      have e : g' = k := by simpa [Value.ownBlock] using hk
      subst e
      rcases Nat.lt_or_ge g' w.heap.size with hlt | hge
      · exact hlt
      · rw [Array.getElem?_eq_none hge] at hg'; cases hg'
  exact ⟨⟨g, e, hg.below hb, ho, hne, fun k hk h0 => (by have := hn k hk h0; omega), hi⟩, hr, hc, fun k hk h0 => ⟨by have := hn k hk h0; omega, .inr (Nat.le_trans hu (hn k hk h0)), fun j hj => (by have := hn k hk h0; have := hil j hj; omega)⟩, h.inn.below hb (Nat.le_refl _), h.iblk⟩
theorem owns_cap {B : Nat} {w : World} {v : Value} {L : List Int} (h : Owns B w v L) : ∀ a n c, v = .slice a n c → n ≤ c := fun a n c e => by
  rcases h.2 with ⟨h1, _⟩ | ⟨g, cap, cur, hv, _, _, hn, _⟩
  · rw [h1] at e; cases e; exact Nat.le_refl _
  · rw [hv] at e; cases e; exact hn
theorem owns_newer {B : Nat} {w : World} {v : Value} {L : List Int} (h : Owns B w v L) : ∀ k, v.ownBlock = some k → 0 < L.length → B ≤ k := fun k hk h0 => by
  rcases h.2 with ⟨h1, _⟩ | ⟨g, cap, cur, hv, hb, _⟩
  · rw [h1] at hk; cases hk
  · rw [hv] at hk
    have e : g = k := by simpa [Value.ownBlock] using hk
    omega
end Go.Proofs.YtlemmabgbaleiaaGreat
end

/-! The durations that come: the document's chip, by a contract. Conditions: the chip lies in memory as told, and is one that may be. -/
section
namespace Go.Proofs.YtlemmabgbaleiaaGreat
open Go.RowKit Plain
set_option linter.unusedVariables false

theorem okL_bad {L : List Int} {k : Nat} (hk : k < L.length) (h : ¬ (1 ≤ L.getD k 0 ∧ L.getD k 0 ≤ 400)) : okL L = false := by
  rw [Bool.eq_false_iff]
  intro e
  have h1 := ((okL_iff L).1 e).2 (L.getD k 0) (by rw [List.getD_eq_getElem?_getD, List.getElem?_eq_getElem hk]; exact List.getElem_mem hk)
  exact h h1
theorem okL_good {L : List Int} (h16 : L.length ≤ 16) (h : ∀ j, j < L.length → 1 ≤ L.getD j 0 ∧ L.getD j 0 ≤ 400) : okL L = true := (okL_iff L).2 ⟨h16, fun d hd => by
  obtain ⟨j, hj, rfl⟩ := List.getElem_of_mem hd
  have := h j hj
  rwa [List.getD_eq_getElem?_getD, List.getElem?_eq_getElem hj] at this⟩
theorem ok_next {n : Nat} {r : RSt} (h : r.Ok n) {L : List Int} (hL : okL L = true) : (r.next L).Ok n :=
  ⟨h.A, h.wiped, (okL_iff L).1 hL, h.kind, h.left, h.going, h.wat, h.wdata, h.op, h.opm, h.x, h.x0, h.bits, h.bits8, h.outs, h.addr1, h.addr2, h.part, h.begun, h.adr, h.mode, h.inn, h.count, h.clocks, h.sent, h.out⟩

end Go.Proofs.YtlemmabgbaleiaaGreat
end
