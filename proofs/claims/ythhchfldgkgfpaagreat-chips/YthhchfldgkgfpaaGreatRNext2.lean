/-
  A new chip of the document's, and its durations: by contracts. Conditions: the chip lies in memory as told, and is one that may be. The durations that come: the document's chip, by a contract. Conditions: the chip lies in memory as told, and is one that may be.
-/
import Derived.Test.YthhchfldgkgfpaaGreatRClock2
import Derived.Test.YthhchfldgkgfpaaGreatCalls2
import Derived.Test.YthhchfldgkgfpaaGreatGuard
import Derived.Laws.AppendOwnNone
/-! A new chip of the document's, and its durations: by contracts. Conditions: the chip lies in memory as told, and is one that may be. -/
section
namespace Go.Proofs.YthhchfldgkgfpaaGreat
open Go.RowKit Plain
set_option linter.unusedVariables false

set_option maxRecDepth 100000 in
set_option maxHeartbeats 1000000 in
theorem rnew_any (F : Nat → Prop) (n : Nat) (a : ByteArray) (w : World) (ha : a.size = 4096) :
    Calls Tryz.prog 8 #[.string a] w fun e w' => ∃ b, e = .returned (.tuple #[.pointer (some ⟨b, 0, none⟩), .int .i64 0]) ∧ w.heap.size < b ∧ RRun F n b w w' (newR a) := by
  obtain ⟨cs, hmk, Hcs⟩ := make8
  have hm : mayB a = true := by simp [mayB, ha]
  go_enter Tryz.func8, Tryz.ntmps8
  go_wp2_with (go_at_call 38; refine (cellsMay_any _ _).mono ?_; rintro e w' ⟨rfl, rfl⟩; rw [hm])
  go_ret2
  refine ⟨w.heap.size + 1, ?_, Nat.lt_succ_self _, ?_⟩
  · simp
  · have hb1 : (w.alloc (.cells cs 3)).heap.size = w.heap.size + 1 := by simp
    have hA : Blk ((w.alloc (.cells cs 3)).alloc (.cells (rCells (newR a) (.slice (some ⟨w.heap.size, 0, none⟩) 8 8) (.slice none 0 0) (.slice none 0 0)).toArray 54)) (w.heap.size + 1) 54 (rCells (newR a) (.slice (some ⟨w.heap.size, 0, none⟩) 8 8) (.slice none 0 0) (.slice none 0 0)) := by
      have := Blk.new (w.alloc (.cells cs 3)) 54 (rCells (newR a) (.slice (some ⟨w.heap.size, 0, none⟩) 8 8) (.slice none 0 0) (.slice none 0 0)) _ rfl
      rw [hb1] at this
      exact this
    have hW : Blk (w.alloc (.cells cs 3)) w.heap.size 3 ((List.replicate 8 0).map (Value.int .i64)) := Blk.new _ _ _ _ (by rw [← Hcs.out])
    have hn : ∀ k, (Value.slice none 0 0).ownBlock = some k → False := fun k hk => by cases hk
    exact ⟨((Turns.refl F w).alloc _).alloc _, .inr (by omega), newR_ok a ha n, .slice (some ⟨w.heap.size, 0, none⟩) 8 8, .slice none 0 0, .slice none 0 0, hA, ⟨⟨w.heap.size, rfl, Blk.alloc hW _, .inr (Nat.le_refl _), by omega, fun k hk => (hn k hk).elim, fun k hk => (hn k hk).elim⟩, ⟨none, 0, rfl, fun h => absurd h (show ¬ (0 < 0) by decide)⟩, fun a n c e => (by cases e; exact Nat.le_refl _), fun k hk => (hn k hk).elim, World.ownsRow_nil _ _ _ _, fun k hk => (hn k hk).elim⟩⟩

/-- Another row of durations, laid since. -/
theorem Rows3.durs' {F : Nat → Prop} {u w w' : World} {b : Nat} {W D D' : List Int} {I : List Nat} {wv dv dv' iv : Value} (h : Rows3 F u w b W D I wv dv iv) (hb : Below w.heap.size w w') (hbl : b < w.heap.size) (hu : u.heap.size ≤ w.heap.size)
    (hr : Reads w' dv' D') (hc : ∀ a n c, dv' = .slice a n c → n ≤ c) (hn : ∀ k, dv'.ownBlock = some k → 0 < D'.length → w.heap.size ≤ k) : Rows3 F u w' b W D' I wv dv' iv := by
  obtain ⟨g, e, hg, ho, hne, hd, hi⟩ := h.wiped
  have hgl := hg.lt
  have hil : ∀ k, iv.ownBlock = some k → k < w.heap.size := fun k hk => by
    rcases h.inn.2 with ⟨h1, _⟩ | ⟨g', cap, cur, hv, _, hg', _⟩
    · rw [h1] at hk; cases hk
    · rw [hv] at hk
      have e : g' = k := by simpa [Value.ownBlock] using hk
      subst e
      rcases Nat.lt_or_ge g' w.heap.size with hlt | hge
      · exact hlt
      · rw [Array.getElem?_eq_none hge] at hg'; cases hg'
  exact ⟨⟨g, e, hg.below hb, ho, hne, fun k hk h0 => (by have := hn k hk h0; omega), hi⟩, hr, hc, fun k hk h0 => ⟨by have := hn k hk h0; omega, .inr (Nat.le_trans hu (hn k hk h0)), fun j hj => (by have := hn k hk h0; have := hil j hj; omega)⟩, h.inn.below hb (Nat.le_refl _), h.iblk⟩
theorem owns_cap {B : Nat} {w : World} {v : Value} {L : List Int} (h : Owns B w v L) : ∀ a n c, v = .slice a n c → n ≤ c := fun a n c e => by
  rcases h.2 with ⟨h1, _⟩ | ⟨g, cap, cur, hv, _, _, hn, _⟩
  · rw [h1] at e; cases e; exact Nat.le_refl _
  · rw [hv] at e; cases e; exact hn
theorem owns_newer {B : Nat} {w : World} {v : Value} {L : List Int} (h : Owns B w v L) : ∀ k, v.ownBlock = some k → 0 < L.length → B ≤ k := fun k hk h0 => by
  rcases h.2 with ⟨h1, _⟩ | ⟨g, cap, cur, hv, hb, _⟩
  · rw [h1] at hk; cases hk
  · rw [hv] at hk
    have e : g = k := by simpa [Value.ownBlock] using hk
    omega
end Go.Proofs.YthhchfldgkgfpaaGreat
end

/-! The durations that come: the document's chip, by a contract. Conditions: the chip lies in memory as told, and is one that may be. -/
section
namespace Go.Proofs.YthhchfldgkgfpaaGreat
open Go.RowKit Plain
set_option linter.unusedVariables false

theorem okL_bad {L : List Int} {k : Nat} (hk : k < L.length) (h : ¬ (1 ≤ L.getD k 0 ∧ L.getD k 0 ≤ 400)) : okL L = false := by
  rw [Bool.eq_false_iff]
  intro e
  have h1 := ((okL_iff L).1 e).2 (L.getD k 0) (by rw [List.getD_eq_getElem?_getD, List.getElem?_eq_getElem hk]; exact List.getElem_mem hk)
  exact h h1
theorem okL_good {L : List Int} (h16 : L.length ≤ 16) (h : ∀ j, j < L.length → 1 ≤ L.getD j 0 ∧ L.getD j 0 ≤ 400) : okL L = true := (okL_iff L).2 ⟨h16, fun d hd => by
  obtain ⟨j, hj, rfl⟩ := List.getElem_of_mem hd
  have := h j hj
  rwa [List.getD_eq_getElem?_getD, List.getElem?_eq_getElem hj] at this⟩
theorem ok_next {n : Nat} {r : RSt} (h : r.Ok n) {L : List Int} (hL : okL L = true) : (r.next L).Ok n :=
  ⟨h.A, h.wiped, (okL_iff L).1 hL, h.kind, h.left, h.going, h.wat, h.wdata, h.op, h.opm, h.x, h.x0, h.bits, h.bits8, h.outs, h.addr1, h.addr2, h.part, h.begun, h.adr, h.mode, h.inn, h.count, h.clocks, h.sent, h.out⟩

set_option maxRecDepth 100000 in
set_option maxHeartbeats 2000000 in
theorem rnext_run (F : Nat → Prop) (n b : Nat) (u w : World) (r : RSt) (v : Value) (L : List Int) (h : RRun F n b u w r) (hv : Reads w v L) (hL : L.length * 8 ≤ 140737488355328) :
    Calls Tryz.prog 18 #[.pointer (some ⟨b, 0, none⟩), v] w fun e w' => (okL L = false ∧ e = .returned (.int .i64 600) ∧ w = w') ∨ (okL L = true ∧ e = .returned (.int .i64 0) ∧ RRun F n b u w' (r.next L)) := by
  obtain ⟨i0, hi0, hz0, hz1, hz2⟩ := info_parts info3
  obtain ⟨wv, dv, iv, hA, hR⟩ := h.lies
  have HH : Hid (RRun F n b u w r) := h
  have HA : Hid (RAt w b r wv dv iv) := hA
  have HR : Hid (Rows3 F u w b r.wiped r.durs r.inn wv dv iv) := hR
  obtain ⟨a, cap, rfl, hr⟩ := hv
  have Hrd : Hid (0 < L.length → ∃ g o, a = some ⟨g, o, none⟩ ∧ ∀ j, j < L.length → w.cell? ⟨g, o + j, none⟩ = some (.int .i64 (L.getD j 0))) := hr
  have hbl : b < w.heap.size := Blk.lt hA
  clear h hA hR hr
  go_enter Tryz.func18, Tryz.ntmps18
  go_wp2_with fail
  go_loopw [5] (fun i wr => ∃ k : Nat, k ≤ L.length ∧ i = .int .i64 k ∧ Hid (∀ j, j < k → 1 ≤ L.getD j 0 ∧ L.getD j 0 ≤ 400) ∧ w = wr) (fun i _ => L.length - (intOf i).toNat)
  case atStart => exact ⟨0, Nat.zero_le _, rfl, fun j hj => absurd hj (by omega), rfl⟩
  case round =>
    obtain ⟨k, hk, rfl, Hg, rfl⟩ := hrel
    by_cases hlt : k < L.length
    · obtain ⟨g, o, rfl, hc⟩ := Hrd.out (by omega)
      have hck := hc k hlt
      obtain ⟨d, Hd⟩ := hid_is (L.getD k 0)
      rw [Hd.out] at hck
      clear hc
      by_cases hd : 1 ≤ d ∧ d ≤ 400
      · have d1 : decide (d < 1) = false := decide_eq_false (by omega)
        have d2 : decide (400 < d) = false := decide_eq_false (by omega)
        go_wp2
        go_roundw
        case rel => exact ⟨k + 1, by omega, by go_num, fun j hj => by
          by_cases e : j = k
          · rw [e, Hd.out]; exact hd
          · exact Hg.out j (by omega), by first | rfl | trivial⟩
        case measure => simp [intOf]; omega
      · have Hbad : Hid (okL L = false) := okL_bad hlt (by rw [Hd.out]; exact hd)
        rcases (show d < 1 ∨ (1 ≤ d ∧ 400 < d) by omega) with h1 | ⟨h1, h2⟩
        · go_wp2
          go_ret
          exact .inl ⟨Hbad.out, rfl, rfl⟩
        · have d1 : decide (d < 1) = false := decide_eq_false (by omega)
          go_wp2
          go_ret
          exact .inl ⟨Hbad.out, rfl, rfl⟩
    · have hkl : decide ((k : Int) < (L.length : Int)) = false := decide_eq_false (by omega)
      by_cases h16 : L.length ≤ 16
      · have Hok : Hid (okL L = true) := okL_good h16 (fun j hj => Hg.out j (by omega))
        have t16 : decide ((16 : Int) < (L.length : Int)) = false := decide_eq_false (by omega)
        have hown : (w.alloc (.cells #[] 3)).ownsRow w.heap.size 3 1 (.slice (some ⟨w.heap.size, 0, none⟩) 0 0) 0 [] := World.ownsRow_lit (base := w.heap.size) (e := 3) (size := 1) w #[] 0 (Nat.le_refl _) (by unfold maxLen; omega) rfl
        have FIN : Hid (∀ (w' : World) (v' : Value), Below w.heap.size w w' → Owns w.heap.size w' v' L → RRun F n b u (w'.setCell ⟨b, 12, none⟩ v') (r.next L)) := fun w' v' hb ho => by
          have h1 : RAt (w'.setCell ⟨b, 12, none⟩ v') b (r.next L) wv v' iv := Blk.set (Blk.below HA.out hb) 12 _
          have o1 : Only b w' (w'.setCell ⟨b, 12, none⟩ v') := (Only.refl b w').set 12 _
          have hr1 := HR.out.durs' hb hbl HH.out.turns.size ho.reads (owns_cap ho) (owns_newer ho)
          exact ⟨(HH.out.turns.below hb).only o1 HH.out.mine, HH.out.mine, ok_next HH.out.ok Hok.out, wv, v', iv, h1, hr1.only o1⟩
        have FC : Hid (∀ w' : World, Below w.heap.size w w' → w'.cell? ⟨b, 12, none⟩ = some dv ∧ w'.frozen? ⟨b, 12, none⟩ = false) := fun w' hb => ⟨Blk.cell (Blk.below HA.out hb) 12 rfl, Blk.frozen (Blk.below HA.out hb) 12⟩
        cases a with
        | none =>
          have hL0 : L = [] := by
            rcases Nat.eq_zero_or_pos L.length with e | e
            · exact List.length_eq_zero_iff.1 e
            · obtain ⟨g, o, e1, _⟩ := Hrd.out e; cases e1
          subst hL0
          have hk0 : k = 0 := by simpa using hk
          subst hk0
          obtain ⟨q12, z12⟩ := FC.out _ (below_new w (.cells #[] 3))
          have FF : Hid (RRun F n b u ((w.alloc (.cells #[] 3)).setCell ⟨b, 12, none⟩ (.slice (some ⟨w.heap.size, 0, none⟩) 0 0)) (r.next [])) := FIN.out _ _ (below_new w _) hown
          clear hown hkl hlt
          go_wp2
          go_ret
          refine .inr ⟨Hok.out, rfl, ?_⟩
          have e := FF.out
          rw [World.setCell_alloc_past _ _ _ _ hbl] at e
          exact e
        | some x =>
          have hnews : ∀ j y, (L.map (Value.int .i64))[j]? = some y → (w.alloc (.cells #[] 3)).cell? (x.add j) = some y := fun j y hy => by
            have hj : j < L.length := by
              rcases Nat.lt_or_ge j L.length with h | h
              · exact h
              · rw [List.getElem?_eq_none (by rw [List.length_map]; omega)] at hy; cases hy
            obtain ⟨g, o, e1, hc⟩ := Hrd.out (by omega)
            cases e1
            have h1 := hc j hj
            have e : (⟨g, o, none⟩ : Addr).add j = ⟨g, o + j, none⟩ := by rw [Addr.add_mid]
            rw [e, ((Below.refl _ w).alloc (Nat.le_refl _) _).cell (by exact cell_lt h1), h1, ← hy, List.getElem?_map, List.getD_eq_getElem?_getD, List.getElem?_eq_getElem hj]
            rfl
          go_wp2_with (at_builtin; refine wpList_append_own _ rfl _ _ 33 rfl w.heap.size 3 i0 (.int .i64 0) 1 8 Tryz.underlying33 hi0 hz0 hz1 hz2 rfl (by decide) _ _ _ rfl hown x L.length cap (L.map (Value.int .i64)) rfl (by rw [List.length_map]; omega) hnews (ints_oneCell _ _) (by unfold maxLen; omega) (by omega) (by simp) ?_)
          intro v' w' h1 h2 h3
          have HO : Owns w.heap.size w' v' L := by rw [Owns]; simpa using h1
          have HB : Below w.heap.size w w' := ((Below.refl _ _).alloc (Nat.le_refl _) _).grown h2 (by simp) fun k hk => by
            have : w.heap.size = k := by simpa [Value.ownBlock] using hk
            omega
          obtain ⟨q12, z12⟩ := FC.out w' HB
          have FF := FIN.out w' v' HB HO
          obtain ⟨a', c', rfl, -⟩ := HO.reads
          clear h1 h2 h3 hnews hown HO hkl hlt
          go_wp2
          go_ret
          exact .inr ⟨Hok.out, rfl, FF⟩
      · have Hbad : Hid (okL L = false) := by rw [Hid, Bool.eq_false_iff]; intro e; exact h16 ((okL_iff L).1 e).1
        have t16 : (16 : Int) < (L.length : Int) := by omega
        go_wp2
        go_ret
        exact .inl ⟨Hbad.out, rfl, rfl⟩
end Go.Proofs.YthhchfldgkgfpaaGreat
end
