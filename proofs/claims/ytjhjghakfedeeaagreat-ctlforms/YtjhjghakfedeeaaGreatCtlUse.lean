/-
  The controller within a law's walk: what stays of the memory that was there. Conditions: it lies in memory as told. Two new chips with the same cells: the law's own call.
-/
import Derived.Test.YtjhjghakfedeeaaGreatCtlFacts
namespace Go.Proofs.YtjhjghakfedeeaaGreat
open Go.RowKit Plain
set_option linter.unusedVariables false

/-- A controller and its chip, both newer than B; since w0 nothing older turned. -/
structure KR (B n kb bp : Nat) (w0 w : World) (k : K) : Prop where
  lies : KAt n kb bp w k
  below : Below B w0 w
  hk : B ≤ kb
  hb : B ≤ bp
  hB : B ≤ w0.heap.size
theorem turns_old {B kb bp : Nat} {v w : World} (t : Turns (F2 kb bp) v w) (hk : B ≤ kb) (hb : B ≤ bp) (hB : B ≤ v.heap.size) : Below B v w :=
  ⟨t.os, t.tape, t.output, t.size, fun i hi => t.block i (by omega) (by rintro (e | e) <;> omega)⟩
variable {B n kb bp : Nat} {w0 w w' : World} {k k' : K}
theorem kr_size (h : Hid (KR B n kb bp w0 w k)) : B ≤ w.heap.size := Nat.le_trans h.out.hB h.out.below.size
theorem kr_lt (h : Hid (KR B n kb bp w0 w k)) : kb < w.heap.size ∧ bp < w.heap.size := by obtain ⟨R1, f1, R2, f2, lv, ds, K'⟩ := h.out.lies; exact ⟨K'.lay.lt, Blk.lt K'.chip⟩
theorem kr_below (h : Hid (KR B n kb bp w0 w k)) (b : Below w.heap.size w w') : Hid (KR B n kb bp w0 w' k) := ⟨h.out.lies.below b, h.out.below.trans (b.mono (kr_size h)), h.out.hk, h.out.hb, h.out.hB⟩
theorem kr_turn {m : Nat} (h : Hid (KR B n kb bp w0 w k)) (a : KAt m kb bp w' k') (t : Turns (F2 kb bp) w w') : Hid (KR B m kb bp w0 w' k') := ⟨a, h.out.below.trans (turns_old t h.out.hk h.out.hb (kr_size h)), h.out.hk, h.out.hb, h.out.hB⟩
theorem kr_more {m : Nat} (h : Hid (KR B n kb bp w0 w k)) (hm : n ≤ m) : Hid (KR B m kb bp w0 w k) := ⟨h.out.lies.more hm, h.out.below, h.out.hk, h.out.hb, h.out.hB⟩
theorem kr_grow (h : Hid (KR B n kb bp w0 w k)) {C : Nat} (b : Below C w w') (hC : C ≤ w.heap.size) (h1 : kb < C) (h2 : bp < C) (hd : k.s.durs = []) (hm : k.made = false) (hBC : B ≤ C) : Hid (KR B n kb bp w0 w' k) := by
  obtain ⟨R1, f1, R2, f2, lv, ds, q⟩ := h.out.lies
  refine ⟨⟨R1, f1, R2, f2, lv, ds, ?_⟩, h.out.below.trans (b.mono hBC), h.out.hk, h.out.hb, h.out.hB⟩
  refine ⟨q.lay.same (b.block kb h1), ?_, ?_, q.dblk, fun hm' => by rw [hm] at hm'; (cases hm'), q.ok, q.ne, q.sel, q.left, q.clocks⟩
  · have := q.chip
    unfold At Blk at this ⊢
    rw [b.block bp h2]; exact this
  · have hdd := q.durs
    rw [hd] at hdd ⊢
    obtain ⟨⟨a, c, e, -⟩, h3⟩ := hdd
    exact ⟨⟨a, c, e, fun h0 => absurd h0 (by simp)⟩, h3⟩
theorem kr_run (h : Hid (KR B n kb bp w0 w k)) {b at' r E : Int} {L V : List Int} (hX : Hid (k.runs b at' L r = (k', V, E))) {a : Option Addr} {m c : Nat} (hC : Came w a m c L) (hR : RIn (fun g => g ≠ kb ∧ g ≠ bp) w (.slice a m c) L) (hm : m * 8 ≤ 140737488351232) (hn : n ≤ 999999999900000) :
    Calls Tryz.prog 34 #[.pointer (some ⟨kb, 0, none⟩), .int .i64 b, .int .i64 at', .slice a m c, .int .i64 r] w fun e w' => ∃ ua uc, e = .returned (.tuple #[.slice ua V.length uc, .int .i64 E]) ∧ Hid (Owns w.heap.size w' (.slice ua V.length uc) V) ∧ Hid (KR B (n + 30000) kb bp w0 w' k') ∧ Hid (Turns (F2 kb bp) w w') := by
  refine (crun_any n kb bp k b at' a m c L r w h.out.lies hC hR hm hn).mono ?_
  rintro e w' ⟨u, rfl, h1, h2, h3⟩
  rw [hX.out] at h1 h2 ⊢
  obtain ⟨ua, uc, rfl⟩ := own_slice h1
  exact ⟨ua, uc, rfl, h1, kr_turn h h2 h3, h3⟩
theorem kr_run_nil (h : Hid (KR B n kb bp w0 w k)) {b at' r E : Int} {V : List Int} (hX : Hid (k.runs b at' [] r = (k', V, E))) (hn : n ≤ 999999999900000) :
    Calls Tryz.prog 34 #[.pointer (some ⟨kb, 0, none⟩), .int .i64 b, .int .i64 at', .slice none 0 0, .int .i64 r] w fun e w' => ∃ ua uc, e = .returned (.tuple #[.slice ua V.length uc, .int .i64 E]) ∧ Hid (Owns w.heap.size w' (.slice ua V.length uc) V) ∧ Hid (KR B (n + 30000) kb bp w0 w' k') ∧ Hid (Turns (F2 kb bp) w w') :=
  kr_run h hX ⟨rfl, .inl ⟨rfl, rfl, rfl⟩⟩ (rin_nil _ _) (by decide) hn
theorem lit_came (w : World) (cs : Array Value) (L : List Int) (m : Nat) (hc : cs.toList = L.map (Value.int .i64)) (hm : L.length = m) : Came (w.alloc (.cells cs 3)) (some ⟨w.heap.size, 0, none⟩) m m L := by
  refine ⟨hm, .inr ⟨_, rfl, Nat.le_refl _, fun j hj => ?_⟩⟩
  rw [Addr.add_mid, Nat.zero_add, cell_of_row (w.alloc (.cells cs 3)) w.heap.size j cs 3 (0, 0) (heap_alloc_new _ _), ← Array.getElem?_toList, hc, List.getElem?_map, List.getD_eq_getElem?_getD, List.getElem?_eq_getElem (by omega)]
  rfl
theorem kr_run_lit (h : Hid (KR B n kb bp w0 w k)) {b at' r E : Int} {L V : List Int} (hX : Hid (k.runs b at' L r = (k', V, E))) (cs : Array Value) (m : Nat) (hc : cs.toList = L.map (Value.int .i64)) (hm : L.length = m) (hml : m * 8 ≤ 140737488351232) (hn : n ≤ 999999999900000) :
    Calls Tryz.prog 34 #[.pointer (some ⟨kb, 0, none⟩), .int .i64 b, .int .i64 at', .slice (some ⟨w.heap.size, 0, none⟩) m m, .int .i64 r] (w.alloc (.cells cs 3)) fun e w' => ∃ ua uc, e = .returned (.tuple #[.slice ua V.length uc, .int .i64 E]) ∧ Hid (Owns w.heap.size w' (.slice ua V.length uc) V) ∧ Hid (KR B (n + 30000) kb bp w0 w' k') ∧ Hid (Turns (F2 kb bp) w w') := by
  have hb := below_new w (.cells cs 3)
  have hlt := kr_lt h
  refine (kr_run (kr_below h hb) hX (lit_came w cs L m hc hm) (rin_lit (heap_alloc_new w _) hc hm ⟨by omega, by omega⟩) hml hn).mono ?_
  rintro e w' ⟨ua, uc, rfl, h1, h2, h3⟩
  exact ⟨ua, uc, rfl, owns_down h1.out hb.size, h2, (Turns.below (Turns.refl _ _) hb).trans h3.out⟩
/-- What was read before is as it was. -/
theorem owns_turns {C : Nat} {v : Value} {L : List Int} (h : Hid (Owns C w v L)) (t : Hid (Turns (F2 kb bp) w w')) (hk : kb < C) (hb : bp < C) : Hid (Owns C w' v L) := by
  refine ⟨h.out.1, ?_⟩
  rcases h.out.2 with h3 | ⟨g, cap, cur, hv, hB, hg, hr⟩
  · exact .inl h3
  · refine .inr ⟨g, cap, cur, hv, hB, ?_, hr⟩
    have hl : g < w.heap.size := by
      rcases Nat.lt_or_ge g w.heap.size with h | h
      · exact h
      · rw [Array.getElem?_eq_none h] at hg; cases hg
    rw [t.out.block g hl (by rintro (e | e) <;> omega)]; exact hg
theorem kr_write (h : Hid (KR B n kb bp w0 w k)) {reg x E : Int} (hX : Hid (k.wr reg x = (k', E))) :
    Calls Tryz.prog 37 #[.pointer (some ⟨kb, 0, none⟩), .int .i64 reg, .int .i64 x] w fun e w' => e = .returned (.int .i64 E) ∧ Hid (KR B n kb bp w0 w' k') ∧ Hid (Turns (F2 kb bp) w w') := by
  refine (cwrite_any n kb bp k reg x w h.out.lies).mono ?_
  rintro e w' ⟨rfl, h2, h3⟩
  rw [hX.out] at h2 ⊢
  exact ⟨rfl, kr_turn h h2 h3, h3⟩
theorem kr_read (h : Hid (KR B n kb bp w0 w k)) {reg y E : Int} (hX : Hid (k.rd reg = (k', y, E))) :
    Calls Tryz.prog 39 #[.pointer (some ⟨kb, 0, none⟩), .int .i64 reg] w fun e w' => e = .returned (.tuple #[.int .i64 y, .int .i64 E]) ∧ Hid (KR B n kb bp w0 w' k') ∧ Hid (Turns (F2 kb bp) w w') := by
  refine (cread_any n kb bp k reg w h.out.lies).mono ?_
  rintro e w' ⟨rfl, h2, h3⟩
  rw [hX.out] at h2 ⊢
  exact ⟨rfl, kr_turn h h2 h3, h3⟩
theorem kr_cut (h : Hid (KR B n kb bp w0 w k)) {c E : Int} (hX : Hid (k.bind c = (k', E))) (hc : c ≤ 9223372036854775807) :
    Calls Tryz.prog 43 #[.pointer (some ⟨kb, 0, none⟩), .int .i64 c] w fun e w' => e = .returned (.int .i64 E) ∧ Hid (KR B n kb bp w0 w' k') ∧ Hid (Turns (F2 kb bp) w w') := by
  refine (ccut_any n kb bp k c w h.out.lies hc).mono ?_
  rintro e w' ⟨rfl, h2, h3⟩
  rw [hX.out] at h2 ⊢
  exact ⟨rfl, kr_turn h h2 h3, h3⟩
theorem kr_go (h : Hid (KR B n kb bp w0 w k)) {E : Int} (hX : Hid (k.go = (k', E))) (h2 : 0 ≤ k.r2 ∧ k.r2 ≤ 1000) (hn : n ≤ 999999999900000) :
    Calls Tryz.prog 41 #[.pointer (some ⟨kb, 0, none⟩)] w fun e w' => e = .returned (.int .i64 E) ∧ Hid (KR B (n + 30000) kb bp w0 w' k') ∧ Hid (Turns (F2 kb bp) w w') := by
  refine (cgo_any n kb bp k w h.out.lies h2 hn).mono ?_
  rintro e w' ⟨rfl, h2, h3⟩
  rw [hX.out] at h2 ⊢
  exact ⟨rfl, kr_turn h h2 h3, h3⟩
theorem kr_clocks (h : Hid (KR B n kb bp w0 w k)) {c : Nat} (hX : k.clocks = c) : Calls Tryz.prog 47 #[.pointer (some ⟨kb, 0, none⟩)] w fun e w' => e = .returned (.int .i64 (c : Int)) ∧ w = w' := by
  subst hX; exact cclocks_any n kb bp k w h.out.lies
theorem kr_lost (h : Hid (KR B n kb bp w0 w k)) {l : Bool} (hX : k.lost = l) : Calls Tryz.prog 48 #[.pointer (some ⟨kb, 0, none⟩)] w fun e w' => e = .returned (.bool l) ∧ w = w' := by
  subst hX; exact clost_any n kb bp k w h.out.lies
theorem kr_cells (h : Hid (KR B n kb bp w0 w k)) {A : ByteArray} (hA : k.s.A = A) : Calls Tryz.prog 27 #[.pointer (some ⟨bp, 0, none⟩)] w fun e w' => e = .returned (.string A) ∧ w = w' := by
  obtain ⟨R1, f1, R2, f2, lv, ds, q⟩ := h.out.lies
  subst hA
  exact cells_any bp k.s ds w q.chip
theorem kr_new {n bp : Nat} {w0 w : World} {s : St} (h : Lies n bp w s) (hs : s.sel = false) (hb : Below B w0 w) (hB : B ≤ bp) (h0 : B ≤ w0.heap.size) :
    Calls Tryz.prog 31 #[.pointer (some ⟨bp, 0, none⟩)] w fun e w' => ∃ kb, e = .returned (.tuple #[.pointer (some ⟨kb, 0, none⟩), .int .i64 0]) ∧ Hid (KR B n kb bp w0 w' (newK s)) := by
  obtain ⟨ds, h1, h2, h3⟩ := h.at
  have hlt := Blk.lt h1
  refine (cnew_any n bp s ds w h1 h2 h3 hs).mono ?_
  rintro e w' ⟨kb, rfl, hk, ha, hbl⟩
  exact ⟨kb, rfl, ha, hb.trans (hbl.mono (by omega)), by omega, hB, h0⟩
end Go.Proofs.YtjhjghakfedeeaaGreat
