/-
  Both chips in memory, side by side: what one's call turns the other's call does not. No conditions but those of each statement. Each call of either chip, both in memory side by side. Condition: fewer clocks than a million.
-/
import Derived.Test.YtlemmabgbaleiaaGreatSim5
import Derived.Test.YtlemmabgbaleiaaGreatRLoss
import Derived.Test.YtlemmabgbaleiaaGreatRSelect
/-! Both chips in memory, side by side: what one's call turns the other's call does not. No conditions but those of each statement. -/
section
namespace Go.Proofs.YtlemmabgbaleiaaGreat
open Go.RowKit Plain
set_option linter.unusedVariables false

theorem owns_lt {B : Nat} {w : World} {v : Value} {L : List Int} (h : Owns B w v L) : ∀ k, v.ownBlock = some k → k < w.heap.size := fun k hk => by
  rcases h.2 with ⟨h1, _⟩ | ⟨g', cap, cur, hv, _, hg', _⟩
  · rw [h1] at hk; cases hk
  · rw [hv] at hk
    have e : g' = k := by simpa [Value.ownBlock] using hk
    subst e
    rcases Nat.lt_or_ge g' w.heap.size with hlt | hge
    · exact hlt
    · rw [Array.getElem?_eq_none hge] at hg'; cases hg'
theorem own_in {F : Nat → Prop} {w : World} {k : Nat} (h : Own F w k) (hk : k < w.heap.size) : F k := by
  rcases h with h | h
  · exact h
  · omega
/-- Where the document's chip begins anew: all its blocks are known. -/
theorem RRun.anew {F : Nat → Prop} {n b : Nat} {u w : World} {r : RSt} (h : RRun F n b u w r) : RRun (fun k => Own F u k ∧ k < w.heap.size) n b w w r := by
  obtain ⟨wv, dv, iv, hA, hR⟩ := h.lies
  obtain ⟨g, e, hg, ho, hne, hd, hi⟩ := hR.wiped
  exact ⟨Turns.refl _ _, .inl ⟨h.mine, Blk.lt hA⟩, h.ok, wv, dv, iv, hA, ⟨g, e, hg, .inl ⟨ho, hg.lt⟩, hne, hd, hi⟩, hR.durs, hR.dcap, fun k hk h0 => ⟨(hR.dblk k hk h0).1, .inl ⟨(hR.dblk k hk h0).2.1, reads_blk hR.durs k hk h0⟩, (hR.dblk k hk h0).2.2⟩, hR.inn, fun k hk => ⟨(hR.iblk k hk).1, .inl ⟨(hR.iblk k hk).2, owns_lt hR.inn k hk⟩⟩⟩
/-- Its blocks were not turned: it stands as it stood. -/
theorem RRun.stays {F : Nat → Prop} {n b : Nat} {w w' : World} {r : RSt} (h : RRun F n b w w r) (hs : w.heap.size ≤ w'.heap.size) (k : ∀ g, F g → g < w.heap.size → w'.heap[g]? = w.heap[g]?) : RRun F n b w' w' r := by
  obtain ⟨wv, dv, iv, hA, hR⟩ := h.lies
  obtain ⟨g, e, hg, ho, hne, hd, hi⟩ := hR.wiped
  have move : ∀ {c : Nat} {T : TypeId} {L : List Value}, Blk w c T L → F c → Blk w' c T L := fun {c T L} hb hf => by
    have hl := hb.lt
    unfold Blk at hb ⊢
    rw [k c hf hl]; exact hb
  have fb := own_in h.mine (Blk.lt hA)
  have fg := own_in ho hg.lt
  refine ⟨Turns.refl _ _, .inl fb, h.ok, wv, dv, iv, move hA fb, ⟨g, e, move hg fg, .inl fg, hne, hd, hi⟩, ?_, hR.dcap, fun j hj h0 => ⟨(hR.dblk j hj h0).1, .inl (own_in (hR.dblk j hj h0).2.1 (reads_blk hR.durs j hj h0)), (hR.dblk j hj h0).2.2⟩, ?_, fun j hj => ⟨(hR.iblk j hj).1, .inl (own_in (hR.iblk j hj).2 (owns_lt hR.inn j hj))⟩⟩
  · have hlt := reads_blk hR.durs
    have hbl := hR.dblk
    obtain ⟨a, cap, rfl, hr⟩ := hR.durs
    refine ⟨a, cap, rfl, fun h0 => ?_⟩
    obtain ⟨g2, o, rfl, hc⟩ := hr h0
    refine ⟨g2, o, rfl, fun j hj => ?_⟩
    rw [World.cell?_of_block (w := w) (k g2 (own_in (hbl g2 rfl h0).2.1 (hlt g2 rfl h0)) (hlt g2 rfl h0))]
    exact hc j hj
  · have hlt := owns_lt hR.inn
    refine ⟨hR.inn.1, ?_⟩
    rcases hR.inn.2 with h3 | ⟨g2, cap, cur, hv, hB, hg2, hr⟩
    · exact .inl h3
    · have hf := hR.iblk g2 (by rw [hv]; rfl)
      have hl2 := hlt g2 (by rw [hv]; rfl)
      exact .inr ⟨g2, cap, cur, hv, hB, (k g2 (own_in hf.2 hl2) hl2).trans hg2, hr⟩
/-- Both chips in memory; of the blocks of Q nothing turned since w0. -/
structure Both (Q : Nat → Prop) (n bp b : Nat) (w0 w : World) (s : St) (r : RSt) : Prop where
  lies : ∃ F ds, At w bp s ds ∧ Durs w bp ds s.durs ∧ RRun F n b w w r ∧ ¬ F bp ∧ (∀ g, ds.ownBlock = some g → 0 < s.durs.length → ¬ F g ∧ ¬ Q g) ∧ (∀ k, F k → ¬ Q k ∧ k < w.heap.size)
  ok : s.Ok n
  old : ¬ Q bp
  inn : ∀ k, Q k → k < w0.heap.size
  same : Turns (fun k => ¬ Q k) w0 w
variable {Q : Nat → Prop}
theorem both_below {n bp b : Nat} {w0 w w' : World} {s : St} {r : RSt} (h : Hid (Both Q n bp b w0 w s r)) (k : Below w.heap.size w w') : Hid (Both Q n bp b w0 w' s r) := by
  obtain ⟨F, ds, h1, h2, h3, h4, h5, h6⟩ := h.out.lies
  exact ⟨⟨F, ds, Blk.below h1 k, h2.only (Only.of_below k), h3.stays k.size (fun g hf hl => k.block g hl), h4, h5, fun j hj => ⟨(h6 j hj).1, Nat.lt_of_lt_of_le (h6 j hj).2 k.size⟩⟩, h.out.ok, h.out.old, h.out.inn, h.out.same.below k⟩
/-- A call of the program's: its block alone turned. -/
theorem both_mine {n m bp b : Nat} {w0 w w' : World} {s s' : St} {r : RSt} (h : Both Q n bp b w0 w s r) {F : Nat → Prop} {ds ds' : Value} (h3 : RRun F n b w w r) (h4 : ¬ F bp) (h5 : ∀ g, ds.ownBlock = some g → 0 < s.durs.length → ¬ F g ∧ ¬ Q g) (h6 : ∀ k, F k → ¬ Q k ∧ k < w.heap.size)
    (k : Only bp w w') (hm : n ≤ m) (ho : s'.Ok m) (d1 : At w' bp s' ds') (d2 : Durs w' bp ds' s'.durs) (d3 : ∀ g, ds'.ownBlock = some g → 0 < s'.durs.length → (ds.ownBlock = some g ∧ 0 < s.durs.length) ∨ w.heap.size ≤ g) : Both Q m bp b w0 w' s' r := by
  have h3' := h3.stays k.size (fun g hf hl => k.block g hl (fun e => h4 (e ▸ hf)))
  refine ⟨⟨F, ds', d1, d2, ⟨h3'.turns, h3'.mine, h3'.ok.more hm, h3'.lies⟩, h4, fun g hg h0 => ?_, fun j hj => ⟨(h6 j hj).1, Nat.lt_of_lt_of_le (h6 j hj).2 k.size⟩⟩, ho, h.old, h.inn, h.same.only k (.inl h.old)⟩
  rcases d3 g hg h0 with ⟨q1, q2⟩ | q
  · exact h5 g q1 q2
  · refine ⟨fun hf => ?_, fun hq => ?_⟩
    · have := (h6 g hf).2; omega
    · have h1 := h.inn g hq
      have h2 := h.same.size
      omega
/-- A call of the document's: its own blocks alone turned. -/
theorem both_its {n m bp b : Nat} {w0 w w' : World} {s : St} {r r' : RSt} (h : Both Q n bp b w0 w s r) {F : Nat → Prop} {ds : Value} (h1 : At w bp s ds) (h2 : Durs w bp ds s.durs) (h4 : ¬ F bp) (h5 : ∀ g, ds.ownBlock = some g → 0 < s.durs.length → ¬ F g ∧ ¬ Q g) (h6 : ∀ k, F k → ¬ Q k ∧ k < w.heap.size)
    (hm : n ≤ m) (h3' : RRun F m b w w' r') : Both Q m bp b w0 w' s r' := by
  have ht := h3'.turns
  have hbl : bp < w.heap.size := Blk.lt h1
  refine ⟨⟨_, ds, ht.blk h1 h4, ?_, h3'.anew, fun q => ?_, fun g hg h0 => ⟨fun q => ?_, (h5 g hg h0).2⟩, fun k q => ⟨?_, q.2⟩⟩, h.ok.mono hm, h.old, h.inn, ?_⟩
  · refine ⟨?_, h2.2⟩
    have hlt := reads_blk h2.1
    obtain ⟨a, cap, rfl, hr⟩ := h2.1
    refine ⟨a, cap, rfl, fun h0 => ?_⟩
    obtain ⟨g, o, rfl, hc⟩ := hr h0
    refine ⟨g, o, rfl, fun j hj => ?_⟩
    rw [World.cell?_of_block (w := w) (ht.block g (hlt g rfl h0) (h5 g rfl h0).1)]
    exact hc j hj
  · exact h4 (own_in q.1 hbl)
  · exact (h5 g hg h0).1 (own_in q.1 (reads_blk h2.1 g hg h0))
  · rcases q.1 with q1 | q1
    · exact (h6 k q1).1
    · intro hq
      have a1 := h.inn k hq
      have a2 := h.same.size
      omega
  · refine h.same.trans ⟨ht.os, ht.tape, ht.output, ht.size, fun i hi hq => ht.block i hi (fun hf => hq (h6 i hf).1)⟩
theorem Both.mono {n m bp b : Nat} {w0 w : World} {s : St} {r : RSt} (h : Both Q n bp b w0 w s r) (hm : n ≤ m) : Both Q m bp b w0 w s r := by
  obtain ⟨F, ds, h1, h2, h3, h4, h5, h6⟩ := h.lies
  exact ⟨⟨F, ds, h1, h2, ⟨h3.turns, h3.mine, h3.ok.more hm, h3.lies⟩, h4, h5, h6⟩, h.ok.mono hm, h.old, h.inn, h.same⟩
/-- New blocks, kept from here on. -/
theorem both_more {n bp b : Nat} {w0 w w' : World} {s : St} {r : RSt} (h : Hid (Both Q n bp b w0 w s r)) (k : Below w.heap.size w w') : Hid (Both (fun j => Q j ∨ (w.heap.size ≤ j ∧ j < w'.heap.size)) n bp b w' w' s r) := by
  have h' := both_below h k
  obtain ⟨F, ds, h1, h2, h3, h4, h5, h6⟩ := h.out.lies
  have hbl : bp < w.heap.size := Blk.lt h1
  refine ⟨⟨F, ds, Blk.below h1 k, h2.only (Only.of_below k), h3.stays k.size (fun g hf hl => k.block g hl), h4, fun g hg h0 => ⟨(h5 g hg h0).1, ?_⟩, fun j hj => ⟨?_, Nat.lt_of_lt_of_le (h6 j hj).2 k.size⟩⟩, h.out.ok, ?_, ?_, Turns.refl _ _⟩
  · rintro (q | q)
    · exact (h5 g hg h0).2 q
    · have := h2.old g hg h0; omega
  · rintro (q | q)
    · exact (h6 j hj).1 q
    · have := (h6 j hj).2; omega
  · rintro (q | q)
    · exact h.out.old q
    · omega
  · rintro j (q | q)
    · have a1 := h.out.inn j q
      have a2 := h'.out.same.size
      omega
    · exact q.2
/-- Back to what was kept before. -/
theorem both_back {Q' : Nat → Prop} {n m bp b : Nat} {w0 w v v' : World} {s s' : St} {r r' : RSt} (h : Hid (Both Q n bp b w0 w s r)) (k : Below w.heap.size w v) (h' : Hid (Both Q' m bp b v v' s' r')) (hq : ∀ j, Q j → Q' j) : Hid (Both Q m bp b w0 v' s' r') := by
  obtain ⟨F, ds, h1, h2, h3, h4, h5, h6⟩ := h'.out.lies
  have t := h'.out.same
  exact ⟨⟨F, ds, h1, h2, h3, h4, fun g hg h0 => ⟨(h5 g hg h0).1, fun q => (h5 g hg h0).2 (hq g q)⟩, fun j hj => ⟨fun q => (h6 j hj).1 (hq j q), (h6 j hj).2⟩⟩, h'.out.ok, h.out.old, h.out.inn, (h.out.same.below k).trans ⟨t.os, t.tape, t.output, t.size, fun i hi q => t.block i hi (fun q' => q (fun qq => q' (hq i qq)))⟩⟩
/-- A kept block is turned: it is kept no more. -/
theorem both_spoil {n bp b g : Nat} {w0 w w' : World} {s : St} {r : RSt} (h : Hid (Both Q n bp b w0 w s r)) (hg : Q g) (k : Only g w w') : Hid (Both (fun j => Q j ∧ j ≠ g) n bp b w0 w' s r) := by
  obtain ⟨F, ds, h1, h2, h3, h4, h5, h6⟩ := h.out.lies
  have hbl : bp < w.heap.size := Blk.lt h1
  have hne : bp ≠ g := fun e => h.out.old (e ▸ hg)
  refine ⟨⟨F, ds, ?_, ?_, h3.stays k.size (fun j hf hl => k.block j hl (fun e => (h6 j hf).1 (e ▸ hg))), h4, fun j hj h0 => ⟨(h5 j hj h0).1, fun q => (h5 j hj h0).2 q.1⟩, fun j hj => ⟨fun q => (h6 j hj).1 q.1, Nat.lt_of_lt_of_le (h6 j hj).2 k.size⟩⟩, h.out.ok, fun q => h.out.old q.1, fun j q => h.out.inn j q.1, ?_⟩
  · unfold At Blk at h1 ⊢
    rw [k.block bp hbl hne]; exact h1
  · refine ⟨?_, h2.2⟩
    have hlt := reads_blk h2.1
    obtain ⟨a, cap, rfl, hr⟩ := h2.1
    refine ⟨a, cap, rfl, fun h0 => ?_⟩
    obtain ⟨g', o, rfl, hc⟩ := hr h0
    refine ⟨g', o, rfl, fun j hj => ?_⟩
    rw [World.cell?_of_block (w := w) (k.block g' (hlt g' rfl h0) (fun e => (h5 g' rfl h0).2 (e ▸ hg)))]
    exact hc j hj
  · have t := h.out.same
    exact ⟨k.os.trans t.os, k.tape.trans t.tape, k.output.trans t.output, Nat.le_trans t.size k.size, fun i hi q => by
      have q' : Q i ∧ i ≠ g := Classical.not_not.1 q
      rw [k.block i (Nat.lt_of_lt_of_le hi t.size) q'.2]
      exact t.block i hi (fun n => n q'.1)⟩
end Go.Proofs.YtlemmabgbaleiaaGreat
end

/-! Each call of either chip, both in memory side by side. Condition: fewer clocks than a million. -/
section
namespace Go.Proofs.YtlemmabgbaleiaaGreat
open Go.RowKit Plain
set_option linter.unusedVariables false
variable {Q : Nat → Prop}

def selX (b : Bool) : Int := if b then 600 else 0
def selS (s : St) : St := if s.sel then s else s.select
def selR (r : RSt) : RSt := if r.sel then r else r.select
def desX (b : Bool) : Int := if b then 0 else 600
def desS (s : St) : St := if s.sel then s.deselect else s
def desR (r : RSt) : RSt := if r.sel then r.deselect else r
def clkS (s : St) (x : Int) : St := if 0 ≤ x ∧ x < 16 then (s.clock x.toNat).1 else s
def clkV (s : St) (x : Int) : Int := if 0 ≤ x ∧ x < 16 then ((s.clock x.toNat).2 : Int) else 0
def clkR (r : RSt) (x : Int) : RSt := if 0 ≤ x ∧ x < 16 then (r.clock x.toNat).1 else r
def clkW (r : RSt) (x : Int) : Int := if 0 ≤ x ∧ x < 16 then ((r.clock x.toNat).2 : Int) else 0
def clkE (x : Int) : Int := if 0 ≤ x ∧ x < 16 then 0 else 600
def nxtX (L : List Int) : Int := if okL L then 0 else 600
def nxtS (s : St) (L : List Int) : St := if okL L then s.next L else s
def nxtR (r : RSt) (L : List Int) : RSt := if okL L then r.next L else r

theorem two_select {n bp b : Nat} {w0 w : World} {s : St} {r : RSt} (h : Hid (Both Q n bp b w0 w s r)) :
    Calls Tryz.prog 31 #[.pointer (some ⟨bp, 0, none⟩)] w fun e w' => e = .returned (.int .i64 (selX s.sel)) ∧ Hid (Both Q n bp b w0 w' (selS s) r) := by
  obtain ⟨F, ds, h1, h2, h3, h4, h5, h6⟩ := h.out.lies
  unfold selX selS
  cases hs : s.sel
  · refine (select_any n bp s ds w h1 h.out.ok hs).mono ?_
    rintro e w' ⟨rfl, a1, a2⟩
    refine ⟨rfl, both_mine (s' := s.select) h.out h3 h4 h5 h6 a2 (Nat.le_refl _) (select_ok h.out.ok) a1 ?_ ?_⟩
    · rw [select_durs]; exact h2.only a2
    · rw [select_durs]; exact fun g hg h0 => .inl ⟨hg, h0⟩
  · refine (select_no bp s ds w h1 hs).mono ?_
    rintro e w' ⟨rfl, rfl⟩
    exact ⟨rfl, h⟩
theorem Rows3.noIn {F : Nat → Prop} {u w : World} {b : Nat} {W D : List Int} {I : List Nat} {wv dv iv : Value} (h : Rows3 F u w b W D I wv dv iv) : Rows3 F u w b W D [] wv dv (.slice none 0 0) := by
  obtain ⟨g, e, hg, ho, hne, hd, -⟩ := h.wiped
  have hn : ∀ k, (Value.slice none 0 0).ownBlock = some k → False := fun k hk => by cases hk
  exact ⟨⟨g, e, hg, ho, hne, hd, fun k hk => (hn k hk).elim⟩, h.durs, h.dcap, fun k hk h0 => ⟨(h.dblk k hk h0).1, (h.dblk k hk h0).2.1, fun j hj => (hn j hj).elim⟩, World.ownsRow_nil _ _ _ _, fun k hk => (hn k hk).elim⟩
theorem rselect_rows (r : RSt) : r.select.wiped = r.wiped ∧ r.select.durs = r.durs ∧ r.select.inn = [] := by
  unfold RSt.select
  split <;> exact ⟨rfl, rfl, rfl⟩
theorem two_rselect {n bp b : Nat} {w0 w : World} {s : St} {r : RSt} (h : Hid (Both Q n bp b w0 w s r)) :
    Calls Tryz.prog 36 #[.pointer (some ⟨b, 0, none⟩)] w fun e w' => e = .returned (.int .i64 (selX r.sel)) ∧ Hid (Both Q n bp b w0 w' s (selR r)) := by
  obtain ⟨F, ds, h1, h2, h3, h4, h5, h6⟩ := h.out.lies
  obtain ⟨wv, dv, iv, hA, hR⟩ := h3.lies
  unfold selX selR
  cases hs : r.sel
  · refine (rselect_any b r wv dv iv w hA hs).mono ?_
    rintro e w' ⟨rfl, a1, a2⟩
    refine ⟨rfl, both_its (r' := r.select) h.out h1 h2 h4 h5 h6 (Nat.le_refl _) ⟨h3.turns.only a2 h3.mine, h3.mine, ok_select h3.ok, wv, dv, _, a1, ?_⟩⟩
    rw [(rselect_rows r).1, (rselect_rows r).2.1, (rselect_rows r).2.2]
    exact hR.noIn.only a2
  · refine (rselect_no b r wv dv iv w hA hs).mono ?_
    rintro e w' ⟨rfl, rfl⟩
    exact ⟨rfl, h⟩
theorem sim_sel {s : St} {r : RSt} (h : Hid (Sim s r)) : Hid (Sim (selS s) (selR r)) := by
  unfold selS selR
  rw [← h.out.sel]
  cases hs : s.sel
  · exact sim_select h.out hs
  · exact h

theorem begin_len (s : St) (er : Bool) (a : Nat) (d : ByteArray) : (s.begin er a d).durs.length ≤ s.durs.length := by
  unfold St.begin
  split
  · exact Nat.le_refl _
  · split
    · exact Nat.le_refl _
    · show s.durs.tail.length ≤ _
      rw [List.length_tail]; omega
theorem obey_len (s : St) (k : Cmd) : (s.obey k).durs.length ≤ s.durs.length := by
  unfold St.obey
  repeat' split
  all_goals first | exact Nat.le_refl _ | exact begin_len _ _ _ _ | (unfold St.putStatus; split <;> exact Nat.le_refl _)
theorem deselect_len (s : St) : s.deselect.durs.length ≤ s.durs.length := by
  unfold St.deselect
  split
  · exact obey_len s.ended s.k
  · exact Nat.le_refl _
theorem two_deselect {n bp b : Nat} {w0 w : World} {s : St} {r : RSt} (h : Hid (Both Q n bp b w0 w s r)) (hn : n < 1000000) :
    Calls Tryz.prog 35 #[.pointer (some ⟨bp, 0, none⟩)] w fun e w' => e = .returned (.int .i64 (desX s.sel)) ∧ Hid (Both Q n bp b w0 w' (desS s) r) := by
  obtain ⟨F, ds, h1, h2, h3, h4, h5, h6⟩ := h.out.lies
  unfold desX desS
  cases hs : s.sel
  · refine (deselect_no bp s ds w h1 hs).mono ?_
    rintro e w' ⟨rfl, rfl⟩
    exact ⟨rfl, h⟩
  · refine (deselect_any n bp s ds w h1 h2 h.out.ok hs (by omega)).mono ?_
    rintro e w' ⟨rfl, ds', a1, a2, a3, a4⟩
    refine ⟨rfl, both_mine (s' := s.deselect) h.out h3 h4 h5 h6 a3 (Nat.le_refl _) (deselect_ok h.out.ok n) a1 a2 ?_⟩
    rw [a4]
    exact fun g hg h0 => .inl ⟨hg, Nat.lt_of_lt_of_le h0 (deselect_len s)⟩
theorem two_rdesel {n bp b : Nat} {w0 w : World} {s : St} {r : RSt} (h : Hid (Both Q n bp b w0 w s r)) (hn : n < 1000000) :
    Calls Tryz.prog 38 #[.pointer (some ⟨b, 0, none⟩)] w fun e w' => e = .returned (.int .i64 (desX r.sel)) ∧ Hid (Both Q n bp b w0 w' s (desR r)) := by
  obtain ⟨F, ds, h1, h2, h3, h4, h5, h6⟩ := h.out.lies
  unfold desX desR
  cases hs : r.sel
  · obtain ⟨wv, dv, iv, hA, hR⟩ := h3.lies
    refine (rdesel_no b r wv dv iv w hA hs).mono ?_
    rintro e w' ⟨rfl, rfl⟩
    exact ⟨rfl, h⟩
  · refine (rdesel_run F n b w w r h3 hs hn).mono ?_
    rintro e w' ⟨rfl, a1⟩
    exact ⟨rfl, both_its (r' := r.deselect) h.out h1 h2 h4 h5 h6 (Nat.le_refl _) a1⟩
theorem both_rok {n bp b : Nat} {w0 w : World} {s : St} {r : RSt} (h : Hid (Both Q n bp b w0 w s r)) : r.Ok n := by
  obtain ⟨F, ds, h1, h2, h3, h4, h5, h6⟩ := h.out.lies
  exact h3.ok
theorem sim_des {n : Nat} {s : St} {r : RSt} (h : Hid (Sim s r)) (ho : r.Ok n) : Hid (Sim (desS s) (desR r)) := by
  unfold desS desR
  rw [← h.out.sel]
  cases hs : s.sel
  · exact h
  · exact sim_deselect h.out ho hs

theorem two_clock {n bp b : Nat} {w0 w : World} {s : St} {r : RSt} (x : Int) (h : Hid (Both Q n bp b w0 w s r)) (hn : n < 1000000) :
    Calls Tryz.prog 32 #[.pointer (some ⟨bp, 0, none⟩), .int .i64 x] w fun e w' => e = .returned (.tuple #[.int .i64 (clkV s x), .int .i64 (clkE x)]) ∧ Hid (Both Q (n + 1) bp b w0 w' (clkS s x) r) := by
  obtain ⟨F, ds, h1, h2, h3, h4, h5, h6⟩ := h.out.lies
  unfold clkV clkE clkS
  by_cases hx : 0 ≤ x ∧ x < 16
  · rw [if_pos hx, if_pos hx, if_pos hx]
    have e : x = ((x.toNat : Nat) : Int) := by omega
    have hc := clock_any n bp s ds x.toNat w h1 h.out.ok (by omega) (by omega)
    rw [← e] at hc
    refine hc.mono ?_
    rintro e w' ⟨rfl, a1, a2⟩
    refine ⟨rfl, both_mine h.out h3 h4 h5 h6 a2 (Nat.le_succ _) (clock_ok h.out.ok _) a1 ?_ ?_⟩
    · rw [clock_durs]; exact h2.only a2
    · rw [clock_durs]; exact fun g hg h0 => .inl ⟨hg, h0⟩
  · rw [if_neg hx, if_neg hx, if_neg hx]
    refine (clock_no _ x w ⟨_, rfl⟩ (by omega)).mono ?_
    rintro e w' ⟨rfl, rfl⟩
    exact ⟨rfl, h.out.mono (Nat.le_succ _)⟩
theorem two_rclock {n bp b : Nat} {w0 w : World} {s : St} {r : RSt} (x : Int) (h : Hid (Both Q n bp b w0 w s r)) (hn : n < 1000000) :
    Calls Tryz.prog 91 #[.pointer (some ⟨b, 0, none⟩), .int .i64 x] w fun e w' => e = .returned (.tuple #[.int .i64 (clkW r x), .int .i64 (clkE x)]) ∧ Hid (Both Q (n + 1) bp b w0 w' s (clkR r x)) := by
  obtain ⟨F, ds, h1, h2, h3, h4, h5, h6⟩ := h.out.lies
  unfold clkW clkE clkR
  by_cases hx : 0 ≤ x ∧ x < 16
  · rw [if_pos hx, if_pos hx, if_pos hx]
    have e : x = ((x.toNat : Nat) : Int) := by omega
    have hc := rclock_run F n b w w r x.toNat h3 (by omega) hn
    rw [← e] at hc
    refine hc.mono ?_
    rintro e w' ⟨rfl, a1⟩
    exact ⟨rfl, both_its h.out h1 h2 h4 h5 h6 (Nat.le_succ _) a1⟩
  · rw [if_neg hx, if_neg hx, if_neg hx]
    refine (rclock_no b x w (by omega)).mono ?_
    rintro e w' ⟨rfl, rfl⟩
    exact ⟨rfl, h.out.mono (Nat.le_succ _)⟩
theorem sim_clk {n : Nat} {s : St} {r : RSt} (h : Hid (Sim s r)) (ho : r.Ok n) (x : Int) : Hid (Sim (clkS s x) (clkR r x)) ∧ clkV s x = clkW r x := by
  unfold clkS clkR clkV clkW
  by_cases hx : 0 ≤ x ∧ x < 16
  · rw [if_pos hx, if_pos hx, if_pos hx, if_pos hx]
    exact ⟨(sim_clock h.out ho x.toNat).1, congrArg _ (sim_clock h.out ho x.toNat).2⟩
  · rw [if_neg hx, if_neg hx, if_neg hx, if_neg hx]
    exact ⟨h, rfl⟩

theorem sim_nxt {s : St} {r : RSt} (h : Hid (Sim s r)) (L : List Int) : Hid (Sim (nxtS s L) (nxtR r L)) := by
  unfold nxtS nxtR
  cases okL L
  · exact h
  · exact sim_next h.out L

theorem two_loss {n bp b : Nat} {w0 w : World} {s : St} {r : RSt} (m : ByteArray) (h : Hid (Both Q n bp b w0 w s r)) (hm : m.size ≤ maxLen) :
    Calls Tryz.prog 18 #[.pointer (some ⟨bp, 0, none⟩), .string m] w fun e w' => e = .returned (.int .i64 0) ∧ Hid (Both Q n bp b w0 w' (s.loss m) r) := by
  obtain ⟨F, ds, h1, h2, h3, h4, h5, h6⟩ := h.out.lies
  refine (loss_any n bp s ds m w h1 h.out.ok hm).mono ?_
  rintro e w' ⟨rfl, a1, a2⟩
  exact ⟨rfl, both_mine (s' := s.loss m) h.out h3 h4 h5 h6 a2 (Nat.le_refl _) (loss_ok h.out.ok m n) a1 (nil_durs _ _) (fun g hg h0 => by cases hg)⟩
theorem two_rloss {n bp b : Nat} {w0 w : World} {s : St} {r : RSt} (m : ByteArray) (h : Hid (Both Q n bp b w0 w s r)) (hm : m.size ≤ maxLen) :
    Calls Tryz.prog 19 #[.pointer (some ⟨b, 0, none⟩), .string m] w fun e w' => e = .returned (.tuple #[]) ∧ Hid (Both Q n bp b w0 w' s (r.loss m)) := by
  obtain ⟨F, ds, h1, h2, h3, h4, h5, h6⟩ := h.out.lies
  refine (rloss_run F n n b w w r m h3 hm).mono ?_
  rintro e w' ⟨rfl, a1⟩
  exact ⟨rfl, both_its h.out h1 h2 h4 h5 h6 (Nat.le_refl _) a1⟩

theorem two_status {n bp b : Nat} {w0 w : World} {s : St} {r : RSt} (h : Hid (Both Q n bp b w0 w s r)) :
    Calls Tryz.prog 39 #[.pointer (some ⟨bp, 0, none⟩)] w fun e w' => e = .returned (.tuple #[.int .i64 (s.first : Int), .int .i64 (s.second : Int)]) ∧ Hid (Both Q n bp b w0 w' s r) ∧ Below w.heap.size w w' := by
  obtain ⟨F, ds, h1, h2, h3, h4, h5, h6⟩ := h.out.lies
  refine (status_any bp s ds w h1).mono ?_
  rintro e w' ⟨rfl, a1⟩
  exact ⟨rfl, both_below h a1, a1⟩
theorem two_rstatus {n bp b : Nat} {w0 w : World} {s : St} {r : RSt} (h : Hid (Both Q n bp b w0 w s r)) (hs : Hid (Sim s r)) :
    Calls Tryz.prog 40 #[.pointer (some ⟨b, 0, none⟩)] w fun e w' => e = .returned (.tuple #[.int .i64 (s.first : Int), .int .i64 (s.second : Int)]) ∧ Hid (Both Q n bp b w0 w' s r) ∧ Below w.heap.size w w' := by
  obtain ⟨F, ds, h1, h2, h3, h4, h5, h6⟩ := h.out.lies
  obtain ⟨wv, dv, iv, hA, hR⟩ := h3.lies
  refine (rstatus_any b r wv dv iv w hA).mono ?_
  rintro e w' ⟨rfl, m, rfl⟩
  have hb : Below w.heap.size w (w.drewN m) := below_drewN (Below.refl _ _) m
  exact ⟨by rw [hs.out.first, hs.out.second], both_below h hb, hb⟩
theorem two_wipes {n bp b : Nat} {w0 w : World} {s : St} {r : RSt} (h : Hid (Both Q n bp b w0 w s r)) :
    Calls Tryz.prog 41 #[.pointer (some ⟨bp, 0, none⟩)] w fun e w' => ∃ a c, e = .returned (.slice a 8 c) ∧ Hid (Owns w.heap.size w' (.slice a 8 c) (wipeL s)) ∧ Hid (Both Q n bp b w0 w' s r) ∧ Below w.heap.size w w' := by
  obtain ⟨F, ds, h1, h2, h3, h4, h5, h6⟩ := h.out.lies
  refine (wipes_any bp s ds w h1).mono ?_
  rintro e w' ⟨a, c, rfl, a1, a2⟩
  exact ⟨a, c, rfl, a1, both_below h a2, a2⟩
theorem two_cells {n bp b : Nat} {w0 w : World} {s : St} {r : RSt} (h : Hid (Both Q n bp b w0 w s r)) :
    Calls Tryz.prog 22 #[.pointer (some ⟨bp, 0, none⟩)] w fun e w' => e = .returned (.string s.A) ∧ w = w' := by
  obtain ⟨F, ds, h1, h2, h3, h4, h5, h6⟩ := h.out.lies
  exact cells_any bp s ds w h1
/-- What the law reads of the document's chip by itself. -/
theorem both_reads {n bp b : Nat} {w0 w : World} {s : St} {r : RSt} (h : Hid (Both Q n bp b w0 w s r)) (hs : Hid (Sim s r)) : w.cell? ⟨b, 0, none⟩ = some (.string s.A) ∧ ∃ g, w.cell? ⟨b, 3, none⟩ = some (.slice (some ⟨g, 0, none⟩) 8 8) ∧ g < w.heap.size ∧ Hid (Reads w (.slice (some ⟨g, 0, none⟩) 8 8) (wipeL s)) := by
  obtain ⟨F, ds, h1, h2, h3, h4, h5, h6⟩ := h.out.lies
  obtain ⟨wv, dv, iv, hA, hR⟩ := h3.lies
  obtain ⟨g, rfl, hg, ho, hne, -, -⟩ := hR.wiped
  refine ⟨?_, g, Blk.cell hA 3 rfl, hg.lt, ?_⟩
  · rw [hs.out.A]; exact Blk.cell hA 0 rfl
  · have hl : (wipeL s).length = 8 := rfl
    refine ⟨_, 8, rfl, fun _ => ⟨g, 0, rfl, fun j hj => ?_⟩⟩
    rw [hs.out.wiped] at hg
    rw [hl] at hj
    refine Blk.cell hg (0 + j) ?_
    rw [Nat.zero_add, List.getElem?_map, List.getD_eq_getElem?_getD, List.getElem?_eq_getElem (by rw [hl]; exact hj)]
    rfl
/-- Two new chips. -/
theorem both_start {bp b : Nat} {w w1 w2 : World} {a : ByteArray} (hb : Below w.heap.size w w1) (hbp : w.heap.size ≤ bp) (h : At w1 bp (newSt a) (.slice none 0 0)) (hr : RRun (fun _ => False) 0 b w1 w2 (newR a)) (ha : a.size = 4096) : Hid (Both (fun k => k < w.heap.size) 0 bp b w w2 (newSt a) (newR a)) := by
  have hl : bp < w1.heap.size := Blk.lt h
  have hsz := hb.size
  have t := hr.turns
  refine ⟨⟨_, .slice none 0 0, t.blk h id, nil_durs _ _, hr.anew, fun q => ?_, fun g hg => absurd hg (by simp [Value.ownBlock]), fun k q => ⟨fun hk => ?_, q.2⟩⟩, new_ok a ha 0, fun q => ?_, fun k q => q, ?_⟩
  · rcases q.1 with q1 | q1
    · exact q1
    · omega
  · rcases q.1 with q1 | q1
    · exact q1
    · have hk' : k < w.heap.size := hk
      omega
  · have q' : bp < w.heap.size := q
    omega
  · exact (Turns.below (Turns.refl _ _) hb).trans ⟨t.os, t.tape, t.output, t.size, fun i hi _ => t.block i hi id⟩
/-- What was there before both is as it was. -/
theorem both_old {n bp b : Nat} {w w' : World} {s : St} {r : RSt} (h : Hid (Both (fun k => k < w.heap.size) n bp b w w' s r)) : Below w.heap.size w w' :=
  ⟨h.out.same.os, h.out.same.tape, h.out.same.output, h.out.same.size, fun i hi => h.out.same.block i hi (fun q => q hi)⟩
/-- A kept block's cells are as they were. -/
theorem both_cell {n bp b : Nat} {w0 w : World} {s : St} {r : RSt} (h : Hid (Both Q n bp b w0 w s r)) {p : Addr} (hp : Q p.block) : w.cell? p = w0.cell? p :=
  World.cell?_of_block (w := w0) (h.out.same.block p.block (h.out.inn _ hp) (fun q => q hp))
theorem both_block {n bp b : Nat} {w0 w : World} {s : St} {r : RSt} (h : Hid (Both Q n bp b w0 w s r)) {g : Nat} (hp : Q g) : w.heap[g]? = w0.heap[g]? :=
  h.out.same.block g (h.out.inn _ hp) (fun q => q hp)
attribute [irreducible] selX selS selR desX desS desR clkS clkV clkR clkW clkE nxtX nxtS nxtR
end Go.Proofs.YtlemmabgbaleiaaGreat
end
