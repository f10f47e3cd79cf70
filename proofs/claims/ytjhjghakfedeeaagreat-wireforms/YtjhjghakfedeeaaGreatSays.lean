/-
  Clocks in a row, what came of them as bytes, a new chip over a text: each by a contract. Conditions: the chip lies in memory as told; the rows are short.
-/
import Derived.Test.YtjhjghakfedeeaaGreatSay
namespace Go.Proofs.YtjhjghakfedeeaaGreat
open Go.RowKit Plain
set_option linter.unusedVariables false

/-- Clocks in a row. -/
def St.run (s : St) : List Nat → St × List Nat
  | [] => (s, [])
  | x :: r => (((s.clock x).1.run r).1, (s.clock x).2 :: ((s.clock x).1.run r).2)
theorem run_append (s : St) (L M : List Nat) : s.run (L ++ M) = (((s.run L).1.run M).1, (s.run L).2 ++ ((s.run L).1.run M).2) := by
  induction L generalizing s with
  | nil => rfl
  | cons x r ih =>
    show (((s.clock x).1.run (r ++ M)).1, (s.clock x).2 :: ((s.clock x).1.run (r ++ M)).2) = _
    rw [ih]
    rfl
theorem run_length (s : St) (L : List Nat) : (s.run L).2.length = L.length := by
  induction L generalizing s with
  | nil => rfl
  | cons x r ih => show (((s.clock x).1.run r).2.length + 1) = _; rw [ih]; rfl
theorem run_one (s : St) (x : Nat) : s.run [x] = ((s.clock x).1, [(s.clock x).2]) := rfl
theorem clock_sel (s : St) (x : Nat) : (s.clock x).1.sel = s.sel := by
  have h2 : (s.countDown.heard x).1.sel = s.countDown.sel := by
    generalize s.countDown = t
    unfold St.heard
    split
    · rfl
    · split
      · show t.begun.sel = t.sel
        unfold St.begun
        split
        · show t.looked.sel = t.sel
          unfold St.looked; split <;> rfl
        · rfl
      · show (t.hear x).sel = t.sel
        unfold St.hear
        split
        · unfold St.complete
          repeat' split
          all_goals rfl
        · rfl
  exact h2.trans (countDown_sel s)
theorem run_sel (s : St) (L : List Nat) : (s.run L).1.sel = s.sel := by
  induction L generalizing s with
  | nil => rfl
  | cons x r ih => exact (ih _).trans (clock_sel s x)
theorem select_sel (s : St) : s.select.sel = true := by unfold St.select; split <;> rfl
/-- What is said, selected ahead, deselected behind. -/
def St.say (s : St) (X : List Nat) : St := (s.select.run X).1.deselect
def St.hears (s : St) (X : List Nat) : List Nat := (s.select.run X).2
theorem begin_sel (s : St) (er : Bool) (a : Nat) (d : ByteArray) : (s.begin er a d).sel = s.sel := by
  unfold St.begin
  split
  · rfl
  · split <;> rfl
theorem putStatus_sel (s : St) (k : Cmd) : (s.putStatus k).sel = s.sel := by unfold St.putStatus; split <;> rfl
theorem obey_sel (s : St) (k : Cmd) : (s.obey k).sel = s.sel := by
  unfold St.obey
  split
  · rfl
  · split
    · rfl
    · split
      · rfl
      · split
        · rfl
        · split
          · exact putStatus_sel s k
          · split
            · split
              · exact begin_sel _ _ _ _
              · rfl
            · split
              · exact begin_sel _ _ _ _
              · rfl
theorem say_sel (s : St) (X : List Nat) : (s.say X).sel = false := by
  unfold St.say St.deselect
  split
  · rw [obey_sel]; rfl
  · rfl

/-- .. the durations below block B. -/
def LiesB (B n b : Nat) (w : World) (s : St) : Prop := ∃ ds, At w b s ds ∧ Durs w b ds s.durs ∧ (∀ g, ds.ownBlock = some g → 0 < s.durs.length → g < B) ∧ s.Ok n ∧ b < B
theorem LiesB.lies {B n b : Nat} {w : World} {s : St} (h : LiesB B n b w s) : Lies n b w s := by
  obtain ⟨ds, h1, h2, h3, h4, h5⟩ := h
  exact ⟨⟨ds, h1, h2⟩, h4⟩
theorem Lies.under {n b : Nat} {w : World} {s : St} (h : Lies n b w s) : LiesB w.heap.size n b w s := by
  obtain ⟨⟨ds, h1, h2⟩, h3⟩ := h
  exact ⟨ds, h1, h2, h2.old, h3, Blk.lt h1⟩
theorem LiesB.below {B n b : Nat} {w w' : World} {s : St} (h : LiesB B n b w s) (k : Below B w w') : LiesB B n b w' s := by
  obtain ⟨ds, h1, h2, h3, h4, h5⟩ := h
  refine ⟨ds, ?_, ?_, h3, h4, h5⟩
  · unfold At Blk at h1 ⊢
    rw [k.block b h5]; exact h1
  · refine ⟨?_, h2.2⟩
    obtain ⟨a, cap, rfl, hr⟩ := h2.1
    refine ⟨a, cap, rfl, fun h0 => ?_⟩
    obtain ⟨g, o, rfl, hc⟩ := hr h0
    refine ⟨g, o, rfl, fun j hj => ?_⟩
    rw [k.cell (show (⟨g, o + j, none⟩ : Addr).block < B from h3 g rfl h0)]
    exact hc j hj
theorem clock_liesB (B n b : Nat) (s : St) (x : Nat) (w : World) (h : LiesB B n b w s) (hn : n < 4611686018427387903) (hx : x < 16) :
    Calls Tryz.prog 58 #[.pointer (some ⟨b, 0, none⟩), .int .i64 (x : Int)] w fun e w' => e = .returned (.tuple #[.int .i64 ((s.clock x).2 : Int), .int .i64 0]) ∧ LiesB B (n + 1) b w' (s.clock x).1 ∧ Only b w w' := by
  obtain ⟨ds, hA, hD, hB, hs, hb⟩ := h
  exact (clock_any n b s ds x w hA hs hn hx).mono fun e w' ⟨h1, h2, h3⟩ => ⟨h1, ⟨ds, h2, by rw [clock_durs]; exact hD.only h3, by rw [clock_durs]; exact hB, clock_ok hs x, hb⟩, h3⟩
theorem select_liesB (B n b : Nat) (s : St) (w : World) (h : LiesB B n b w s) (hl : s.sel = false) :
    Calls Tryz.prog 57 #[.pointer (some ⟨b, 0, none⟩)] w fun e w' => e = .returned (.int .i64 0) ∧ LiesB B n b w' s.select ∧ Only b w w' := by
  obtain ⟨ds, hA, hD, hB, hs, hb⟩ := h
  exact (select_any n b s ds w hA hs hl).mono fun e w' ⟨h1, h2, h3⟩ => ⟨h1, ⟨ds, h2, by rw [select_durs]; exact hD.only h3, by rw [select_durs]; exact hB, select_ok hs, hb⟩, h3⟩
theorem row_only {B b : Nat} {w w' : World} {v : Value} {n : Nat} {xs : List Value} (h : w.ownsRow B 3 1 v n xs) (k : Only b w w') (hb : b < B) : w'.ownsRow B 3 1 v n xs := by
  obtain ⟨h1, h2 | ⟨g, cap, cur, h3, h4, h5, h6⟩⟩ := h
  · exact ⟨h1, Or.inl h2⟩
  · refine ⟨h1, Or.inr ⟨g, cap, cur, h3, h4, ?_, h6⟩⟩
    have hg : g < w.heap.size := by
      rcases Nat.lt_or_ge g w.heap.size with hlt | hge
      · exact hlt
      · rw [Array.getElem?_eq_none hge] at h5; cases h5
    rw [k.block g hg (by omega)]; exact h5
theorem Only.then {b : Nat} {u v w : World} (h : Only b u v) (k : Below u.heap.size v w) : Only b u w :=
  ⟨k.os.trans h.os, k.tape.trans h.tape, k.output.trans h.output, Nat.le_trans h.size k.size, fun i hi hb => (k.block i hi).trans (h.block i hi hb)⟩

end Go.Proofs.YtjhjghakfedeeaaGreat
