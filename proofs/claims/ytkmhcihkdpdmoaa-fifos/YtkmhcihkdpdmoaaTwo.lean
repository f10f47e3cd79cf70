/-
  The program's queue and the document's, side by side in memory: each call turns its own alone. Conditions: both lie in memory as told.
-/
import Derived.Test.YtkmhcihkdpdmoaaAwake
import Derived.Test.YtkmhcihkdpdmoaaRef
namespace Go.Proofs.Ytkmhcihkdpdmoaa
open Go.RowKit
set_option linter.unusedVariables false

/-- The program's queue in block b holds L, the document's in block c holds M; nothing that was there in u turned. -/
structure Two (b c : Nat) (u w : World) (L M : List Int) : Prop where
  mine : Fif w b L
  its : RFif w c M
  old : u.heap.size ≤ b
  lt : b < c
  few : M.length ≤ 16
  below : Below u.heap.size u w
theorem two_draw {b c : Nat} {u w : World} {L M : List Int} (h : Hid (Two b c u w L M)) : Hid (Two b c u w.drew L M) := by
  obtain ⟨v, k1, k2⟩ := h.out.its
  exact ⟨h.out.mine.same rfl, ⟨v, k1, k2⟩, h.out.old, h.out.lt, h.out.few, h.out.below.drew⟩
theorem two_drawN {b c : Nat} {u w : World} {L M : List Int} (h : Hid (Two b c u w L M)) (n : Nat) : Hid (Two b c u (w.drewN n) L M) := by
  obtain ⟨v, k1, k2⟩ := h.out.its
  have hb : Below w.heap.size w (w.drewN n) := below_drewN (Below.refl _ _) n
  exact ⟨h.out.mine.below hb h.out.mine.lt, ⟨v, k1.below hb, k2.below hb (Nat.le_refl _)⟩, h.out.old, h.out.lt, h.out.few, below_drewN h.out.below n⟩
theorem two_new {b : Nat} {u w : World} (h : Hid (Run b u w [])) (hb : u.heap.size ≤ b) : Hid (Two b w.heap.size u (w.alloc (.cells #[.slice none 0 0] 27)) [] []) := by
  have hlt := h.out.lies.lt
  refine ⟨h.out.lies.below ((Below.refl w.heap.size w).alloc (Nat.le_refl _) _) hlt, ⟨_, Blk.new w 27 [.slice none 0 0] _ rfl, World.ownsRow_nil _ _ _ _⟩, hb, hlt, by decide, (h.out.only.old hb (Nat.le_refl _)).alloc h.out.only.size _⟩
theorem two_push (b c : Nat) (u : World) (L M : List Int) (x : Int) (w : World) (h : Hid (Two b c u w L M)) :
    Calls Try.prog 10 #[.pointer (some ⟨b, 0, none⟩), .int .i64 x] w fun e w' => e = .returned (.int .i64 (pushE L)) ∧ Hid (Two b c u w' (pushL L x) M) :=
  (push_any b L x w h.out.mine).mono fun e w' ⟨h1, h2, h3⟩ => ⟨h1, h2, h.out.its.only h3 h.out.lt, h.out.old, h.out.lt, h.out.few, h.out.below.trans (h3.old h.out.old h.out.below.size)⟩
theorem two_pop (b c : Nat) (u : World) (L M : List Int) (w : World) (h : Hid (Two b c u w L M)) :
    Calls Try.prog 7 #[.pointer (some ⟨b, 0, none⟩)] w fun e w' => e = .returned (.tuple #[.int .i64 (popV L), .int .i64 (popE L)]) ∧ Hid (Two b c u w' (popL L) M) :=
  (pop_any b L w h.out.mine).mono fun e w' ⟨h1, h2, h3⟩ => ⟨h1, h2, h.out.its.only h3 h.out.lt, h.out.old, h.out.lt, h.out.few, h.out.below.trans (h3.old h.out.old h.out.below.size)⟩
theorem two_refPush (b c : Nat) (u : World) (L M : List Int) (x : Int) (w : World) (h : Hid (Two b c u w L M)) :
    Calls Try.prog 11 #[.pointer (some ⟨c, 0, none⟩), .int .i64 x] w fun e w' => e = .returned (.int .i64 (pushE M)) ∧ Hid (Two b c u w' L (pushL M x)) :=
  (refPush_any c M x w h.out.its h.out.few).mono fun e w' ⟨h1, h2, h3⟩ => ⟨h1, h.out.mine.below h3 h.out.lt, h2, h.out.old, h.out.lt, pushL_le h.out.few x, h.out.below.trans (h3.mono (by have := h.out.old; have := h.out.lt; omega))⟩
theorem two_refPop (b c : Nat) (u : World) (L M : List Int) (w : World) (h : Hid (Two b c u w L M)) :
    Calls Try.prog 8 #[.pointer (some ⟨c, 0, none⟩)] w fun e w' => e = .returned (.tuple #[.int .i64 (popV M), .int .i64 (popE M)]) ∧ Hid (Two b c u w' L (popL M)) :=
  (refPop_any c M w h.out.its h.out.few).mono fun e w' ⟨h1, h2, h3⟩ => ⟨h1, h.out.mine.below h3 h.out.lt, h2, h.out.old, h.out.lt, popL_le h.out.few, h.out.below.trans (h3.mono (by have := h.out.old; have := h.out.lt; omega))⟩
theorem two_len (b c : Nat) (u : World) (L M : List Int) (w : World) (h : Hid (Two b c u w L M)) :
    Calls Try.prog 12 #[.pointer (some ⟨b, 0, none⟩)] w fun e w' => e = .returned (.int .i64 (L.length : Int)) ∧ w = w' := len_any b L w h.out.mine
theorem two_lenN {b c : Nat} {u w : World} {L M : List Int} (h : Hid (Two b c u w L M)) (n : Nat) :
    Calls Try.prog 12 #[.pointer (some ⟨b, 0, none⟩)] (w.drewN n) fun e w' => e = .returned (.int .i64 (L.length : Int)) ∧ w' = w.drewN n :=
  (two_len b c u L M _ (two_drawN h n)).mono fun e w' ⟨h1, h2⟩ => ⟨h1, h2.symm⟩
theorem two_cell {b c : Nat} {u w : World} {L M : List Int} (h : Hid (Two b c u w L M)) {p : Addr} {x : Value} (hp : u.cell? p = some x) : w.cell? p = some x := by
  rw [h.out.below.cell (cell_lt hp)]; exact hp
theorem two_row {b c : Nat} {u w : World} {L M : List Int} (h : Hid (Two b c u w L M)) : ∃ a cap, w.cell? ⟨c, 0, none⟩ = some (.slice a M.length cap) := by
  obtain ⟨v, h1, h2⟩ := h.out.its
  obtain ⟨a, cap, rfl, -⟩ := h2.reads
  exact ⟨a, cap, h1.cell 0 rfl⟩
end Go.Proofs.Ytkmhcihkdpdmoaa
