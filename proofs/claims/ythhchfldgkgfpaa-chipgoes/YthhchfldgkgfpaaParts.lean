/-
  The small calls of package chip: is something under way, lanes and clocks of a part, has the chip the word, is a command whole; each by a contract. Conditions: the chip, or the command, lies in memory as told.
-/
import Derived.Test.YthhchfldgkgfpaaLayout
import Derived.Test.YthhchfldgkgfpaaMask
import Derived.BigQuiet
import Derived.Deep.QuietTactic
import Derived.Deep.CutRange
import Derived.Deep.RegionHeld3
namespace Go.Proofs.Ythhchfldgkgfpaa
open Go.RowKit Plain
set_option linter.unusedVariables false

theorem goes_any (n : Nat) (er : Bool) (a : Nat) (d : ByteArray) (w : World) :
    Calls Try.prog 39 #[.agg #[.int .i64 (n : Int), .bool er, .int .i64 (a : Int), .string d]] w fun e w' => e = .returned (.bool (decide (0 < n))) ∧ Below w.heap.size w w' := by
  go_enter Try.func39, Try.ntmps39
  go_wp2
  go_ret
  exact ⟨rfl, below_new _ _⟩

theorem busy_any (b : Nat) (s : St) (ds : Value) (w : World) (h : At w b s ds) :
    Calls Try.prog 32 #[.pointer (some ⟨b, 0, none⟩)] w fun e w' => e = .returned (.bool s.busy) ∧ Below w.heap.size w w' := by
  have c20 : w.cell? ⟨b, 20, none⟩ = some (.int .i64 (s.left : Int)) := Blk.cell h 20 rfl
  have c21 : w.cell? ⟨b, 21, none⟩ = some (.bool s.erases) := Blk.cell h 21 rfl
  have c22 : w.cell? ⟨b, 22, none⟩ = some (.int .i64 (s.wat : Int)) := Blk.cell h 22 rfl
  have c23 : w.cell? ⟨b, 23, none⟩ = some (.string s.wdata) := Blk.cell h 23 rfl
  cases e : decide (0 < s.left) with
  | false =>
    have e1 : s.busy = false := by unfold St.busy; rw [e]; rfl
    rw [e1]
    go_enter Try.func32, Try.ntmps32
    go_wp2_with (go_at_call 39; refine (goes_any _ _ _ _ _).mono ?_; rintro e w' ⟨rfl, b1⟩)
    go_ret
    exact ⟨rfl, b1⟩
  | true =>
    have e1 : s.busy = !s.sus := by unfold St.busy; rw [e]; rfl
    rw [e1]
    go_enter Try.func32, Try.ntmps32
    go_wp2_with (go_at_call 39; refine (goes_any _ _ _ _ _).mono ?_; rintro e w' ⟨rfl, b1⟩; have c17 : w'.cell? ⟨b, 17, none⟩ = some (.bool s.sus) := Blk.cell (Blk.below h b1) 17 rfl)
    go_ret
    exact ⟨rfl, b1⟩

theorem over_any (l n : Nat) (w : World) (hl : l = 0 ∨ l = 1 ∨ l = 4) (hn : n ≤ 24) :
    Calls Try.prog 60 #[.int .i64 (l : Int), .int .i64 (n : Int)] w fun e w' => e = .returned (.tuple #[.int .i64 ((over l n).1 : Int), .int .i64 ((over l n).2 : Int)]) ∧ Below w.heap.size w w' := by
  rcases hl with rfl | rfl | rfl
  · go_enter Try.func60, Try.ntmps60
    go_wp2
    go_ret2
    exact ⟨rfl, Below.refl _ _⟩
  · have e1 : (over 1 n) = (1, n) := by simp [over]
    rw [e1]
    go_enter Try.func60, Try.ntmps60
    go_wp2
    go_quiet (fail)
    go_wp2
    go_ret2
    exact ⟨rfl, below_drewN (Below.refl _ _) _⟩
  · have e1 : (over 4 n) = (4, n / 4) := by simp [over]
    rw [e1]
    go_enter Try.func60, Try.ntmps60
    go_wp2
    go_quiet (fail)
    go_wp2
    go_ret2
    exact ⟨rfl, below_drewN (Below.refl _ _) _⟩

theorem over_at (x y : Int) (l n : Nat) (w : World) (hx : x = (l : Int)) (hy : y = (n : Int)) (hl : l = 0 ∨ l = 1 ∨ l = 4) (hn : n ≤ 24) :
    Calls Try.prog 60 #[.int .i64 x, .int .i64 y] w fun e w' => e = .returned (.tuple #[.int .i64 ((over l n).1 : Int), .int .i64 ((over l n).2 : Int)]) ∧ Below w.heap.size w w' := by
  subst hx hy; exact over_any l n w hl hn

set_option maxHeartbeats 400000 in
theorem split_any (b o : Nat) (k : Cmd) (w : World) (h : w.rangeAt b o (cmdCells k)) (hk : k.op.Ok) (hp : k.part ≤ 5) :
    Calls Try.prog 48 #[.pointer (some ⟨b, o, none⟩)] w fun e w' => e = .returned (.tuple #[.int .i64 (k.split.1 : Int), .int .i64 (k.split.2 : Int)]) ∧ Below w.heap.size w w' := by
  have c1 : w.cell? ⟨b, o + 1, none⟩ = some (.int .i64 (k.op.addr : Int)) := h 1 _ rfl
  have c2 : w.cell? ⟨b, o + 2, none⟩ = some (.bool k.op.mode) := h 2 _ rfl
  have c3 : w.cell? ⟨b, o + 3, none⟩ = some (.int .i64 (k.op.dummy : Int)) := h 3 _ rfl
  have c4 : w.cell? ⟨b, o + 4, none⟩ = some (.int .i64 (k.op.data : Int)) := h 4 _ rfl
  have hd := hk.dummy
  have ha := hk.addr
  have hD := hk.data
  rcases (by omega : k.part = 0 ∨ k.part = 1 ∨ k.part = 2 ∨ k.part = 3 ∨ k.part = 4 ∨ k.part = 5) with e | e | e | e | e | e
  · have e1 : k.split = over 1 8 := by simp [Cmd.split, splitO, e, over]
    have c6 : w.cell? ⟨b, o + 6, none⟩ = some (.int .i64 0) := by rw [h 6 _ rfl, e]; rfl
    rw [e1]
    go_enter Try.func48, Try.ntmps48
    go_wp2_with (go_at_call 60; refine (over_at 1 8 1 8 _ rfl rfl (by decide) (by decide)).mono ?_; rintro e w' ⟨rfl, b1⟩)
    go_ret2
    exact ⟨rfl, b1⟩
  · have e1 : k.split = over k.op.addr 24 := by simp [Cmd.split, splitO, e]
    have c6 : w.cell? ⟨b, o + 6, none⟩ = some (.int .i64 1) := by rw [h 6 _ rfl, e]; rfl
    rw [e1]
    go_enter Try.func48, Try.ntmps48
    go_wp2_with (go_at_call 60; refine (over_at _ 24 k.op.addr 24 _ rfl rfl ha (by decide)).mono ?_; rintro e w' ⟨rfl, b1⟩)
    go_ret2
    exact ⟨rfl, b1⟩
  · have c6 : w.cell? ⟨b, o + 6, none⟩ = some (.int .i64 2) := by rw [h 6 _ rfl, e]; rfl
    cases em : k.op.mode with
    | false =>
      have e1 : k.split = (0, 0) := by simp [Cmd.split, splitO, e, em]
      rw [e1]
      rw [em] at c2
      go_enter Try.func48, Try.ntmps48
      go_wp2
      go_ret2
      exact ⟨rfl, Below.refl _ _⟩
    | true =>
      have e1 : k.split = over k.op.addr 8 := by simp [Cmd.split, splitO, e, em]
      rw [e1]
      rw [em] at c2
      go_enter Try.func48, Try.ntmps48
      go_wp2_with (go_at_call 60; refine (over_at _ 8 k.op.addr 8 _ rfl rfl ha (by decide)).mono ?_; rintro e w' ⟨rfl, b1⟩)
      go_ret2
      exact ⟨rfl, b1⟩
  · have e1 : k.split = over 1 k.op.dummy := by simp [Cmd.split, splitO, e, over]
    have c6 : w.cell? ⟨b, o + 6, none⟩ = some (.int .i64 3) := by rw [h 6 _ rfl, e]; rfl
    rw [e1]
    go_enter Try.func48, Try.ntmps48
    go_wp2_with (go_at_call 60; refine (over_at 1 _ 1 k.op.dummy _ rfl rfl (by decide) (by omega)).mono ?_; rintro e w' ⟨rfl, b1⟩)
    go_ret2
    exact ⟨rfl, b1⟩
  · have e1 : k.split = over k.op.data 8 := by simp [Cmd.split, splitO, e]
    have c6 : w.cell? ⟨b, o + 6, none⟩ = some (.int .i64 4) := by rw [h 6 _ rfl, e]; rfl
    rw [e1]
    go_enter Try.func48, Try.ntmps48
    go_wp2_with (go_at_call 60; refine (over_at _ 8 k.op.data 8 _ rfl rfl hD (by decide)).mono ?_; rintro e w' ⟨rfl, b1⟩)
    go_ret2
    exact ⟨rfl, b1⟩
  · have e1 : k.split = (0, 0) := by simp [Cmd.split, splitO, e]
    have c6 : w.cell? ⟨b, o + 6, none⟩ = some (.int .i64 5) := by rw [h 6 _ rfl, e]; rfl
    rw [e1]
    go_enter Try.func48, Try.ntmps48
    go_wp2
    go_ret2
    exact ⟨rfl, Below.refl _ _⟩

theorem speaks_any (b o : Nat) (k : Cmd) (w : World) (h : w.rangeAt b o (cmdCells k)) :
    Calls Try.prog 35 #[.pointer (some ⟨b, o, none⟩)] w fun e w' => e = .returned (.bool k.speaks) ∧ w = w' := by
  have c5 : w.cell? ⟨b, o + 5, none⟩ = some (.bool k.op.inn) := h 5 _ rfl
  have c6 : w.cell? ⟨b, o + 6, none⟩ = some (.int .i64 (k.part : Int)) := h 6 _ rfl
  by_cases e : k.part = 4
  · have e1 : k.speaks = !k.op.inn := by simp [Cmd.speaks, e]
    rw [e1]
    rw [e] at c6
    go_enter Try.func35, Try.ntmps35
    go_wp2
    go_ret
    exact ⟨rfl, rfl⟩
  · have e1 : k.speaks = false := by simp [Cmd.speaks, e]
    have e2 : ((k.part : Int) == 4) = false := beq_eq_false_iff_ne.2 (by omega)
    rw [e1]
    go_enter Try.func35, Try.ntmps35
    go_wp2
    go_ret
    exact ⟨rfl, rfl⟩
theorem whole_any (b o : Nat) (k : Cmd) (w : World) (h : w.rangeAt b o (cmdCells k)) :
    Calls Try.prog 41 #[.pointer (some ⟨b, o, none⟩)] w fun e w' => e = .returned (.bool k.whole) ∧ w = w' := by
  have c6 : w.cell? ⟨b, o + 6, none⟩ = some (.int .i64 (k.part : Int)) := h 6 _ rfl
  have c7 : w.cell? ⟨b, o + 7, none⟩ = some (.int .i64 (k.clocks : Int)) := h 7 _ rfl
  by_cases e : 4 ≤ k.part
  · have e0 : decide (4 ≤ k.part) = true := decide_eq_true e
    by_cases e' : k.clocks = 0
    · have e1 : k.whole = true := by simp [Cmd.whole, e, e']
      rw [e1]
      rw [e'] at c7
      go_enter Try.func41, Try.ntmps41
      go_wp2
      go_ret
      exact ⟨rfl, rfl⟩
    · have e1 : k.whole = false := by simp [Cmd.whole, e']
      have e2 : ((k.clocks : Int) == 0) = false := beq_eq_false_iff_ne.2 (by omega)
      rw [e1]
      go_enter Try.func41, Try.ntmps41
      go_wp2
      go_ret
      exact ⟨rfl, rfl⟩
  · have e1 : k.whole = false := by simp [Cmd.whole, e]
    have e0 : decide (4 ≤ k.part) = false := decide_eq_false e
    rw [e1]
    go_enter Try.func41, Try.ntmps41
    go_wp2
    go_ret
    exact ⟨rfl, rfl⟩
end Go.Proofs.Ythhchfldgkgfpaa
