/-
  The law's own first look at the program: it answers true. No conditions.
-/
import Derived.Test.YtkmhcihkdpdmoaaTurn
import Derived.Test.YtkmhcihkdpdmoaaRows2
namespace Go.Proofs.Ytkmhcihkdpdmoaa
open Go.RowKit
set_option linter.unusedVariables false

/-- The queue in block b, made since the world u, holds L; nothing that was there since then turned. -/
structure Run (b : Nat) (u w : World) (L : List Int) : Prop where
  lies : Fif w b L
  only : Only b u w
theorem run_new (w : World) : Calls Try.prog 6 #[] w fun e w' => ∃ b, e = .returned (.pointer (some ⟨b, 0, none⟩)) ∧ w.heap.size ≤ b ∧ Hid (Run b w w' []) :=
  (new_any w).mono fun e w' ⟨h1, h2, h3⟩ => ⟨_, h1, Nat.le_refl _, ⟨h2, ⟨h3.os, h3.tape, h3.output, h3.size, fun k hk _ => h3.block k hk⟩⟩⟩
theorem run_push (b : Nat) (u : World) (L : List Int) (x : Int) (w : World) (h : Hid (Run b u w L)) :
    Calls Try.prog 10 #[.pointer (some ⟨b, 0, none⟩), .int .i64 x] w fun e w' => e = .returned (.int .i64 (pushE L)) ∧ Hid (Run b u w' (pushL L x)) :=
  (push_any b L x w h.out.lies).mono fun e w' ⟨h1, h2, h3⟩ => ⟨h1, h2, h.out.only.trans h3⟩
theorem run_pop (b : Nat) (u : World) (L : List Int) (w : World) (h : Hid (Run b u w L)) :
    Calls Try.prog 7 #[.pointer (some ⟨b, 0, none⟩)] w fun e w' => e = .returned (.tuple #[.int .i64 (popV L), .int .i64 (popE L)]) ∧ Hid (Run b u w' (popL L)) :=
  (pop_any b L w h.out.lies).mono fun e w' ⟨h1, h2, h3⟩ => ⟨h1, h2, h.out.only.trans h3⟩
theorem run_len (b : Nat) (u : World) (L : List Int) (w : World) (h : Hid (Run b u w L)) :
    Calls Try.prog 12 #[.pointer (some ⟨b, 0, none⟩)] w fun e w' => e = .returned (.int .i64 (L.length : Int)) ∧ w = w' := len_any b L w h.out.lies
theorem run_old {b B : Nat} {u w : World} {L : List Int} (h : Hid (Run b u w L)) (hb : B ≤ b) (hu : B ≤ u.heap.size) : Below B u w := h.out.only.old hb hu

set_option maxRecDepth 100000 in
set_option maxHeartbeats 1000000 in
theorem awake_any (w : World) : Calls Try.prog 13 #[] w fun e w' => e = .returned (.bool true) ∧ Below w.heap.size w w' := by
  go_enter Try.func13, Try.ntmps13
  go_wp2_with fail
  refine (run_new _).mono ?_
  rintro e w1 ⟨b, rfl, hb, r1⟩
  go_wp2_with fail
  refine (run_push b w [] 3 _ r1).mono ?_
  rintro e w2 ⟨rfl, r2⟩
  rw [show pushE [] = 0 from rfl]
  go_wp2_with fail
  refine (run_push b w [3] 4 _ r2).mono ?_
  rintro e w3 ⟨rfl, r3⟩
  rw [show pushE [3] = 0 from rfl]
  go_wp2_with fail
  refine (run_pop b w [3, 4] _ r3).mono ?_
  rintro e w4 ⟨rfl, r4⟩
  rw [show popE [3, 4] = 0 from rfl, show popV [3, 4] = 3 from rfl]
  go_wp2_with fail
  refine (run_pop b w [4] _ r4).mono ?_
  rintro e w5 ⟨rfl, r5⟩
  rw [show popE [4] = 0 from rfl, show popV [4] = 4 from rfl]
  go_wp2_with fail
  refine (run_pop b w [] _ r5).mono ?_
  rintro e w6 ⟨rfl, r6⟩
  rw [show popE [] = 800 from rfl, show popV [] = 0 from rfl]
  clear r1 r2 r3 r4 r5
  go_wp2_with fail
  refine (pop_nil _).mono ?_
  rintro e w7 ⟨rfl, rfl⟩
  go_wp2_with (first | (go_at_call 9; refine (num_any _ _).mono ?_; rintro e w' ⟨rfl, rfl⟩) | (go_at_call 12; refine (run_len b w [] _ r6).mono ?_; rintro e w' ⟨rfl, rfl⟩) | (go_at_call 12; refine (len_nil _).mono ?_; rintro e w' ⟨rfl, rfl⟩) | (go_at_call 10; refine (push_nil _ _).mono ?_; rintro e w' ⟨rfl, rfl⟩))
  go_ret
  exact ⟨rfl, run_old r6 hb (Nat.le_refl _)⟩
end Go.Proofs.Ytkmhcihkdpdmoaa
