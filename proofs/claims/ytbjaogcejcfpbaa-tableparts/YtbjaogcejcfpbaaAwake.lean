/-
  The seat's first check (awake) answers true, in every world. No conditions.
-/
import Derived.Test.YtbjaogcejcfpbaaDrive
import Derived.Test.YtbjaogcejcfpbaaSpoil
namespace Go.Proofs.Ytbjaogcejcfpbaa
open Go.RowKit
set_option linter.unusedVariables false

theorem command_yes (b A : Int) (M : Bool) (D N : Int) (I : Bool) (k : Int) (a : Option Addr) (n c : Nat) (L : List Int) (r : Int) (w : World) (P : List Ph) (hC : Came w a n c L) (hn : n * 8 ≤ 140737488351232) (hf : fitB b A M D N I k L r = true) (hP : phL (b, A, M, D, N, I) k.toNat L r = P) :
    Calls Try.prog 10 #[.agg #[.int .i64 b, .int .i64 A, .bool M, .int .i64 D, .int .i64 N, .bool I], .int .i64 k, .slice a n c, .int .i64 r] w fun e w' => ∃ v, e = .returned (.tuple #[v, .int .i64 0]) ∧ ∃ qs, POwns w.heap.size w' v qs ∧ qs.map Prod.snd = P ∧ Below w.heap.size w w' := by
  refine (command_any b A M D N I k a n c L r w hC hn).mono ?_
  rintro e w' ⟨⟨h0, -⟩ | ⟨-, v, he, qs, hp, hX⟩, hb⟩
  · rw [show fitB b A M D N I k L r = _ from hf] at h0; cases h0
  · exact ⟨v, he, qs, hp, hX.trans hP, hb⟩
theorem command_no (b A : Int) (M : Bool) (D N : Int) (I : Bool) (k : Int) (a : Option Addr) (n c : Nat) (L : List Int) (r : Int) (w : World) (hC : Came w a n c L) (hn : n * 8 ≤ 140737488351232) (hf : fitB b A M D N I k L r = false) :
    Calls Try.prog 10 #[.agg #[.int .i64 b, .int .i64 A, .bool M, .int .i64 D, .int .i64 N, .bool I], .int .i64 k, .slice a n c, .int .i64 r] w fun e w' => e = .returned (.tuple #[.slice none 0 0, .int .i64 900]) ∧ Below w.heap.size w w' := by
  refine (command_any b A M D N I k a n c L r w hC hn).mono ?_
  rintro e w' ⟨⟨-, he⟩ | ⟨h0, -⟩, hb⟩
  · exact ⟨he, hb⟩
  · rw [show fitB b A M D N I k L r = _ from hf] at h0; cases h0
theorem find_yes (b : Int) (w : World) (h : isOp b = true) : Calls Try.prog 7 #[.int .i64 b] w fun e w' => e = .returned (.tuple #[.agg #[.int .i64 b, .int .i64 (opA b), .bool (opM b), .int .i64 (opD b), .int .i64 (opN b), .bool (opI b)], .int .i64 0]) ∧ Below w.heap.size w w' :=
  (find_any b w).mono fun e w' ⟨he, hb⟩ => ⟨by rw [he, opB, if_pos h, if_pos h], hb⟩
theorem find_no (b : Int) (w : World) (h : isOp b = false) : Calls Try.prog 7 #[.int .i64 b] w fun e w' => e = .returned (.tuple #[.agg #[.int .i64 0, .int .i64 0, .bool false, .int .i64 0, .int .i64 0, .bool false], .int .i64 900]) ∧ Below w.heap.size w w' := by
  refine (find_any b w).mono fun e w' ⟨he, hb⟩ => ⟨?_, hb⟩
  obtain ⟨e0, e1, e2, e3, e4, e5⟩ := none_parts h
  rw [he, e0, e1, e2, e3, e4, e5, h]
  rfl
/-- Each command written out. -/
theorem find_90 (w : World) : Calls Try.prog 7 #[.int .i64 90] w fun e w' => e = .returned (.tuple #[.agg #[.int .i64 90, .int .i64 1, .bool false, .int .i64 8, .int .i64 1, .bool false], .int .i64 0]) ∧ Below w.heap.size w w' := find_yes 90 w (by decide)

theorem short_phL (o : Op6) (k : Nat) (L : List Int) (r : Int) (hl : L.length * 8 ≤ 140737488351232) : PShort (phL o k L r) := by
  have hs : ∀ (c : Prop) [Decidable c] (p : Ph), (if c then [p] else []).length ≤ 1 := fun c _ p => by split <;> simp
  constructor
  · unfold phL
    simp only [List.length_append]
    have h1 := hs (0 < o.2.1) (o.2.1, addrL k, 0, 0)
    have h2 := hs (o.2.2.1 = true) (o.2.1, L, 0, 0)
    have h3 := hs (0 < o.2.2.2.1) (0, [], o.2.2.2.1, 0)
    have h4 := hs (o.2.2.2.2.2 = true ∧ 0 < L.length) (o.2.2.2.2.1, L, 0, 0)
    have h5 := hs (0 < r) (o.2.2.2.2.1, [], 0, r)
    simp only [List.length_cons, List.length_nil]
    omega
  · intro p hp
    have hm : ∀ (c : Prop) [Decidable c] (p q : Ph), p ∈ (if c then [q] else []) → p = q := fun c _ p q h => by
      split at h
      · simpa using h
      · simp at h
    unfold phL at hp
    simp only [List.mem_append] at hp
    rcases hp with ((((hp | hp) | hp) | hp) | hp) | hp
    · have : p = (1, [o.1], 0, 0) := by simpa using hp
      subst this; simp
    · rw [hm _ _ _ hp]; simp [addrL]
    · rw [hm _ _ _ hp]; exact hl
    · rw [hm _ _ _ hp]; simp
    · rw [hm _ _ _ hp]; exact hl
    · rw [hm _ _ _ hp]; simp

/-- The phases of the check. -/
def sfL : List Ph := [(1, [90], 0, 0), (1, [0, 1, 2], 0, 0), (0, [], 8, 0), (1, [], 0, 2)]
theorem sf_is : phL (90, 1, false, 8, 1, false) 258 [] 2 = sfL := by decide
theorem sf_short : PShort sfL := by rw [← sf_is]; exact short_phL _ _ _ _ (by decide)
theorem sf_lit (w : World) : PReads (((w.alloc (.cells #[.int .i64 90] 3)).alloc (.cells #[.int .i64 0, .int .i64 1, .int .i64 2] 3)).alloc (.cells #[.int .i64 1, .slice (some ⟨w.heap.size, 0, none⟩) 1 1, .int .i64 0, .int .i64 0, .int .i64 1, .slice (some ⟨w.heap.size + 1, 0, none⟩) 3 3, .int .i64 0, .int .i64 0, .int .i64 0, .slice none 0 0, .int .i64 8, .int .i64 0, .int .i64 1, .slice none 0 0, .int .i64 0, .int .i64 2] 45)) (.slice (some ⟨w.heap.size + 1 + 1, 0, none⟩) 4 4) sfL := by
  have r1 : Reads ((w.alloc (.cells #[.int .i64 90] 3)).alloc (.cells #[.int .i64 0, .int .i64 1, .int .i64 2] 3)) (.slice (some ⟨w.heap.size, 0, none⟩) 1 1) [90] := (reads_lit [90] (heap_alloc_new w _) rfl rfl 1).below (below_new _ _)
  have r2 : Reads ((w.alloc (.cells #[.int .i64 90] 3)).alloc (.cells #[.int .i64 0, .int .i64 1, .int .i64 2] 3)) (.slice (some ⟨w.heap.size + 1, 0, none⟩) 3 3) [0, 1, 2] := by
    have := reads_lit [0, 1, 2] (heap_alloc_new (w.alloc (.cells #[.int .i64 90] 3)) (.cells #[.int .i64 0, .int .i64 1, .int .i64 2] 3)) rfl rfl 3
    rwa [show (w.alloc (.cells #[.int .i64 90] 3)).heap.size = w.heap.size + 1 by simp] at this
  have hs : ((w.alloc (.cells #[.int .i64 90] 3)).alloc (.cells #[.int .i64 0, .int .i64 1, .int .i64 2] 3)).heap.size = w.heap.size + 1 + 1 := by simp
  generalize (w.alloc (.cells #[.int .i64 90] 3)).alloc (.cells #[.int .i64 0, .int .i64 1, .int .i64 2] 3) = W at r1 r2 hs ⊢
  rw [← hs]
  have q1 := r1.below (below_new W (.cells #[.int .i64 1, .slice (some ⟨w.heap.size, 0, none⟩) 1 1, .int .i64 0, .int .i64 0, .int .i64 1, .slice (some ⟨w.heap.size + 1, 0, none⟩) 3 3, .int .i64 0, .int .i64 0, .int .i64 0, .slice none 0 0, .int .i64 8, .int .i64 0, .int .i64 1, .slice none 0 0, .int .i64 0, .int .i64 2] 45))
  have q2 := r2.below (below_new W (.cells #[.int .i64 1, .slice (some ⟨w.heap.size, 0, none⟩) 1 1, .int .i64 0, .int .i64 0, .int .i64 1, .slice (some ⟨w.heap.size + 1, 0, none⟩) 3 3, .int .i64 0, .int .i64 0, .int .i64 0, .slice none 0 0, .int .i64 8, .int .i64 0, .int .i64 1, .slice none 0 0, .int .i64 0, .int .i64 2] 45))
  refine preads_lit [(.slice (some ⟨w.heap.size, 0, none⟩) 1 1, (1, [90], 0, 0)), (.slice (some ⟨w.heap.size + 1, 0, none⟩) 3 3, (1, [0, 1, 2], 0, 0)), (.slice none 0 0, (0, [], 8, 0)), (.slice none 0 0, (1, [], 0, 2))] (heap_alloc_new _ _) rfl rfl ?_ 4
  intro q hq
  simp only [List.mem_cons, List.not_mem_nil, or_false] at hq
  rcases hq with rfl | rfl | rfl | rfl
  · exact q1
  · exact q2
  · exact ⟨none, 0, rfl, fun h => absurd h (by decide)⟩
  · exact ⟨none, 0, rfl, fun h => absurd h (by decide)⟩

set_option maxRecDepth 100000 in
set_option maxHeartbeats 2000000 in
theorem awake_any (w : World) :
    Calls Try.prog 16 #[] w fun e w' => e = .returned (.bool true) ∧ Below w.heap.size w w' := by
  go_enter Try.func16, Try.ntmps16
  go_wp2_with fail
  refine (find_90 _).mono ?_
  rintro e w1 ⟨rfl, b1⟩
  have s1 := Six.new w1 (.int .i64 90) (.int .i64 1) (.bool false) (.int .i64 8) (.int .i64 1) (.bool false)
  have S1 : Hid (Six _ _ _ _ _ _ _ _) := s1
  have B1 : Hid (Below w.heap.size w (w1.alloc (.cells #[.int .i64 90, .int .i64 1, .bool false, .int .i64 8, .int .i64 1, .bool false] 23))) := below_then b1 (below_new _ _)
  clear b1 s1
  go_wp2_with fail
  refine (command_yes 90 1 false 8 1 false 258 none 0 0 [] 2 _ sfL (Came.none _) (by decide) (by decide) sf_is).mono ?_
  rintro e w2 ⟨v, rfl, qs, hp, hX, b2⟩
  have S2 : Hid (Six _ _ _ _ _ _ _ _) := S1.out.below b2
  have B2 : Hid (Below w.heap.size w w2) := below_then B1.out b2
  have R2 : Hid (PReads w2 v sfL) := by rw [Hid, ← hX]; exact hp.reads
  clear b2 hp hX S1 B1
  go_wp2_with fail
  refine (find_no 0 _ (by decide)).mono ?_
  rintro e w3 ⟨rfl, b3⟩
  have s3 := S2.out.below (below_then b3 (below_new w3 (.cells #[.int .i64 0, .int .i64 0, .bool false, .int .i64 0, .int .i64 0, .bool false] 23)))
  obtain ⟨c0, c1, c2, c3, c4, c5⟩ := s3
  have b3' : Below w2.heap.size w2 (w3.alloc (.cells #[.int .i64 0, .int .i64 0, .bool false, .int .i64 0, .int .i64 0, .bool false] 23)) := below_then b3 (below_new _ _)
  have B3 : Hid (Below w.heap.size w (w3.alloc (.cells #[.int .i64 0, .int .i64 0, .bool false, .int .i64 0, .int .i64 0, .bool false] 23))) := below_then B2.out b3'
  have R3 : Hid (PReads (w3.alloc (.cells #[.int .i64 0, .int .i64 0, .bool false, .int .i64 0, .int .i64 0, .bool false] 23)) v sfL) := R2.out.below b3'
  clear b3 b3' S2 B2 R2
  go_wp2_with fail
  refine (command_no 90 1 false 8 1 false 4096 none 0 0 [] 2 _ (Came.none _) (by decide) (by decide)).mono ?_
  rintro e w4 ⟨rfl, b4⟩
  have B4 : Hid (Below w.heap.size w w4) := below_then B3.out b4
  have R4 : Hid (PReads w4 v sfL) := R3.out.below b4
  clear b4 B3 R3 c0 c1 c2 c3 c4 c5
  go_wp2_with (go_at_call 12; refine (num_any _ _).mono ?_; rintro e w' ⟨rfl, rfl⟩)
  refine (phases_same _ _ sfL sfL _ (R4.out.below (below_then (below_then (below_new _ _) (below_new _ _)) (below_new _ _))) (sf_lit _) sf_short sf_short).mono ?_
  rintro e w5 ⟨rfl, b5⟩
  rw [show decide (sfL = sfL) = true from decide_eq_true rfl]
  have B5 : Hid (Below w.heap.size w w5) := below_then B4.out (below_then (below_then (below_then (below_new _ _) (below_new _ _)) (below_new _ _)) b5)
  clear b5 B4 R4
  go_wp2_with (go_at_call 12; refine (num_any _ _).mono ?_; rintro e w' ⟨rfl, rfl⟩)
  go_ret
  exact ⟨rfl, B5.out⟩
end Go.Proofs.Ytbjaogcejcfpbaa
