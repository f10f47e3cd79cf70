/-
  New of package line, the document's NewCache, the laws' CopyCache and text, each by a contract. Conditions: those of each statement.
-/
import Derived.Test.YtbcdfobclliboaaSame
import Derived.Laws.CopyRow
import Derived.Laws.CopyOwn
namespace Go.Proofs.Ytbcdfobclliboaa
open Go.RowKit Plain
set_option linter.unusedVariables false

/-- A line of one byte and those that follow it. -/
def lineT (b : UInt8) : ByteArray := tab 16 fun i => b + UInt8.ofNat i
theorem lineT_size (b : UInt8) : (lineT b).size = 16 := tab_size _ _
theorem u8_of (k : Nat) : ((UInt8.ofNat k).toNat : Int) = ((k % 256 : Nat) : Int) := by simp
theorem u8_step (b : UInt8) (k : Nat) (hk : k < 16) : IntKind.u8.wrap ((b.toNat : Int) + (k : Int)) = (((b + UInt8.ofNat k).toNat : Nat) : Int) := by
  rw [UInt8.toNat_add]
  have h : (UInt8.ofNat k).toNat = k := by simp; omega
  rw [h, IntKind.wrap_u8]
  omega

set_option maxRecDepth 100000 in
set_option maxHeartbeats 400000 in
theorem text_any (b : UInt8) (w : World) :
    Calls Try.prog 21 #[.int .u8 (b.toNat : Int)] w fun e w' => ∃ R, e = .returned (.string R) ∧ Hid (R = lineT b) ∧ Below w.heap.size w w' := by
  obtain ⟨W1, hmk, hb0, hbel, hsz⟩ := make_bytes w 16 (by omega)
  have hmk' : (Instr.makeSlice 59 (.int .i64 16) (.int .i64 16)).run Try.prog w = .ok (.slice (some ⟨w.heap.size, 0, none⟩) 16 16) W1 := hmk
  clear hmk
  go_enter Try.func21, Try.ntmps21
  go_wp2
  go_loopw [4] (fun i wr => ∃ k : Nat, k ≤ 16 ∧ i = .int .i64 k ∧ Bytes wr w.heap.size 16 (fun j => if j < k then b + UInt8.ofNat j else 0) ∧ Below w.heap.size w wr) (fun i _ => 16 - (intOf i).toNat)
  case atStart => exact ⟨0, Nat.zero_le _, rfl, hb0.congr (fun j hj => by rw [if_neg (by omega)]), hbel⟩
  case round =>
    obtain ⟨k, hk, rfl, hbb, hbl⟩ := hrel
    clear hmk' hb0 hbel
    by_cases hlt : k < 16
    · have hc := (hbb k hlt).1
      have hf := (hbb k hlt).2
      have hu := u8_step b k hlt
      have hv : IntKind.u8.wrap (k : Int) = (k : Int) := by rw [IntKind.wrap_u8]; omega
      go_wp2
      go_roundw
      case rel => exact ⟨k + 1, by omega, by go_num, (hbb.set_is k hlt (by first | rfl | exact hu)).congr (fun j _ => by
          by_cases e : j = k
          · subst e; rw [if_pos rfl, if_pos (by omega)]
          · rw [if_neg e]
            by_cases e2 : j < k
            · rw [if_pos e2, if_pos (by omega)]
            · rw [if_neg e2, if_neg (by omega)]), hbl.setCell (Nat.le_refl _) _⟩
      case measure => simp [intOf]; omega
    · obtain ⟨R, hbk, HR⟩ := hbb.back_is (f' := fun j => b + UInt8.ofNat j) (fun j hj => by rw [if_pos (by omega)]) 16
      clear hbb
      go_wp2
      go_ret
      exact ⟨R, rfl, HR, hbl⟩

set_option maxRecDepth 100000 in
set_option maxHeartbeats 1000000 in
theorem repeat_any (g : Nat) (w : World) (h : w.cell? ⟨g, 0, none⟩ = some (.int .i64 (-1))) :
    Calls Try.prog 29 #[.slice (some ⟨g, 0, none⟩) 1 1, .int .i64 2] w fun e w' => e = .returned (.slice (some ⟨w.heap.size, 0, none⟩) 2 2) ∧ OV w.heap.size 3 w' (.slice (some ⟨w.heap.size, 0, none⟩) 2 2) (ints [-1, -1]) ∧ Below w.heap.size w w' := by
  obtain ⟨i0, hi, hz0, hz1, hz2⟩ := info_parts info3
  have hmk : ∀ w : World, (Instr.makeSlice 22 (.int .i64 2) (.int .i64 2)).run Try.prog w = .ok (.slice (some ⟨w.heap.size, 0, none⟩) 2 2) (w.alloc (.cells #[.int .i64 0, .int .i64 0] 3)) := fun w => by
    have h := run_make (P := Try.prog) w 22 3 i0 (.int .i64 0) Try.underlying22 hi hz0 .i64 .i64 2 2 (by omega) (by omega) (by rw [hz2]; decide) (by omega)
    rw [hz1, show madeCells (Value.int .i64 0).cells ((2 : Int).toNat * 1) = #[.int .i64 0, .int .i64 0] by kernel_rfl] at h
    exact h
  have hz : (Try.prog.info? 3).map (·.size) = some 1 := by rw [hi]; simp [hz1]
  have e1 := run_copy_row (P := Try.prog) (w.alloc (.cells #[.int .i64 0, .int .i64 0] 3)) 22 22 3 3 w.heap.size 0 2 2 ⟨g, 0, none⟩ 1 1 #[.int .i64 0, .int .i64 0] 3 [.int .i64 (-1)] Try.underlying22 hz (heap_alloc_new _ _) rfl (fun j v hv => by
    match j with
    | 0 => simp at hv; subst hv; exact ((below_new w _).cell (by exact cell_lt h)).trans h
    | j + 1 => simp at hv) (by decide) (fun v hv => by simp at hv; subst hv; rfl)
  have r1 : ((w.alloc (.cells #[.int .i64 0, .int .i64 0] 3)).setRow w.heap.size #[.int .i64 (-1), .int .i64 0]).heap[w.heap.size]? = some (.cells #[.int .i64 (-1), .int .i64 0] 3) := setRow_heap _ _ _ _ 3 (0, 0) (heap_alloc_new w _)
  have b1 : Below w.heap.size w ((w.alloc (.cells #[.int .i64 0, .int .i64 0] 3)).setRow w.heap.size #[.int .i64 (-1), .int .i64 0]) := (below_new w _).trans ⟨rfl, rfl, rfl, by simp, fun k hk => setRow_other _ _ _ _ (by omega)⟩
  have e2 : (Builtin.copy_ #[22, 22] 3 #[.slice (some ⟨w.heap.size, 0, none⟩) 2 2, .slice (some ⟨g, 0, none⟩) 1 1]).run Try.prog (w.alloc (.cells #[.int .i64 0, .int .i64 0] 3)) = .ok (.int .i64 1) ((w.alloc (.cells #[.int .i64 0, .int .i64 0] 3)).setRow w.heap.size #[.int .i64 (-1), .int .i64 0]) := e1
  clear e1
  go_enter Try.func29, Try.ntmps29
  go_wp2_with (go_at_call 35; refine (mul_any _).mono ?_; rintro e w' ⟨rfl, rfl⟩)
  generalize (w.alloc (.cells #[.int .i64 0, .int .i64 0] 3)).setRow w.heap.size #[.int .i64 (-1), .int .i64 0] = W at r1 b1 ⊢
  clear e2
  have e3 := run_copy_row (P := Try.prog) W.drew 22 22 3 3 w.heap.size 1 1 1 ⟨w.heap.size, 0, none⟩ 1 2 #[.int .i64 (-1), .int .i64 0] 3 [.int .i64 (-1)] Try.underlying22 hz r1 rfl (fun j v hv => by
    match j with
    | 0 => simp at hv; subst hv; exact (Blk.cell (L := [.int .i64 (-1), .int .i64 0]) r1 0 rfl)
    | j + 1 => simp at hv) (by decide) (fun v hv => by simp at hv; subst hv; rfl)
  have e4 : (Builtin.copy_ #[22, 22] 3 #[.slice (some ⟨w.heap.size, 1, none⟩) 1 1, .slice (some ⟨w.heap.size, 0, none⟩) 1 2]).run Try.prog W.drew = .ok (.int .i64 1) (W.drew.setRow w.heap.size #[.int .i64 (-1), .int .i64 (-1)]) := e3
  have r2 : (W.drew.setRow w.heap.size #[.int .i64 (-1), .int .i64 (-1)]).heap[w.heap.size]? = some (.cells #[.int .i64 (-1), .int .i64 (-1)] 3) := setRow_heap _ _ _ _ 3 (0, 0) r1
  have b2 : Below w.heap.size w (W.drew.setRow w.heap.size #[.int .i64 (-1), .int .i64 (-1)]) := b1.trans ⟨rfl, rfl, rfl, by simp, fun k hk => setRow_other _ _ _ _ (by omega)⟩
  clear e3 r1 b1
  refine wp_loop_rounds 2 ?_
  rw [rounds_succ]
  go_wp2_with fail
  go_region
  all_goals go_wp2_with fail
  all_goals rw [rounds_succ]
  all_goals go_wp2_with fail
  all_goals go_ret
  all_goals exact ⟨rfl, ⟨rfl, .inr ⟨w.heap.size, 2, _, rfl, Nat.le_refl _, r2, by decide, by unfold maxLen; decide, rfl, rfl⟩⟩, b2⟩

theorem make9b (w : World) : (Instr.makeSlice 23 (.int .i64 2) (.int .i64 2)).run Try.prog w = .ok (.slice (some ⟨w.heap.size, 0, none⟩) 2 2) (w.alloc (.cells #[.string ByteArray.empty, .string ByteArray.empty] 9)) := by
  obtain ⟨i0, hi, hz0, hz1, hz2⟩ := info_parts info9
  have h := run_make (P := Try.prog) w 23 9 i0 (.string ByteArray.empty) Try.underlying23 hi hz0 .i64 .i64 2 2 (by omega) (by omega) (by rw [hz2]; decide) (by omega)
  rw [hz1, show madeCells (Value.string ByteArray.empty).cells ((2 : Int).toNat * 1) = #[.string ByteArray.empty, .string ByteArray.empty] by kernel_rfl] at h
  exact h

theorem chain2 (w : World) (a b : Obj) : Below w.heap.size w ((w.alloc a).alloc b).drew := (below_then (below_new w a) (below_new (w.alloc a) b)).drew
theorem chain3 (w : World) (a b c : Obj) : Below w.heap.size w (((w.alloc a).alloc b).alloc c).drew := (below_then (below_then (below_new w a) (below_new (w.alloc a) b)) (below_new ((w.alloc a).alloc b) c)).drew

theorem new_end {w z : World} {u1 u2 : Value} {X Y : List Value} (h : Blk z w.heap.size 25 [.slice none 0 0, .slice none 0 0, .int .i64 0]) (h1 : OV w.heap.size 3 z u1 X) (h2 : OV w.heap.size 9 z u2 Y) (hb : Below w.heap.size w z) :
    Blk (((z.setCell ⟨w.heap.size, 0, none⟩ u1).setCell ⟨w.heap.size, 1, none⟩ u2).setCell ⟨w.heap.size, 2, none⟩ (.int .i64 0)) w.heap.size 25 [u1, u2, .int .i64 0] ∧
    OV w.heap.size 3 (((z.setCell ⟨w.heap.size, 0, none⟩ u1).setCell ⟨w.heap.size, 1, none⟩ u2).setCell ⟨w.heap.size, 2, none⟩ (.int .i64 0)) u1 X ∧
    OV w.heap.size 9 (((z.setCell ⟨w.heap.size, 0, none⟩ u1).setCell ⟨w.heap.size, 1, none⟩ u2).setCell ⟨w.heap.size, 2, none⟩ (.int .i64 0)) u2 Y ∧
    Below w.heap.size w (((z.setCell ⟨w.heap.size, 0, none⟩ u1).setCell ⟨w.heap.size, 1, none⟩ u2).setCell ⟨w.heap.size, 2, none⟩ (.int .i64 0)) :=
  ⟨((h.set 0 u1).set 1 u2).set 2 (.int .i64 0), ((h1.set_other 0 u1 (h1.apart h (by decide))).set_other 1 u2 (h1.apart h (by decide))).set_other 2 (.int .i64 0) (h1.apart h (by decide)),
    ((h2.set_other 0 u1 (h2.apart h (by decide))).set_other 1 u2 (h2.apart h (by decide))).set_other 2 (.int .i64 0) (h2.apart h (by decide)),
    ((hb.setCell (Nat.le_refl _) _).setCell (Nat.le_refl _) _).setCell (Nat.le_refl _) _⟩

set_option maxRecDepth 100000 in
set_option maxHeartbeats 1000000 in
theorem new_any (w : World) :
    Calls Try.prog 17 #[] w fun e w' => ∃ q1 n1 p1 q2 n2 p2, e = .returned (.agg #[.slice q1 n1 p1, .slice q2 n2 p2, .int .i64 0]) ∧ CO w.heap.size w' (.agg #[.slice q1 n1 p1, .slice q2 n2 p2, .int .i64 0]) [-1, -1] [ByteArray.empty, ByteArray.empty] 0 ∧ Below w.heap.size w w' := by
  have m9 := make9b
  have e1 : (w.alloc (.cells #[.slice none 0 0, .slice none 0 0, .int .i64 0] 25)).heap.size = w.heap.size + 1 := by simp
  have Ka : Blk (((w.alloc (.cells #[.slice none 0 0, .slice none 0 0, .int .i64 0] 25)).alloc (.cells #[.int .i64 (-1)] 3)).drew) (w.heap.size + 1) 3 [.int .i64 (-1)] := by
    have h := Blk.new (w.alloc (.cells #[.slice none 0 0, .slice none 0 0, .int .i64 0] 25)) 3 [.int .i64 (-1)] _ rfl
    rw [e1] at h
    exact h.drew
  have Kb : Blk ((((w.alloc (.cells #[.slice none 0 0, .slice none 0 0, .int .i64 0] 25)).alloc (.cells #[.int .i64 (-1)] 3)).alloc (.cells #[.string ByteArray.empty, .string ByteArray.empty] 9)).drew) (w.heap.size + 1) 3 [.int .i64 (-1)] := (Blk.alloc (w := (w.alloc (.cells #[.slice none 0 0, .slice none 0 0, .int .i64 0] 25)).alloc (.cells #[.int .i64 (-1)] 3)) Ka (.cells #[.string ByteArray.empty, .string ByteArray.empty] 9)).drew
  have Kc : Blk ((((w.alloc (.cells #[.slice none 0 0, .slice none 0 0, .int .i64 0] 25)).alloc (.cells #[.string ByteArray.empty, .string ByteArray.empty] 9)).alloc (.cells #[.int .i64 (-1)] 3)).drew) (w.heap.size + 1 + 1) 3 [.int .i64 (-1)] := by
    have h := Blk.new ((w.alloc (.cells #[.slice none 0 0, .slice none 0 0, .int .i64 0] 25)).alloc (.cells #[.string ByteArray.empty, .string ByteArray.empty] 9)) 3 [.int .i64 (-1)] _ rfl
    rw [show ((w.alloc (.cells #[.slice none 0 0, .slice none 0 0, .int .i64 0] 25)).alloc (.cells #[.string ByteArray.empty, .string ByteArray.empty] 9)).heap.size = w.heap.size + 1 + 1 by simp] at h
    exact h.drew
  have R0 : Blk (w.alloc (.cells #[.slice none 0 0, .slice none 0 0, .int .i64 0] 25)) w.heap.size 25 [.slice none 0 0, .slice none 0 0, .int .i64 0] := Blk.new w 25 _ _ rfl
  have Ra : Blk (((w.alloc (.cells #[.slice none 0 0, .slice none 0 0, .int .i64 0] 25)).alloc (.cells #[.int .i64 (-1)] 3)).drew) w.heap.size 25 [.slice none 0 0, .slice none 0 0, .int .i64 0] := (R0.alloc (.cells #[.int .i64 (-1)] 3)).drew
  have Rb : Blk ((((w.alloc (.cells #[.slice none 0 0, .slice none 0 0, .int .i64 0] 25)).alloc (.cells #[.int .i64 (-1)] 3)).alloc (.cells #[.string ByteArray.empty, .string ByteArray.empty] 9)).drew) w.heap.size 25 [.slice none 0 0, .slice none 0 0, .int .i64 0] := ((R0.alloc (.cells #[.int .i64 (-1)] 3)).alloc (.cells #[.string ByteArray.empty, .string ByteArray.empty] 9)).drew
  have Rc : Blk ((((w.alloc (.cells #[.slice none 0 0, .slice none 0 0, .int .i64 0] 25)).alloc (.cells #[.string ByteArray.empty, .string ByteArray.empty] 9)).alloc (.cells #[.int .i64 (-1)] 3)).drew) w.heap.size 25 [.slice none 0 0, .slice none 0 0, .int .i64 0] := ((R0.alloc (.cells #[.string ByteArray.empty, .string ByteArray.empty] 9)).alloc (.cells #[.int .i64 (-1)] 3)).drew
  have Ma : ∀ z : World, OV z.heap.size 9 (z.alloc (.cells #[.string ByteArray.empty, .string ByteArray.empty] 9)) (.slice (some ⟨z.heap.size, 0, none⟩) 2 2) (txts [ByteArray.empty, ByteArray.empty]) := fun z => OV.lit z #[.string ByteArray.empty, .string ByteArray.empty] 2 rfl (by unfold maxLen; decide)
  have Mb : OV w.heap.size 9 ((((w.alloc (.cells #[.slice none 0 0, .slice none 0 0, .int .i64 0] 25)).alloc (.cells #[.int .i64 (-1)] 3)).alloc (.cells #[.string ByteArray.empty, .string ByteArray.empty] 9)).drew) (.slice (some ⟨w.heap.size + 1 + 1, 0, none⟩) 2 2) (txts [ByteArray.empty, ByteArray.empty]) := by
    have h := (Ma ((w.alloc (.cells #[.slice none 0 0, .slice none 0 0, .int .i64 0] 25)).alloc (.cells #[.int .i64 (-1)] 3))).drew.mono (B' := w.heap.size) (by simp; omega)
    simpa using h
  have Mc : OV w.heap.size 9 ((((w.alloc (.cells #[.slice none 0 0, .slice none 0 0, .int .i64 0] 25)).alloc (.cells #[.string ByteArray.empty, .string ByteArray.empty] 9)).alloc (.cells #[.int .i64 (-1)] 3)).drew) (.slice (some ⟨w.heap.size + 1, 0, none⟩) 2 2) (txts [ByteArray.empty, ByteArray.empty]) := by
    have h := ((Ma (w.alloc (.cells #[.slice none 0 0, .slice none 0 0, .int .i64 0] 25))).alloc (.cells #[.int .i64 (-1)] 3)).drew.mono (B' := w.heap.size) (by simp)
    simpa using h
  have Ba : Below w.heap.size w (((w.alloc (.cells #[.slice none 0 0, .slice none 0 0, .int .i64 0] 25)).alloc (.cells #[.int .i64 (-1)] 3)).drew) := chain2 w _ _
  have Bb : Below w.heap.size w ((((w.alloc (.cells #[.slice none 0 0, .slice none 0 0, .int .i64 0] 25)).alloc (.cells #[.int .i64 (-1)] 3)).alloc (.cells #[.string ByteArray.empty, .string ByteArray.empty] 9)).drew) := chain3 w _ _ _
  have Bc : Below w.heap.size w ((((w.alloc (.cells #[.slice none 0 0, .slice none 0 0, .int .i64 0] 25)).alloc (.cells #[.string ByteArray.empty, .string ByteArray.empty] 9)).alloc (.cells #[.int .i64 (-1)] 3)).drew) := chain3 w _ _ _
  have ca := Ka.cell 0 rfl
  have cb := Kb.cell 0 rfl
  have cc := Kc.cell 0 rfl
  have sa : (((w.alloc (.cells #[.slice none 0 0, .slice none 0 0, .int .i64 0] 25)).alloc (.cells #[.int .i64 (-1)] 3)).drew).heap.size = w.heap.size + 1 + 1 := by simp
  have sb : ((((w.alloc (.cells #[.slice none 0 0, .slice none 0 0, .int .i64 0] 25)).alloc (.cells #[.int .i64 (-1)] 3)).alloc (.cells #[.string ByteArray.empty, .string ByteArray.empty] 9)).drew).heap.size = w.heap.size + 1 + 1 + 1 := by simp
  have sc : ((((w.alloc (.cells #[.slice none 0 0, .slice none 0 0, .int .i64 0] 25)).alloc (.cells #[.string ByteArray.empty, .string ByteArray.empty] 9)).alloc (.cells #[.int .i64 (-1)] 3)).drew).heap.size = w.heap.size + 1 + 1 + 1 := by simp
  have Sa : Hid (_ = _) := sa
  have Sb : Hid (_ = _) := sb
  have Sc : Hid (_ = _) := sc
  clear Ka Kb Kc e1 sa sb sc
  go_enter Try.func17, Try.ntmps17
  go_wp2_with fail
  go_region_with (first
    | (go_at_call 29; refine (repeat_any _ _ (by with_reducible exact ca)).mono ?_; rintro e w5 ⟨rfl, ho, b5⟩; (have R5 := (Ra.below b5).alloc (.cells #[.string ByteArray.empty, .string ByteArray.empty] 9)); (rw [Sa.out] at ho); (have Q1 := (ho.mono (B' := w.heap.size) (by omega)).alloc (.cells #[.string ByteArray.empty, .string ByteArray.empty] 9)); (have Q2 := (Ma w5).mono (B' := w.heap.size) (by have := b5.size; have := Ba.size; omega)); (have Q3 := below_then (below_then Ba b5) (below_new w5 (.cells #[.string ByteArray.empty, .string ByteArray.empty] 9))); (have R5c0 := R5.cell 0 rfl); (have R5f0 := R5.frozen 0); (have R5c1 := R5.cell 1 rfl); (have R5f1 := R5.frozen 1); (have R5c2 := R5.cell 2 rfl); (have R5f2 := R5.frozen 2))
    | (go_at_call 29; refine (repeat_any _ _ (by with_reducible exact cb)).mono ?_; rintro e w5 ⟨rfl, ho, b5⟩; (have R5 := Rb.below b5); (rw [Sb.out] at ho); (have Q1 := ho.mono (B' := w.heap.size) (by omega)); (have Q2 := Mb.below b5 (Nat.le_refl _)); (have Q3 := below_then Bb b5); (have R5c0 := R5.cell 0 rfl); (have R5f0 := R5.frozen 0); (have R5c1 := R5.cell 1 rfl); (have R5f1 := R5.frozen 1); (have R5c2 := R5.cell 2 rfl); (have R5f2 := R5.frozen 2))
    | (go_at_call 29; refine (repeat_any _ _ (by with_reducible exact cc)).mono ?_; rintro e w5 ⟨rfl, ho, b5⟩; (have R5 := Rc.below b5); (rw [Sc.out] at ho); (have Q1 := ho.mono (B' := w.heap.size) (by omega)); (have Q2 := Mc.below b5 (Nat.le_refl _)); (have Q3 := below_then Bc b5); (have R5c0 := R5.cell 0 rfl); (have R5f0 := R5.frozen 0); (have R5c1 := R5.cell 1 rfl); (have R5f1 := R5.frozen 1); (have R5c2 := R5.cell 2 rfl); (have R5f2 := R5.frozen 2)))
  all_goals
    obtain ⟨R6, O1, O2, B1⟩ := new_end R5 Q1 Q2 Q3
    clear R0 Ra Rb Rc Ma Mb Mc Ba Bb Bc ca cb cc ho b5 Q1 Q2 Q3 R5 R5c0 R5c1 R5c2 R5f0 R5f1 R5f2
    go_wp2_with fail
    generalize World.setCell _ ⟨w.heap.size, 2, none⟩ _ = W4 at R6 O1 O2 B1 ⊢
    have d0 := R6.cell 0 rfl
    have d1 := R6.cell 1 rfl
    have d2 := R6.cell 2 rfl
    first
      | (refine bodyPost_ret (v := .agg #[.slice (some ⟨w.heap.size + 1 + 1, 0, none⟩) 2 2, .slice (some ⟨w5.heap.size, 0, none⟩) 2 2, .int .i64 0]) ?_ rfl ⟨_, _, _, _, _, _, rfl, ⟨_, _, rfl, O1, O2⟩, B1⟩)
      | (refine bodyPost_ret (v := .agg #[.slice (some ⟨w.heap.size + 1 + 1 + 1, 0, none⟩) 2 2, .slice (some ⟨w.heap.size + 1 + 1, 0, none⟩) 2 2, .int .i64 0]) ?_ rfl ⟨_, _, _, _, _, _, rfl, ⟨_, _, rfl, O1, O2⟩, B1⟩)
      | (refine bodyPost_ret (v := .agg #[.slice (some ⟨w.heap.size + 1 + 1 + 1, 0, none⟩) 2 2, .slice (some ⟨w.heap.size + 1, 0, none⟩) 2 2, .int .i64 0]) ?_ rfl ⟨_, _, _, _, _, _, rfl, ⟨_, _, rfl, O1, O2⟩, B1⟩)
    simp [results, Try.results17, go_sem, d0, d1, d2]
end Go.Proofs.Ytbcdfobclliboaa
