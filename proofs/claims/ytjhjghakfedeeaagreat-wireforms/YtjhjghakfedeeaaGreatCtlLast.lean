/-
  What ends a read that goes on is made once: sync.Once in one goroutine, its lock free; then the controller ends such a read. Conditions: it lies in memory as told.
-/
import Derived.Test.YtjhjghakfedeeaaGreatCtlDrive
import Derived.Test.YtjhjghakfedeeaaGreatOnce
namespace Go.Proofs.YtjhjghakfedeeaaGreat
open Go.RowKit Plain
set_option linter.unusedVariables false

theorem heap_three (w : World) (a b c : Obj) : (((w.alloc a).alloc b).alloc c).heap[w.heap.size]? = some a ∧ (((w.alloc a).alloc b).alloc c).heap[w.heap.size + 1]? = some b ∧ (((w.alloc a).alloc b).alloc c).heap[w.heap.size + 1 + 1]? = some c := by
  refine ⟨?_, ?_, ?_⟩
  · rw [(below_new ((w.alloc a).alloc b) c).block w.heap.size (by simp; omega)]; exact heap_two w a b
  · rw [(below_new ((w.alloc a).alloc b) c).block (w.heap.size + 1) (by simp)]; exact heap_last w a b
  · have := heap_alloc_new ((w.alloc a).alloc b) c
    simpa using this
theorem lit_last {Q : Nat → Prop} (w : World) (hq : ∀ g, w.heap.size ≤ g → Q g) :
    PIn Q (((w.alloc (.cells #[.int .i64 0, .int .i64 0, .int .i64 0] 3)).alloc (.cells #[.int .i64 0] 3)).alloc (.cells #[.int .i64 4, .slice (some ⟨w.heap.size, 0, none⟩) 3 3, .int .i64 0, .int .i64 0, .int .i64 4, .slice (some ⟨w.heap.size + 1, 0, none⟩) 1 1, .int .i64 0, .int .i64 0] 49)) (.slice (some ⟨w.heap.size + 1 + 1, 0, none⟩) 2 2) lastP := by
  obtain ⟨h1, h2, h3⟩ := heap_three w (.cells #[.int .i64 0, .int .i64 0, .int .i64 0] 3) (.cells #[.int .i64 0] 3) (.cells #[.int .i64 4, .slice (some ⟨w.heap.size, 0, none⟩) 3 3, .int .i64 0, .int .i64 0, .int .i64 4, .slice (some ⟨w.heap.size + 1, 0, none⟩) 1 1, .int .i64 0, .int .i64 0] 49)
  refine pin_lit [(.slice (some ⟨w.heap.size, 0, none⟩) 3 3, (4, [0, 0, 0], 0, 0)), (.slice (some ⟨w.heap.size + 1, 0, none⟩) 1 1, (4, [0], 0, 0))] h3 rfl rfl (Nat.le_refl _) (hq _ (by omega)) ?_
  intro q hq2
  simp at hq2
  rcases hq2 with rfl | rfl
  · exact rin_lit h1 rfl rfl (hq _ (Nat.le_refl _))
  · exact rin_lit h2 rfl rfl (hq _ (by omega))
theorem mid3_set (h s1 s2 T : List Value) (e1 : h.length = 4) (e2 : s1.length = 18) (e3 : s2.length = 18) (j : Nat) (v : Value) : (h ++ (s1 ++ (s2 ++ T))).set (40 + j) v = h ++ (s1 ++ (s2 ++ T.set j v)) := by
  rw [List.set_append_right _ _ (by omega), List.set_append_right _ _ (by omega), List.set_append_right _ _ (by omega), e1, e2, e3, show 40 + j - 4 - 18 - 18 = j by omega]

set_option maxRecDepth 100000 in
set_option maxHeartbeats 1600000 in
/-- What the controller hands to sync.Once. -/
theorem lfill_any (kb : Nat) (pl : Addr) (x : Value) (w : World) (hp : w.cell? pl = some (.pointer (some ⟨kb, 0, none⟩))) (h44 : w.cell? ⟨kb, 44, none⟩ = some x) (f44 : w.frozen? ⟨kb, 44, none⟩ = false) :
    Calls Tryz.prog 148 #[.pointer (some pl)] w fun e w' => e = .returned (.tuple #[]) ∧ ∃ v lv, Below w.heap.size w v ∧ PIn (fun g => w.heap.size ≤ g) v lv lastP ∧ w' = v.setCell ⟨kb, 44, none⟩ lv := by
  have l1 := cell_lt hp
  have l2 : kb < w.heap.size := cell_lt h44
  have HL := lit_last (Q := fun g => w.heap.size ≤ g) w (fun g hg => hg)
  have hb := below_then (below_then (below_new w (.cells #[.int .i64 0, .int .i64 0, .int .i64 0] 3)) (below_new _ (.cells #[.int .i64 0] 3))) (below_new _ (.cells #[.int .i64 4, .slice (some ⟨w.heap.size, 0, none⟩) 3 3, .int .i64 0, .int .i64 0, .int .i64 4, .slice (some ⟨w.heap.size + 1, 0, none⟩) 1 1, .int .i64 0, .int .i64 0] 49))
  have HL : Hid (PIn _ _ _ _) := HL
  have HB : Hid (Below _ _ _) := hb
  have HP : Hid (∀ u : World, Below w.heap.size w u → u.cell? pl = some (.pointer (some ⟨kb, 0, none⟩)) ∧ u.cell? ⟨kb, 44, none⟩ = some x ∧ u.frozen? ⟨kb, 44, none⟩ = false) := fun u k =>
    ⟨by rw [k.cell l1]; exact hp, by rw [k.cell (show (⟨kb, 44, none⟩ : Addr).block < _ from l2)]; exact h44, by rw [k.frozen (show (⟨kb, 44, none⟩ : Addr).block < _ from l2)]; exact f44⟩
  obtain ⟨q1, q2, q3⟩ := HP.out _ HB.out
  clear hb
  go_enter Tryz.func148, Tryz.ntmps148
  go_wp2
  go_end0
  exact ⟨rfl, _, _, HB.out, HL.out, rfl⟩

set_option maxRecDepth 100000 in
set_option maxHeartbeats 1600000 in
theorem cslow_any (kb : Nat) (pl : Addr) (hpb : pl.block ≠ kb) (x : Value) (L : List Value) (w : World) (hp : w.cell? pl = some (.pointer (some ⟨kb, 0, none⟩))) (h : Blk w kb 143 L)
    (h11 : L[41]? = some (.int .u32 0)) (h12 : L[42]? = some (.int .i32 0)) (h14 : L[44]? = some x) :
    Calls Tryz.prog 161 #[.pointer (some ⟨kb, 41, none⟩), .func (.func 148) #[] #[.pointer (some pl)]] w fun e w' => e = .returned (.tuple #[]) ∧
      ∃ lv, Blk w' kb 143 ((((L.set 42 (.int .i32 1)).set 44 lv).set 41 (.int .u32 1)).set 42 (.int .i32 0)) ∧ PIn (fun g => w.heap.size ≤ g) w' lv lastP ∧ Only kb w w' := by
  have hkl : kb < w.heap.size := h.lt
  have c11 := h.cell 41 h11
  have c12 := h.cell 42 h12
  have f12 := h.frozen 42
  have h1 := h.set 42 (.int .i32 1)
  have o1 := (Only.refl kb w).set 42 (.int .i32 1)
  have e11 : (L.set 42 (.int .i32 1))[41]? = some (.int .u32 0) := by rw [List.getElem?_set_ne (by decide)]; exact h11
  have e14 : (L.set 42 (.int .i32 1))[44]? = some x := by rw [List.getElem?_set_ne (by decide)]; exact h14
  have hl12 : 42 < L.length := (List.getElem?_eq_some_iff.1 h12).1
  have hp1 : (w.setCell ⟨kb, 42, none⟩ (.int .i32 1)).cell? pl = some (.pointer (some ⟨kb, 0, none⟩)) := (World.cell?_setCell_other _ ⟨kb, 42, none⟩ pl _ (fun h => hpb (by rw [← h]))).trans hp
  have hl := run_call_load (P := Tryz.prog) Tryz.func173 (by kernel_rfl) (by kernel_rfl) (by kernel_rfl) .u32 (by kernel_rfl) (w := w.setCell ⟨kb, 42, none⟩ (.int .i32 1)) (a := ⟨kb, 41, none⟩) (x := 0) (h1.cell 41 e11)
  have hnot : ∀ (x : Bool) (w : World), (Op.unary .not (.bool x)).run Tryz.prog w = .ok (.bool (!x)) w := fun _ _ => rfl
  have H1 : Hid (Blk (w.setCell ⟨kb, 42, none⟩ (.int .i32 1)) kb 143 (L.set 42 (.int .i32 1))) := h1
  have H1p : Hid ((w.setCell ⟨kb, 42, none⟩ (.int .i32 1)).cell? pl = some (.pointer (some ⟨kb, 0, none⟩))) := hp1
  have hs : (w.setCell ⟨kb, 42, none⟩ (.int .i32 1)).heap.size = w.heap.size := by simp
  go_enter_defers Tryz.func161, Tryz.ntmps161
  go_wp2_with (first | (go_at_call 174; refine (lock_now ⟨kb, 42, none⟩ _ c12 f12).mono ?_; rintro e w' ⟨rfl, rfl⟩) | (go_at_call 160; go_in) | (go_at_call 148; refine (lfill_any kb pl x _ H1p.out (H1.out.cell 44 e14) (H1.out.frozen 44)).mono ?_; rintro e w2 ⟨rfl, v, lv, bv, pv, rfl⟩))
  have h2 : Blk (v.setCell ⟨kb, 44, none⟩ lv) kb 143 ((L.set 42 (.int .i32 1)).set 44 lv) := (Blk.below H1.out bv).set 44 _
  have o2 : Only kb w (v.setCell ⟨kb, 44, none⟩ lv) := (o1.below bv).set 44 _
  have p2 : PIn (fun g => w.heap.size ≤ g) (v.setCell ⟨kb, 44, none⟩ lv) lv lastP := by
    rw [hs] at pv
    exact pv.stays fun g hg hl => ((Only.refl kb v).set 44 lv).block g hl (by omega)
  have g11 : (((L.set 42 (.int .i32 1)).set 44 lv))[41]? = some (.int .u32 0) := by rw [List.getElem?_set_ne (by decide)]; exact e11
  have g12 : (((L.set 42 (.int .i32 1)).set 44 lv).set 41 (.int .u32 1))[42]? = some (.int .i32 1) := by rw [List.getElem?_set_ne (by decide), List.getElem?_set_ne (by decide), List.getElem?_set_self hl12]
  clear pv
  generalize (v.setCell ⟨kb, 44, none⟩ lv) = W2 at h2 o2 p2 ⊢
  refine leaves_cons (f := 176) (args := #[.pointer (some ⟨kb, 41, none⟩), .bool true]) (by simp) (by simp [go_sem]) ?_
  refine (store_later ⟨kb, 41, none⟩ (.int .u32 0) .returning _ (h2.cell 41 g11) (h2.frozen 41)).mono ?_
  rintro e u' w'' ⟨rfl, rfl, rfl⟩
  have h3 := (h2.set 41 (.int .u32 1)).drew
  have o3 := ((Only.refl kb W2).set 41 (.int .u32 1)).drew
  refine leaves_cons (f := 175) (args := #[.pointer (some ⟨kb, 42, none⟩)]) (by simp [settle]) (by simp [go_sem]) ?_
  refine (unlock_later ⟨kb, 42, none⟩ _ _ (h3.cell 42 g12) (h3.frozen 42)).mono ?_
  rintro e u' w'' ⟨rfl, rfl, rfl⟩
  have h4 := h3.set 42 (.int .i32 0)
  have o4 := o3.set 42 (.int .i32 0)
  simp [Leaves, settle, results, Tryz.results161]
  exact ⟨lv, h4, p2.stays (fun g hg hl => o4.block g hl (by omega)), o2.trans o4⟩

set_option maxRecDepth 100000 in
set_option maxHeartbeats 1600000 in
theorem cdo_first (kb : Nat) (pl : Addr) (hpb : pl.block ≠ kb) (x : Value) (L : List Value) (w : World) (hp : w.cell? pl = some (.pointer (some ⟨kb, 0, none⟩))) (h : Blk w kb 143 L)
    (h11 : L[41]? = some (.int .u32 0)) (h12 : L[42]? = some (.int .i32 0)) (h14 : L[44]? = some x) :
    Calls Tryz.prog 147 #[.pointer (some ⟨kb, 41, none⟩), .func (.func 148) #[] #[.pointer (some pl)]] w fun e w' => e = .returned (.tuple #[]) ∧
      ∃ lv, Blk w' kb 143 ((((L.set 42 (.int .i32 1)).set 44 lv).set 41 (.int .u32 1)).set 42 (.int .i32 0)) ∧ PIn (fun g => w.heap.size ≤ g) w' lv lastP ∧ Only kb w w' := by
  have hl := run_call_load (P := Tryz.prog) Tryz.func173 (by kernel_rfl) (by kernel_rfl) (by kernel_rfl) .u32 (by kernel_rfl) (h.cell 41 h11)
  have hnot : ∀ (x : Bool) (w : World), (Op.unary .not (.bool x)).run Tryz.prog w = .ok (.bool (!x)) w := fun _ _ => rfl
  have HH : Hid (Blk w kb 143 L) := h
  go_enter Tryz.func147, Tryz.ntmps147
  go_wp2_with (first | (go_at_call 161; refine (cslow_any kb pl hpb x L _ hp HH.out h11 h12 h14).mono ?_; rintro e w' ⟨rfl, lv, h1, p1, o1⟩) | (go_at_call 160; go_in))
  go_end0
  exact ⟨rfl, lv, h1, p1, o1⟩

def K.like (k : K) : K := { k with made := true }
set_option maxRecDepth 100000 in
set_option maxHeartbeats 1600000 in
theorem clast_any (n kb bp : Nat) (k : K) (R1 : List Int) (f1 : Nat) (R2 : List Int) (f2 : Nat) (lv ds : Value) (w : World) (B : KBody n kb bp w k R1 f1 R2 f2 lv ds) :
    Calls Tryz.prog 118 #[.pointer (some ⟨kb, 0, none⟩)] w fun e w' => ∃ lv', e = .returned lv' ∧ KBody n kb bp w' k.like R1 f1 R2 f2 lv' ds ∧ Only kb w w' := by
  have hmf : ∀ (fn : Fn) (first cap : Array Value) (w : World), (Instr.makeFunc fn first cap).run Tryz.prog w = .ok (.func fn first cap) w := fun _ _ _ _ => rfl
  have hlt := B.lay.lt
  have hne : w.heap.size ≠ kb := by omega
  have b0 := below_new w (.cells #[.pointer (some ⟨kb, 0, none⟩)] 61)
  have h0 := B.below b0
  have p0 : (w.alloc (.cells #[.pointer (some ⟨kb, 0, none⟩)] 61)).cell? ⟨w.heap.size, 0, none⟩ = some (.pointer (some ⟨kb, 0, none⟩)) := by simp
  have l0 : w.heap.size < (w.alloc (.cells #[.pointer (some ⟨kb, 0, none⟩)] 61)).heap.size := by simp
  have o0 : Only kb w (w.alloc (.cells #[.pointer (some ⟨kb, 0, none⟩)] 61)) := (Only.refl kb w).alloc _
  cases hm : k.made with
  | false =>
    have H0 : Hid (KBody n kb bp (w.alloc (.cells #[.pointer (some ⟨kb, 0, none⟩)] 61)) k R1 f1 R2 f2 lv ds) := h0
    have h11 : (ctlC bp k R1 f1 R2 f2 lv)[41]? = some (.int .u32 0) := (ctlC_tail B.lay.h1.ring B.lay.h2.ring 1).trans (by show some (Value.int .u32 (oneIf k.made)) = _; rw [hm]; rfl)
    have h12 : (ctlC bp k R1 f1 R2 f2 lv)[42]? = some (.int .i32 0) := (ctlC_tail B.lay.h1.ring B.lay.h2.ring 2).trans rfl
    have h14 : (ctlC bp k R1 f1 R2 f2 lv)[44]? = some lv := (ctlC_tail B.lay.h1.ring B.lay.h2.ring 4).trans rfl
    have hE : Hid (∀ lv', ((((ctlC bp k R1 f1 R2 f2 lv).set 42 (.int .i32 1)).set 44 lv').set 41 (.int .u32 1)).set 42 (.int .i32 0) = ctlC bp k.like R1 f1 R2 f2 lv') := fun lv' => by
      have e1 : (headC bp k).length = 4 := rfl
      have e2 := ringCells_len (f := f1) (c := k.tx.length) B.lay.h1.ring
      have e3 := ringCells_len (f := f2) (c := k.rx.length) B.lay.h2.ring
      unfold ctlC
      rw [mid3_set _ _ _ _ e1 e2 e3 2, mid3_set _ _ _ _ e1 e2 e3 4, mid3_set _ _ _ _ e1 e2 e3 1, mid3_set _ _ _ _ e1 e2 e3 2]
      rfl
    clear h0 B
    go_enter Tryz.func118, Tryz.ntmps118
    go_wp2_with (go_at_call 147; refine (cdo_first kb ⟨w.heap.size, 0, none⟩ hne lv (ctlC bp k R1 f1 R2 f2 lv) _ p0 H0.out.lay.blk h11 h12 h14).mono ?_; rintro e w' ⟨rfl, lv', h1, q1, o1⟩; rw [hE.out] at h1; (have L1 : KLay w' kb bp k.like R1 f1 R2 f2 lv' := ⟨h1, H0.out.lay.h1, H0.out.lay.h2⟩); (have p1 : w'.cell? ⟨w.heap.size, 0, none⟩ = some (.pointer (some ⟨kb, 0, none⟩)) := (by rw [o1.cell l0 hne]; exact p0)); (have c44 : w'.cell? ⟨kb, 44, none⟩ = some lv' := L1.tail 4 rfl))
    have hbp : bp < (w.alloc (.cells #[.pointer (some ⟨kb, 0, none⟩)] 61)).heap.size := Blk.lt H0.out.chip
    have hkp : kb < (w.alloc (.cells #[.pointer (some ⟨kb, 0, none⟩)] 61)).heap.size := H0.out.lay.lt
    go_ret
    exact ⟨_, rfl, H0.out.turn o1 L1 rfl (fun _ => q1.mono fun g hg _ => by omega) rfl H0.out.left H0.out.clocks, o0.trans o1⟩
  | true =>
    have e1 : k.like = k := by unfold K.like; cases k; cases hm; rfl
    have c41 : (w.alloc (.cells #[.pointer (some ⟨kb, 0, none⟩)] 61)).cell? ⟨kb, 41, none⟩ = some (.int .u32 1) := h0.lay.tail 1 (by show some (Value.int .u32 (oneIf k.made)) = _; rw [hm]; rfl)
    have c44 : (w.alloc (.cells #[.pointer (some ⟨kb, 0, none⟩)] 61)).cell? ⟨kb, 44, none⟩ = some lv := h0.lay.tail 4 rfl
    rw [e1]
    have H0 : Hid (KBody n kb bp (w.alloc (.cells #[.pointer (some ⟨kb, 0, none⟩)] 61)) k R1 f1 R2 f2 lv ds) := h0
    clear h0 B
    go_enter Tryz.func118, Tryz.ntmps118
    go_wp2_with (go_at_call 147; refine (do_done ⟨kb, 41, none⟩ _ _ c41).mono ?_; rintro e w' ⟨rfl, rfl⟩)
    go_ret
    exact ⟨_, rfl, H0.out, o0⟩
end Go.Proofs.YtjhjghakfedeeaaGreat
