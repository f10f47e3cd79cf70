/-
  What a chip is like is made once: sync.Once in one goroutine, its lock free, by contracts; then the chip's own call. Conditions: the chip lies in memory as told.
-/
import Derived.Test.YtjhjghakfedeeaaGreatSfdp
import Derived.Defers
import Derived.Laws.Pointers
import Derived.Laws.LoneSync
import Derived.RegionTactic
import Derived.RegionCalls
import Derived.ChangeAlike
import Derived.Laws.NewBlocks
namespace Go.Proofs.YtjhjghakfedeeaaGreat
open Go.RowKit Plain
set_option linter.unusedVariables false

theorem disable_is (w : World) : (callFunc 193 #[]).run Tryz.prog w = .ok (.value (.tuple #[])) w := run_call_mark0 Tryz.func193 (by kernel_rfl) (by kernel_rfl) (by kernel_rfl) .disable (by kernel_rfl) w
theorem enable_is (w : World) : (callFunc 195 #[]).run Tryz.prog w = .ok (.value (.tuple #[])) w := run_call_mark0 Tryz.func195 (by kernel_rfl) (by kernel_rfl) (by kernel_rfl) .enable (by kernel_rfl) w
theorem acquire_is (a : Addr) (w : World) : (callFunc 196 #[.pointer (some a)]).run Tryz.prog w = .ok (.value (.tuple #[])) w := run_call_marked Tryz.func196 (by kernel_rfl) (by kernel_rfl) (by kernel_rfl) .acquire (by kernel_rfl) a w
theorem release_is (a : Addr) (w : World) : (callFunc 198 #[.pointer (some a)]).run Tryz.prog w = .ok (.value (.tuple #[])) w := run_call_marked Tryz.func198 (by kernel_rfl) (by kernel_rfl) (by kernel_rfl) .releaseMerge (by kernel_rfl) a w

/-- The word is stored, as a deferred call. -/
theorem store_later (a : Addr) (x : Value) (u : FrameMode) (w : World) (hc : w.cell? a = some x) (hz : w.frozen? a = false) :
    CallsD Tryz.prog 176 #[.pointer (some a), .bool true] u w fun e u' w' => u' = u ∧ (e = .returned (.tuple #[]) ∧ w' = (w.setCell a (.int .u32 1)).drew) := by
  have hc' : w.drew.cell? a = some x := by go_simp
  have hz' : w.drew.frozen? a = false := by go_simp
  have hst := run_call_store (P := Tryz.prog) Tryz.func188 (by kernel_rfl) (by kernel_rfl) (by kernel_rfl) (by kernel_rfl) (k := .u32) (y := 1) hc' hz'
  go_enter_d Tryz.func176, Tryz.ntmps176
  go_wp2
  go_region_calls
  all_goals (go_end0; exact ⟨rfl, rfl⟩)

set_option maxRecDepth 100000 in
set_option maxHeartbeats 1600000 in
/-- The lock is let go, as a deferred call. -/
theorem unlock_later (a : Addr) (u : FrameMode) (w : World) (hc : w.cell? a = some (.int .i32 1)) (hz : w.frozen? a = false) :
    CallsD Tryz.prog 175 #[.pointer (some a)] u w fun e u' w' => u' = u ∧ (e = .returned (.tuple #[]) ∧ w' = w.setCell a (.int .i32 0)) := by
  have hd := disable_is
  have he := enable_is
  have hr := release_is
  have hadd := run_call_add (P := Tryz.prog) Tryz.func199 (by kernel_rfl) (by kernel_rfl) (by kernel_rfl) .i32 (by kernel_rfl) (y := -1) (s := 0) hc hz (by simp [go_sem]; rfl)
  have hcv := run_convert_to_unsafe (P := Tryz.prog) (src := 223) (dst := 219) Tryz.underlying223 Tryz.underlying219 (by kernel_rfl) hc
  go_enter_d Tryz.func175, Tryz.ntmps175
  go_wp2
  go_end0
  go_wp2
  go_end0
  exact ⟨rfl, rfl⟩

set_option maxRecDepth 100000 in
set_option maxHeartbeats 1600000 in
/-- The lock, free, is taken. -/
theorem lock_now (a : Addr) (w : World) (hc : w.cell? a = some (.int .i32 0)) (hz : w.frozen? a = false) :
    Calls Tryz.prog 174 #[.pointer (some a)] w fun e w' => e = .returned (.tuple #[]) ∧ w' = w.setCell a (.int .i32 1) := by
  have hd := disable_is
  have he := enable_is
  have ha := acquire_is
  have hcas := run_call_cas_hit (P := Tryz.prog) Tryz.func194 (by kernel_rfl) (by kernel_rfl) (by kernel_rfl) .i32 (by kernel_rfl) (y := 1) hc hz
  have hc' : (w.setCell a (.int .i32 1)).cell? a = some (.int .i32 1) := World.cell?_setCell_same w a _ hc
  have hcv := run_convert_to_unsafe (P := Tryz.prog) (src := 223) (dst := 219) Tryz.underlying223 Tryz.underlying219 (by kernel_rfl) hc'
  go_enter Tryz.func174, Tryz.ntmps174
  go_wp2
  first | go_end0 | (simp only [Exit.inBlock, Exit.then]; refine bodyPost_ret (results_none rfl _ _ _) rfl ?_) | refine bodyPost_ret (results_none rfl _ _ _) rfl ?_
  go_wp2
  go_end0
  exact ⟨rfl, rfl⟩

set_option maxRecDepth 100000 in
set_option maxHeartbeats 1600000 in
/-- What the chip hands to sync.Once. -/
theorem fill_any (b : Nat) (pl : Addr) (x : Value) (w : World) (hp : w.cell? pl = some (.pointer (some ⟨b, 0, none⟩))) (h14 : w.cell? ⟨b, 14, none⟩ = some x) (f14 : w.frozen? ⟨b, 14, none⟩ = false) :
    Calls Tryz.prog 162 #[.pointer (some pl)] w fun e w' => e = .returned (.tuple #[]) ∧ ∃ v, Below w.heap.size w v ∧ w' = v.setCell ⟨b, 14, none⟩ (.string sfdpT) := by
  have l1 := cell_lt hp
  have l2 : b < w.heap.size := cell_lt h14
  have HP : Hid (∀ u : World, Below w.heap.size w u → u.cell? pl = some (.pointer (some ⟨b, 0, none⟩)) ∧ u.cell? ⟨b, 14, none⟩ = some x ∧ u.frozen? ⟨b, 14, none⟩ = false) := fun u k =>
    ⟨by rw [k.cell l1]; exact hp, by rw [k.cell (show (⟨b, 14, none⟩ : Addr).block < _ from l2)]; exact h14, by rw [k.frozen (show (⟨b, 14, none⟩ : Addr).block < _ from l2)]; exact f14⟩
  obtain ⟨T, HT⟩ : ∃ T : ByteArray, Hid (T = sfdpT) := ⟨_, rfl⟩
  have HPut : Hid (∀ u : World, Calls Tryz.prog 163 #[.int .i64 4096, .int .i64 512, .int .i64 32] u fun e w' => e = .returned (.tuple #[.string T, .int .i64 0]) ∧ Below u.heap.size u w') := fun u => by rw [HT.out]; exact put_any u
  rw [← HT.out]
  go_enter Tryz.func162, Tryz.ntmps162
  go_region_with (go_at_call 163; refine (HPut.out _).mono ?_; rintro e w1 ⟨rfl, b1⟩; obtain ⟨q1, q2, q3⟩ := HP.out w1 (by first | exact below_then (Below.refl _ _).drew b1 | exact below_then ((Below.refl _ _).drew) b1))
  all_goals (go_end0; exact ⟨rfl, w1, below_then (Below.refl _ _).drew b1, rfl⟩)

set_option maxRecDepth 100000 in
set_option maxHeartbeats 1600000 in
theorem slow_any (b : Nat) (pl : Addr) (hpb : pl.block ≠ b) (x : Value) (L : List Value) (w : World) (hp : w.cell? pl = some (.pointer (some ⟨b, 0, none⟩))) (h : Blk w b 130 L)
    (h11 : L[11]? = some (.int .u32 0)) (h12 : L[12]? = some (.int .i32 0)) (h14 : L[14]? = some x) :
    Calls Tryz.prog 161 #[.pointer (some ⟨b, 11, none⟩), .func (.func 162) #[] #[.pointer (some pl)]] w fun e w' => e = .returned (.tuple #[]) ∧
      Blk w' b 130 ((((L.set 12 (.int .i32 1)).set 14 (.string sfdpT)).set 11 (.int .u32 1)).set 12 (.int .i32 0)) ∧ Only b w w' := by
  have c11 := h.cell 11 h11
  have c12 := h.cell 12 h12
  have f12 := h.frozen 12
  have h1 := h.set 12 (.int .i32 1)
  have o1 := (Only.refl b w).set 12 (.int .i32 1)
  have e11 : (L.set 12 (.int .i32 1))[11]? = some (.int .u32 0) := by rw [List.getElem?_set_ne (by decide)]; exact h11
  have e14 : (L.set 12 (.int .i32 1))[14]? = some x := by rw [List.getElem?_set_ne (by decide)]; exact h14
  have hl12 : 12 < L.length := (List.getElem?_eq_some_iff.1 h12).1
  have hp1 : (w.setCell ⟨b, 12, none⟩ (.int .i32 1)).cell? pl = some (.pointer (some ⟨b, 0, none⟩)) := (World.cell?_setCell_other _ ⟨b, 12, none⟩ pl _ (fun h => hpb (by rw [← h]))).trans hp
  have hl := run_call_load (P := Tryz.prog) Tryz.func173 (by kernel_rfl) (by kernel_rfl) (by kernel_rfl) .u32 (by kernel_rfl) (w := w.setCell ⟨b, 12, none⟩ (.int .i32 1)) (a := ⟨b, 11, none⟩) (x := 0) (h1.cell 11 e11)
  have hnot : ∀ (x : Bool) (w : World), (Op.unary .not (.bool x)).run Tryz.prog w = .ok (.bool (!x)) w := fun _ _ => rfl
  have H1 : Hid (Blk (w.setCell ⟨b, 12, none⟩ (.int .i32 1)) b 130 (L.set 12 (.int .i32 1))) := h1
  have H1p : Hid ((w.setCell ⟨b, 12, none⟩ (.int .i32 1)).cell? pl = some (.pointer (some ⟨b, 0, none⟩))) := hp1
  go_enter_defers Tryz.func161, Tryz.ntmps161
  go_wp2_with (first | (go_at_call 174; refine (lock_now ⟨b, 12, none⟩ _ c12 f12).mono ?_; rintro e w' ⟨rfl, rfl⟩) | (go_at_call 160; go_in) | (go_at_call 162; refine (fill_any b pl x _ H1p.out (H1.out.cell 14 e14) (H1.out.frozen 14)).mono ?_; rintro e w2 ⟨rfl, v, bv, rfl⟩))
  have h2 : Blk (v.setCell ⟨b, 14, none⟩ (.string sfdpT)) b 130 ((L.set 12 (.int .i32 1)).set 14 (.string sfdpT)) := (Blk.below H1.out bv).set 14 _
  have o2 : Only b w (v.setCell ⟨b, 14, none⟩ (.string sfdpT)) := (o1.below bv).set 14 _
  have g11 : (((L.set 12 (.int .i32 1)).set 14 (.string sfdpT)))[11]? = some (.int .u32 0) := by rw [List.getElem?_set_ne (by decide)]; exact e11
  have g12 : (((L.set 12 (.int .i32 1)).set 14 (.string sfdpT)).set 11 (.int .u32 1))[12]? = some (.int .i32 1) := by rw [List.getElem?_set_ne (by decide), List.getElem?_set_ne (by decide), List.getElem?_set_self hl12]
  generalize (v.setCell ⟨b, 14, none⟩ (.string sfdpT)) = W2 at h2 o2 ⊢
  refine leaves_cons (f := 176) (args := #[.pointer (some ⟨b, 11, none⟩), .bool true]) (by simp) (by simp [go_sem]) ?_
  refine (store_later ⟨b, 11, none⟩ (.int .u32 0) .returning _ (h2.cell 11 g11) (h2.frozen 11)).mono ?_
  rintro e u' w'' ⟨rfl, rfl, rfl⟩
  have h3 := (h2.set 11 (.int .u32 1)).drew
  have o3 := (o2.set 11 (.int .u32 1)).drew
  refine leaves_cons (f := 175) (args := #[.pointer (some ⟨b, 12, none⟩)]) (by simp [settle]) (by simp [go_sem]) ?_
  refine (unlock_later ⟨b, 12, none⟩ _ _ (h3.cell 12 g12) (h3.frozen 12)).mono ?_
  rintro e u' w'' ⟨rfl, rfl, rfl⟩
  have h4 := h3.set 12 (.int .i32 0)
  have o4 := o3.set 12 (.int .i32 0)
  simp [Leaves, settle, results, Tryz.results161]
  exact ⟨h4, o4⟩

set_option maxRecDepth 100000 in
set_option maxHeartbeats 1600000 in
theorem do_first (b : Nat) (pl : Addr) (hpb : pl.block ≠ b) (x : Value) (L : List Value) (w : World) (hp : w.cell? pl = some (.pointer (some ⟨b, 0, none⟩))) (h : Blk w b 130 L)
    (h11 : L[11]? = some (.int .u32 0)) (h12 : L[12]? = some (.int .i32 0)) (h14 : L[14]? = some x) :
    Calls Tryz.prog 147 #[.pointer (some ⟨b, 11, none⟩), .func (.func 162) #[] #[.pointer (some pl)]] w fun e w' => e = .returned (.tuple #[]) ∧
      Blk w' b 130 ((((L.set 12 (.int .i32 1)).set 14 (.string sfdpT)).set 11 (.int .u32 1)).set 12 (.int .i32 0)) ∧ Only b w w' := by
  have hl := run_call_load (P := Tryz.prog) Tryz.func173 (by kernel_rfl) (by kernel_rfl) (by kernel_rfl) .u32 (by kernel_rfl) (h.cell 11 h11)
  have hnot : ∀ (x : Bool) (w : World), (Op.unary .not (.bool x)).run Tryz.prog w = .ok (.bool (!x)) w := fun _ _ => rfl
  have HH : Hid (Blk w b 130 L) := h
  go_enter Tryz.func147, Tryz.ntmps147
  go_wp2_with (first | (go_at_call 161; refine (slow_any b pl hpb x L _ hp HH.out h11 h12 h14).mono ?_; rintro e w' ⟨rfl, h1, o1⟩) | (go_at_call 160; go_in))
  go_end0
  exact ⟨rfl, h1, o1⟩
theorem do_done (a : Addr) (fv : Value) (w : World) (h0 : w.cell? a = some (.int .u32 1)) :
    Calls Tryz.prog 147 #[.pointer (some a), fv] w fun e w' => e = .returned (.tuple #[]) ∧ w' = w := by
  have hl := run_call_load (P := Tryz.prog) Tryz.func173 (by kernel_rfl) (by kernel_rfl) (by kernel_rfl) .u32 (by kernel_rfl) h0
  have hnot : ∀ (x : Bool) (w : World), (Op.unary .not (.bool x)).run Tryz.prog w = .ok (.bool (!x)) w := fun _ _ => rfl
  go_enter Tryz.func147, Tryz.ntmps147
  go_wp2
  go_end0
  exact ⟨rfl, rfl⟩

/-- The chip behind its likeness was made. -/
def St.like (s : St) : St := { s with made := true }

set_option maxRecDepth 100000 in
set_option maxHeartbeats 1600000 in
theorem like_any (b : Nat) (s : St) (ds : Value) (w : World) (h : At w b s ds) :
    Calls Tryz.prog 151 #[.pointer (some ⟨b, 0, none⟩)] w fun e w' => e = .returned (.string sfdpT) ∧ At w' b s.like ds ∧ Only b w w' := by
  have hmf : ∀ (fn : Fn) (first cap : Array Value) (w : World), (Instr.makeFunc fn first cap).run Tryz.prog w = .ok (.func fn first cap) w := fun _ _ _ _ => rfl
  have hlt := Blk.lt h
  have hne : w.heap.size ≠ b := by omega
  have h0 : At (w.alloc (.cells #[.pointer (some ⟨b, 0, none⟩)] 24)) b s ds := Blk.alloc h _
  have p0 : (w.alloc (.cells #[.pointer (some ⟨b, 0, none⟩)] 24)).cell? ⟨w.heap.size, 0, none⟩ = some (.pointer (some ⟨b, 0, none⟩)) := by simp
  have l0 : w.heap.size < (w.alloc (.cells #[.pointer (some ⟨b, 0, none⟩)] 24)).heap.size := by simp
  have o0 : Only b w (w.alloc (.cells #[.pointer (some ⟨b, 0, none⟩)] 24)) := (Only.refl b w).alloc _
  obtain ⟨T, HT⟩ : ∃ T : ByteArray, Hid (T = sfdpT) := ⟨_, rfl⟩
  cases hm : s.made with
  | false =>
    have H0 : Hid (At (w.alloc (.cells #[.pointer (some ⟨b, 0, none⟩)] 24)) b s ds) := h0
    have h11 : (chipCells s ds)[11]? = some (.int .u32 0) := by show some (Value.int .u32 (oneIf s.made)) = _; rw [hm]; rfl
    have hE : (((((chipCells s ds).set 12 (.int .i32 1)).set 14 (.string sfdpT)).set 11 (.int .u32 1)).set 12 (.int .i32 0)) = chipCells s.like ds := rfl
    rw [← HT.out]
    go_enter Tryz.func151, Tryz.ntmps151
    go_wp2_with (go_at_call 147; refine (do_first b ⟨w.heap.size, 0, none⟩ hne (.string (likeT s.made)) (chipCells s ds) _ p0 H0.out h11 rfl rfl).mono ?_; rintro e w' ⟨rfl, h1, o1⟩; rw [hE] at h1; (have p1 : w'.cell? ⟨w.heap.size, 0, none⟩ = some (.pointer (some ⟨b, 0, none⟩)) := (by rw [o1.cell l0 hne]; exact p0)); (have c14 : w'.cell? ⟨b, 14, none⟩ = some (.string T) := (by rw [HT.out]; exact Blk.cell h1 14 rfl)))
    go_ret
    exact ⟨rfl, h1, o0.trans o1⟩
  | true =>
    have e1 : s.like = s := by unfold St.like; cases s; cases hm; rfl
    have c11 : (w.alloc (.cells #[.pointer (some ⟨b, 0, none⟩)] 24)).cell? ⟨b, 11, none⟩ = some (.int .u32 1) := Blk.cell h0 11 (by show some (Value.int .u32 (oneIf s.made)) = _; rw [hm]; rfl)
    have c14 : (w.alloc (.cells #[.pointer (some ⟨b, 0, none⟩)] 24)).cell? ⟨b, 14, none⟩ = some (.string T) := Blk.cell h0 14 (by show some (Value.string (likeT s.made)) = _; rw [hm, HT.out]; rfl)
    rw [e1, ← HT.out]
    have H0 : Hid (At (w.alloc (.cells #[.pointer (some ⟨b, 0, none⟩)] 24)) b s ds) := h0
    go_enter Tryz.func151, Tryz.ntmps151
    go_wp2_with (go_at_call 147; refine (do_done ⟨b, 11, none⟩ _ _ c11).mono ?_; rintro e w' ⟨rfl, rfl⟩)
    go_ret
    exact ⟨rfl, H0.out, o0⟩
end Go.Proofs.YtjhjghakfedeeaaGreat
