/-
  The controller as it lies in memory beside its chip, and its small calls by contracts. Conditions: it lies in memory as told.
-/
import Derived.Test.YtjhjghakfedeeaaGreatSolo
import Derived.Test.YtjhjghakfedeeaaGreatFif
import Derived.Test.YtjhjghakfedeeaaGreatLens
import Derived.Test.YtjhjghakfedeeaaGreatRLayout
namespace Go.Proofs.YtjhjghakfedeeaaGreat
open Go.RowKit Plain
set_option linter.unusedVariables false

/-- What ends a read that goes on. -/
def lastP : List Ph := [(4, [0, 0, 0], 0, 0), (4, [0], 0, 0)]
/-- A controller: its chip, its registers, its queues, whether a read goes on, whether its last row was made, its clocks, its bound, whether the power went. -/
structure K where
  s : St
  r0 : Int
  r1 : Int
  r2 : Int
  tx : List Int
  rx : List Int
  goes : Bool
  made : Bool
  clocks : Nat
  bounded : Bool
  left : Int
  lost : Bool
def K.most (k : K) : Int := if k.bounded = true then k.left else -1
def headC (bp : Nat) (k : K) : List Value := [.pointer (some ⟨bp, 0, none⟩), .int .i64 k.r0, .int .i64 k.r1, .int .i64 k.r2]
def tailC (k : K) (lv : Value) : List Value := [.bool k.goes, .int .u32 (oneIf k.made), .int .i32 0, .int .u32 0, lv, .int .i64 (k.clocks : Int), .bool k.bounded, .int .i64 k.left, .bool k.lost]
def ctlC (bp : Nat) (k : K) (R1 : List Int) (f1 : Nat) (R2 : List Int) (f2 : Nat) (lv : Value) : List Value := headC bp k ++ (ringCells R1 f1 k.tx.length ++ (ringCells R2 f2 k.rx.length ++ tailC k lv))
/-- How a controller lies in block kb. -/
structure KLay (w : World) (kb bp : Nat) (k : K) (R1 : List Int) (f1 : Nat) (R2 : List Int) (f2 : Nat) (lv : Value) : Prop where
  blk : Blk w kb 143 (ctlC bp k R1 f1 R2 f2 lv)
  h1 : Holds R1 f1 k.tx
  h2 : Holds R2 f2 k.rx

variable {w : World} {kb bp f1 f2 : Nat} {k : K} {R1 R2 : List Int} {lv : Value}
theorem ctlC_tail (h1 : R1.length = 16) (h2 : R2.length = 16) (j : Nat) : (ctlC bp k R1 f1 R2 f2 lv)[40 + j]? = (tailC k lv)[j]? := by
  have e1 : (headC bp k).length = 4 := rfl
  have e2 := ringCells_len (f := f1) (c := k.tx.length) h1
  have e3 := ringCells_len (f := f2) (c := k.rx.length) h2
  unfold ctlC
  rw [List.getElem?_append_right (by omega), List.getElem?_append_right (by omega), List.getElem?_append_right (by omega), e1, e2, e3]
  congr 1; omega
theorem ctlC_head (j : Nat) (hj : j < 4) : (ctlC bp k R1 f1 R2 f2 lv)[j]? = (headC bp k)[j]? := by
  unfold ctlC
  rw [List.getElem?_append_left (by show j < 4; exact hj)]
theorem ctlC_setTail (h1 : R1.length = 16) (h2 : R2.length = 16) (j : Nat) (v : Value) : (ctlC bp k R1 f1 R2 f2 lv).set (40 + j) v = headC bp k ++ (ringCells R1 f1 k.tx.length ++ (ringCells R2 f2 k.rx.length ++ (tailC k lv).set j v)) := by
  have e1 : (headC bp k).length = 4 := rfl
  have e2 := ringCells_len (f := f1) (c := k.tx.length) h1
  have e3 := ringCells_len (f := f2) (c := k.rx.length) h2
  unfold ctlC
  rw [List.set_append_right _ _ (by omega), List.set_append_right _ _ (by omega), List.set_append_right _ _ (by omega), e1, e2, e3, show 40 + j - 4 - 18 - 18 = j by omega]
theorem ctlC_setHead (j : Nat) (hj : j < 4) (v : Value) : (ctlC bp k R1 f1 R2 f2 lv).set j v = (headC bp k).set j v ++ (ringCells R1 f1 k.tx.length ++ (ringCells R2 f2 k.rx.length ++ tailC k lv)) := by
  unfold ctlC
  rw [List.set_append_left _ _ (by show j < 4; exact hj)]
theorem KLay.tail (h : KLay w kb bp k R1 f1 R2 f2 lv) (j : Nat) {v : Value} (e : (tailC k lv)[j]? = some v) : w.cell? ⟨kb, 40 + j, none⟩ = some v := h.blk.cell (40 + j) ((ctlC_tail h.h1.ring h.h2.ring j).trans e)
theorem KLay.head (h : KLay w kb bp k R1 f1 R2 f2 lv) (j : Nat) (hj : j < 4) {v : Value} (e : (headC bp k)[j]? = some v) : w.cell? ⟨kb, j, none⟩ = some v := h.blk.cell j ((ctlC_head j hj).trans e)
theorem KLay.frozen (h : KLay w kb bp k R1 f1 R2 f2 lv) (j : Nat) : w.frozen? ⟨kb, j, none⟩ = false := h.blk.frozen j
theorem KLay.setTail (h : KLay w kb bp k R1 f1 R2 f2 lv) (j : Nat) (v : Value) (k' : K) (lv' : Value) (e : (tailC k lv).set j v = tailC k' lv') (e0 : headC bp k = headC bp k') (e1 : k.tx = k'.tx) (e2 : k.rx = k'.rx) : KLay (w.setCell ⟨kb, 40 + j, none⟩ v) kb bp k' R1 f1 R2 f2 lv' := by
  refine ⟨?_, e1 ▸ h.h1, e2 ▸ h.h2⟩
  have := h.blk.set (40 + j) v
  rw [ctlC_setTail h.h1.ring h.h2.ring, e, e0, e1, e2] at this
  exact this
theorem KLay.setHead (h : KLay w kb bp k R1 f1 R2 f2 lv) (j : Nat) (hj : j < 4) (v : Value) (k' : K) (e : (headC bp k).set j v = headC bp k') (e0 : tailC k lv = tailC k' lv) (e1 : k.tx = k'.tx) (e2 : k.rx = k'.rx) : KLay (w.setCell ⟨kb, j, none⟩ v) kb bp k' R1 f1 R2 f2 lv := by
  refine ⟨?_, e1 ▸ h.h1, e2 ▸ h.h2⟩
  have := h.blk.set j v
  rw [ctlC_setHead j hj, e, e0, e1, e2] at this
  exact this
theorem KLay.lt (h : KLay w kb bp k R1 f1 R2 f2 lv) : kb < w.heap.size := h.blk.lt
theorem KLay.same {w' : World} (h : KLay w kb bp k R1 f1 R2 f2 lv) (e : w'.heap[kb]? = w.heap[kb]?) : KLay w' kb bp k R1 f1 R2 f2 lv := by
  refine ⟨?_, h.h1, h.h2⟩
  have := h.blk
  unfold Blk at this ⊢
  rw [e]; exact this
theorem KLay.below {w' : World} (h : KLay w kb bp k R1 f1 R2 f2 lv) (b : Below w.heap.size w w') : KLay w' kb bp k R1 f1 R2 f2 lv := h.same (b.block kb h.lt)
theorem KLay.withS (h : KLay w kb bp k R1 f1 R2 f2 lv) (s : St) : KLay w kb bp { k with s := s } R1 f1 R2 f2 lv := ⟨h.blk, h.h1, h.h2⟩
theorem KLay.ring1 (h : KLay w kb bp k R1 f1 R2 f2 lv) : RingAt w kb 143 4 (headC bp k) (ringCells R2 f2 k.rx.length ++ tailC k lv) R1 f1 k.tx.length := ⟨h.h1.ring, rfl, h.blk⟩
theorem KLay.ring2 (h : KLay w kb bp k R1 f1 R2 f2 lv) : RingAt w kb 143 22 (headC bp k ++ ringCells R1 f1 k.tx.length) (tailC k lv) R2 f2 k.rx.length := ⟨h.h2.ring, by rw [List.length_append, ringCells_len h.h1.ring]; rfl, by have := h.blk; unfold ctlC at this; rw [List.append_assoc]; exact this⟩

/-- What a row of phases leaves of a controller. -/
def K.drv (k : K) (ps : List Ph) : K := { k with s := drvS k.s ps k.most, clocks := k.clocks + endN ps k.most, left := if k.bounded = true then k.left - (endN ps k.most : Nat) else k.left, lost := !whB ps k.most }
def K.drvV (k : K) (ps : List Ph) : List Int := if whB ps k.most = true then drvL k.s ps k.most else []
def K.drvE (k : K) (ps : List Ph) : Int := if whB ps k.most = true then 0 else 1101

theorem most_any (h : KLay w kb bp k R1 f1 R2 f2 lv) :
    Calls Tryz.prog 119 #[.pointer (some ⟨kb, 45, none⟩)] w fun e w' => e = .returned (.int .i64 k.most) ∧ w = w' := by
  have c46 : w.cell? ⟨kb, 46, none⟩ = some (.bool k.bounded) := h.tail 6 rfl
  have c47 : w.cell? ⟨kb, 47, none⟩ = some (.int .i64 k.left) := h.tail 7 rfl
  unfold K.most
  cases hb : k.bounded
  · rw [hb] at c46
    go_enter Tryz.func119, Tryz.ntmps119
    go_wp2
    go_ret
    exact ⟨rfl, rfl⟩
  · rw [hb] at c46
    go_enter Tryz.func119, Tryz.ntmps119
    go_wp2
    go_ret
    exact ⟨rfl, rfl⟩
theorem most_q (h : KLay w kb bp k R1 f1 R2 f2 lv) :
    Calls Tryz.prog 119 #[.pointer (some ⟨kb, 45, none⟩)] w fun e w' => e = .returned (.int .i64 k.most) ∧ w' = w := (most_any h).mono fun _ _ ⟨h1, h2⟩ => ⟨h1, h2.symm⟩

def K.counted (k : K) (n : Nat) : K := { k with clocks := k.clocks + n, left := if k.bounded = true then k.left - (n : Int) else k.left }
theorem count_any (h : KLay w kb bp k R1 f1 R2 f2 lv) (n : Nat) (h1 : k.clocks ≤ 2000000000000000) (h2 : n ≤ 1000000000000) (h3 : k.bounded = true → (n : Int) ≤ k.left ∧ k.left ≤ 9223372036854775807) :
    Calls Tryz.prog 120 #[.pointer (some ⟨kb, 45, none⟩), .int .i64 (n : Int)] w fun e w' => e = .returned (.tuple #[]) ∧ KLay w' kb bp (k.counted n) R1 f1 R2 f2 lv ∧ Only kb w w' := by
  have c45 : w.cell? ⟨kb, 45, none⟩ = some (.int .i64 (k.clocks : Int)) := h.tail 5 rfl
  have f45 := h.frozen 45
  have w1 : wrap64 ((k.clocks : Int) + (n : Int)) = (k.clocks : Int) + (n : Int) := IntWalk.wrap64_in _ (by omega)
  have g1 : KLay (w.setCell ⟨kb, 45, none⟩ (.int .i64 ((k.clocks : Int) + (n : Int)))) kb bp { k with clocks := k.clocks + n } R1 f1 R2 f2 lv := h.setTail 5 _ _ _ (by rw [← Int.natCast_add]; rfl) rfl rfl rfl
  have c46 : (w.setCell ⟨kb, 45, none⟩ (.int .i64 ((k.clocks : Int) + (n : Int)))).cell? ⟨kb, 46, none⟩ = some (.bool k.bounded) := g1.tail 6 rfl
  have c47 : (w.setCell ⟨kb, 45, none⟩ (.int .i64 ((k.clocks : Int) + (n : Int)))).cell? ⟨kb, 47, none⟩ = some (.int .i64 k.left) := g1.tail 7 rfl
  have f47 := g1.frozen 47
  have o1 : Only kb w (w.setCell ⟨kb, 45, none⟩ (.int .i64 ((k.clocks : Int) + (n : Int)))) := (Only.refl kb w).set 45 _
  unfold K.counted
  cases hb : k.bounded
  · rw [hb] at c46
    have G : Hid (KLay (w.setCell ⟨kb, 45, none⟩ (.int .i64 ((k.clocks : Int) + (n : Int)))) kb bp { k with clocks := k.clocks + n } R1 f1 R2 f2 lv) := g1
    have O : Hid (Only kb w (w.setCell ⟨kb, 45, none⟩ (.int .i64 ((k.clocks : Int) + (n : Int))))) := o1
    clear g1 o1 h h3
    go_enter Tryz.func120, Tryz.ntmps120
    go_wp2
    go_end0
    exact ⟨rfl, by have := G.out; rw [hb] at this; exact this, O.out⟩
  · rw [hb] at c46
    obtain ⟨h4, h5⟩ := h3 hb
    have w2 : wrap64 (k.left - (n : Int)) = k.left - (n : Int) := IntWalk.wrap64_in _ (by omega)
    have G : Hid (KLay ((w.setCell ⟨kb, 45, none⟩ (.int .i64 ((k.clocks : Int) + (n : Int)))).setCell ⟨kb, 47, none⟩ (.int .i64 (k.left - (n : Int)))) kb bp { k with clocks := k.clocks + n, left := k.left - (n : Int) } R1 f1 R2 f2 lv) := g1.setTail 7 _ _ _ rfl rfl rfl rfl
    have O : Hid (Only kb w ((w.setCell ⟨kb, 45, none⟩ (.int .i64 ((k.clocks : Int) + (n : Int)))).setCell ⟨kb, 47, none⟩ (.int .i64 (k.left - (n : Int))))) := o1.set 47 _
    clear g1 o1 h h3 h4 h5
    go_enter Tryz.func120, Tryz.ntmps120
    go_wp2
    go_end0
    exact ⟨rfl, by have := G.out; rw [hb] at this; exact this, O.out⟩
end Go.Proofs.YtjhjghakfedeeaaGreat
