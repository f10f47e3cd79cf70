/-
  How a chip lies in memory: a block of 69 cells, field by field, and the durations in a row of their own; what a store and a call elsewhere leave of it. No conditions but those of each statement.
-/
import Derived.Test.YthhchfldgkgfpaaMachine
import Derived.Deep.MidRow
import Derived.Deep.WholeRow
namespace Go.Proofs.Ythhchfldgkgfpaa
open Go.RowKit Plain
set_option linter.unusedVariables false

/-- The 32 bytes of data. -/
def dataCells (d : Nat → UInt8) : List Value := (List.range 32).map fun i => .int .u8 ((d i).toNat : Int)
def opCells (o : Op) : List Value := [.int .i64 (o.byte : Int), .int .i64 (o.addr : Int), .bool o.mode, .int .i64 (o.dummy : Int), .int .i64 (o.data : Int), .bool o.inn]
def cmdCells (k : Cmd) : List Value :=
  [.int .i64 (k.op.byte : Int), .int .i64 (k.op.addr : Int), .bool k.op.mode, .int .i64 (k.op.dummy : Int), .int .i64 (k.op.data : Int), .bool k.op.inn,
   .int .i64 (k.part : Int), .int .i64 (k.clocks : Int), .int .i64 (k.bits : Int), .int .i64 (k.adr : Int), .int .i64 (k.mode : Int), .int .i64 (k.count : Int)] ++ (dataCells k.data ++ [.int .i64 (k.said : Int)])
def likeT (b : Bool) : ByteArray := if b then sfdpT else ⟨#[]⟩
def oneIf (b : Bool) : Int := if b then 1 else 0
def workCells (s : St) : List Value := [.int .i64 (s.left : Int), .bool s.erases, .int .i64 (s.wat : Int), .string s.wdata]
def powCells (s : St) (ds : Value) : List Value :=
  [.bool s.sel, .bool s.en, .bool s.sus, .bool s.goes, ds, .int .i64 (s.left : Int), .bool s.erases, .int .i64 (s.wat : Int), .string s.wdata] ++ cmdCells s.k
def chipCells (s : St) (ds : Value) : List Value :=
  [.string s.A, .bool s.prot, .bool s.quad, .int .i64 (s.wipes 0), .int .i64 (s.wipes 1), .int .i64 (s.wipes 2), .int .i64 (s.wipes 3), .int .i64 (s.wipes 4), .int .i64 (s.wipes 5), .int .i64 (s.wipes 6), .int .i64 (s.wipes 7),
   .int .u32 (oneIf s.made), .int .i32 0, .int .u32 0, .string (likeT s.made)] ++ powCells s ds

/-- Block b holds the cells L, of an object of type T. -/
def Blk (w : World) (b : Nat) (T : TypeId) (L : List Value) : Prop := w.heap[b]? = some (.cells L.toArray T (0, 0))
/-- The chip s lies in block b; its durations' slice is ds. -/
def At (w : World) (b : Nat) (s : St) (ds : Value) : Prop := Blk w b 77 (chipCells s ds)

theorem Blk.lt {w : World} {b : Nat} {T : TypeId} {L : List Value} (h : Blk w b T L) : b < w.heap.size := by
  rcases Nat.lt_or_ge b w.heap.size with hlt | hge
  · exact hlt
  · unfold Blk at h; rw [Array.getElem?_eq_none hge] at h; cases h
theorem Blk.cell {w : World} {b : Nat} {T : TypeId} {L : List Value} (h : Blk w b T L) (i : Nat) {v : Value} (e : L[i]? = some v) : w.cell? ⟨b, i, none⟩ = some v := by
  unfold Blk at h
  unfold World.cell?
  simp [h, e]
theorem Blk.frozen {w : World} {b : Nat} {T : TypeId} {L : List Value} (h : Blk w b T L) (i : Nat) : w.frozen? ⟨b, i, none⟩ = false := by
  unfold Blk at h
  unfold World.frozen?
  simp [h]
theorem Blk.range {w : World} {b : Nat} {T : TypeId} {L : List Value} (h : Blk w b T L) (o : Nat) (cs : List Value) (e : (L.drop o).take cs.length = cs) : w.rangeAt b o cs := fun j v hv => by
  refine h.cell (o + j) ?_
  rw [← e, List.getElem?_take] at hv
  split at hv
  · rw [List.getElem?_drop] at hv; exact hv
  · cases hv
theorem Blk.there {w : World} {b : Nat} {T : TypeId} {L : List Value} (h : Blk w b T L) (o n : Nat) (hn : o + n ≤ L.length) : w.there b o n := fun j hj =>
  ⟨by rw [h.cell (o + j) (List.getElem?_eq_getElem (by omega))]; rfl, h.frozen _⟩
theorem Blk.set {w : World} {b : Nat} {T : TypeId} {L : List Value} (h : Blk w b T L) (i : Nat) (v : Value) : Blk (w.setCell ⟨b, i, none⟩ v) b T (L.set i v) := by
  have hl := h.lt
  unfold Blk at h ⊢
  unfold World.setCell
  simp [Array.getElem?_modify, h]
theorem Blk.sets {w : World} {b : Nat} {T : TypeId} {L : List Value} (h : Blk w b T L) (o : Nat) (vs : List Value) (hn : o + vs.length ≤ L.length) : Blk (w.setCells b o vs) b T (L.take o ++ vs ++ L.drop (o + vs.length)) := by
  induction vs generalizing w L o with
  | nil => simpa [World.setCells] using h
  | cons v r ih =>
    have h1 := ih (h.set o v) (o + 1) (by simp at hn ⊢; omega)
    have e : (L.set o v).take (o + 1) ++ r ++ (L.set o v).drop (o + 1 + r.length) = L.take o ++ v :: r ++ L.drop (o + (v :: r).length) := by
      have ho : o < L.length := by simp at hn; omega
      rw [List.take_set, List.drop_set_of_lt (by omega), show (L.take (o + 1)).set o v = L.take o ++ [v] from ?_]
      · simp [Nat.add_assoc, Nat.add_comm 1]
      · rw [← List.take_append_getElem ho, List.set_append_right _ _ (by simp; omega), List.length_take, Nat.min_eq_left (Nat.le_of_lt ho), Nat.sub_self]
        rfl
    rw [e] at h1
    exact h1
theorem Blk.other {w : World} {b : Nat} {T : TypeId} {L : List Value} (h : Blk w b T L) (c i : Nat) (v : Value) (hc : c ≠ b) : Blk (w.setCell ⟨c, i, none⟩ v) b T L := by
  unfold Blk at h ⊢
  rw [Below.heap_setCell _ _ _ _ (by exact Ne.symm hc)]
  exact h
theorem Blk.below {w w' : World} {b : Nat} {T : TypeId} {L : List Value} (h : Blk w b T L) (hb : Below w.heap.size w w') : Blk w' b T L := by
  have hl := h.lt
  unfold Blk at h ⊢
  rw [hb.block b hl]
  exact h
theorem Blk.alloc {w : World} {b : Nat} {T : TypeId} {L : List Value} (h : Blk w b T L) (o : Obj) : Blk (w.alloc o) b T L := h.below ((Below.refl _ _).alloc (Nat.le_refl _) _)
theorem Blk.drew {w : World} {b : Nat} {T : TypeId} {L : List Value} (h : Blk w b T L) : Blk w.drew b T L := h
theorem Blk.new (w : World) (T : TypeId) (L : List Value) (cs : Array Value) (e : cs = L.toArray) : Blk (w.alloc (.cells cs T)) w.heap.size T L := by
  subst e
  unfold Blk
  exact heap_alloc_new _ _

/-- Nothing of the blocks that were there turned, but block b. -/
structure Only (b : Nat) (w w' : World) : Prop where
  os : w'.os = w.os
  tape : w'.tape = w.tape
  output : w'.output = w.output
  size : w.heap.size ≤ w'.heap.size
  block : ∀ k, k < w.heap.size → k ≠ b → w'.heap[k]? = w.heap[k]?
theorem Only.refl (b : Nat) (w : World) : Only b w w := ⟨rfl, rfl, rfl, Nat.le_refl _, fun _ _ _ => rfl⟩
theorem Only.trans {b : Nat} {u v w : World} (h : Only b u v) (k : Only b v w) : Only b u w :=
  ⟨k.os.trans h.os, k.tape.trans h.tape, k.output.trans h.output, Nat.le_trans h.size k.size, fun i hi hb => (k.block i (Nat.lt_of_lt_of_le hi h.size) hb).trans (h.block i hi hb)⟩
theorem Only.of_below {b : Nat} {v w : World} (h : Below v.heap.size v w) : Only b v w := ⟨h.os, h.tape, h.output, h.size, fun i hi _ => h.block i hi⟩
theorem Only.below {b : Nat} {u v w : World} (h : Only b u v) (k : Below v.heap.size v w) : Only b u w := h.trans (Only.of_below k)
theorem Only.set {b : Nat} {u v : World} (h : Only b u v) (i : Nat) (x : Value) : Only b u (v.setCell ⟨b, i, none⟩ x) :=
  ⟨h.os, h.tape, h.output, by simpa using h.size, fun j hj hb => by rw [Below.heap_setCell _ _ _ _ (by exact hb)]; exact h.block j hj hb⟩
theorem Only.sets {b : Nat} {u v : World} (h : Only b u v) (o : Nat) (vs : List Value) : Only b u (v.setCells b o vs) := by
  induction vs generalizing v o with
  | nil => exact h
  | cons x r ih => exact ih (h.set o x) (o + 1)
theorem Only.alloc {b : Nat} {u v : World} (h : Only b u v) (o : Obj) : Only b u (v.alloc o) := h.below ((Below.refl _ _).alloc (Nat.le_refl _) _)
theorem Only.drew {b : Nat} {u v : World} (h : Only b u v) : Only b u v.drew := ⟨h.os, h.tape, h.output, h.size, h.block⟩
theorem Only.drewN {b : Nat} {u v : World} (h : Only b u v) (n : Nat) : Only b u (v.drewN n) := h.below (below_drewN (Below.refl _ _) n)
/-- Where block b is one of the call's own, nothing that was there turned. -/
theorem Only.old {b B : Nat} {u v : World} (h : Only b u v) (hb : B ≤ b) (hB : B ≤ u.heap.size) : Below B u v := ⟨h.os, h.tape, h.output, h.size, fun i hi => h.block i (by omega) (by omega)⟩
theorem Only.blk {b c : Nat} {u v : World} {T : TypeId} {L : List Value} (h : Only b u v) (k : Blk u c T L) (hc : c ≠ b) : Blk v c T L := by
  have hl := k.lt
  unfold Blk at k ⊢
  rw [h.block c hl hc]
  exact k
theorem Only.cell {b : Nat} {u v : World} (h : Only b u v) {p : Addr} (hp : p.block < u.heap.size) (hb : p.block ≠ b) : v.cell? p = u.cell? p := World.cell?_of_block (w := u) (h.block p.block hp hb)

/-- The durations: the slice reads as they are, and lies elsewhere. -/
def Durs (w : World) (b : Nat) (ds : Value) (L : List Int) : Prop := Reads w ds L ∧ (∀ g o n c, ds = .slice (some ⟨g, o, none⟩) n c → 0 < L.length → g ≠ b) ∧ ∀ a n c, ds = .slice a n c → n ≤ c
theorem Durs.only {b : Nat} {u v : World} {ds : Value} {L : List Int} (h : Durs u b ds L) (k : Only b u v) : Durs v b ds L := by
  refine ⟨?_, h.2⟩
  obtain ⟨a, cap, rfl, hr⟩ := h.1
  refine ⟨a, cap, rfl, fun h0 => ?_⟩
  obtain ⟨g, o, rfl, hc⟩ := hr h0
  refine ⟨g, o, rfl, fun j hj => ?_⟩
  have hg : g ≠ b := h.2.1 g o _ _ rfl h0
  rw [k.cell (cell_lt (hc j hj)) hg]
  exact hc j hj
/-- The chip s lies in block b. -/
def Chip (w : World) (b : Nat) (s : St) : Prop := ∃ ds, At w b s ds ∧ Durs w b ds s.durs
theorem Chip.lt {w : World} {b : Nat} {s : St} (h : Chip w b s) : b < w.heap.size := by
  obtain ⟨ds, h1, _⟩ := h; exact Blk.lt h1
theorem Chip.below {w w' : World} {b : Nat} {s : St} (h : Chip w b s) (hb : Below w.heap.size w w') : Chip w' b s := by
  obtain ⟨ds, h1, h2⟩ := h
  exact ⟨ds, Blk.below h1 hb, h2.only (Only.of_below hb)⟩
theorem Chip.only {w w' : World} {b c : Nat} {s : St} (h : Chip w b s) (hb : Only c w w') (hc : b ≠ c) (hd : ∀ ds, At w b s ds → ∀ g o n k, ds = .slice (some ⟨g, o, none⟩) n k → 0 < s.durs.length → g ≠ c) : Chip w' b s := by
  obtain ⟨ds, h1, h2⟩ := h
  refine ⟨ds, hb.blk h1 hc, ?_, h2.2⟩
  have h3 := hd ds h1
  obtain ⟨a, cap, rfl, hr⟩ := h2.1
  refine ⟨a, cap, rfl, fun h0 => ?_⟩
  obtain ⟨g, o, rfl, hcell⟩ := hr h0
  refine ⟨g, o, rfl, fun j hj => ?_⟩
  rw [hb.cell (cell_lt (hcell j hj)) (h3 g o _ _ rfl h0)]
  exact hcell j hj
end Go.Proofs.Ythhchfldgkgfpaa
