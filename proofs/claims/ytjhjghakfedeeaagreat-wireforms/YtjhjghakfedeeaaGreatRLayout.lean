/-
  The document's own chip as a plain machine: what it holds, and what each of its calls makes of it, in words of numbers, bytes and texts. How the document's chip lies in memory: a block of 31 cells, three rows of their own; which blocks its calls may turn. No conditions but those of each statement.
-/
import Derived.Test.YtjhjghakfedeeaaGreatParts
/-! The document's own chip as a plain machine: what it holds, and what each of its calls makes of it, in words of numbers, bytes and texts. -/
section
namespace Go.Proofs.YtjhjghakfedeeaaGreat
open Go.RowKit Plain

def nsL (L : List Nat) : List Int := L.map fun n : Nat => (n : Int)
theorem nsL_length (L : List Nat) : (nsL L).length = L.length := by simp [nsL]
/-- The document's chip. -/
structure RSt where
  A : ByteArray
  prot : Bool
  quad : Bool
  wiped : List Int
  sel : Bool
  en : Bool
  goes : Bool
  kind : Nat
  wat : Nat
  wdata : ByteArray
  left : Nat
  sus : Bool
  durs : List Int
  op : Op
  taken : Bool
  known : Bool
  bits : Nat
  x : Nat
  part : Nat
  adr : Nat
  mode : Nat
  modes : Bool
  inn : List Nat
  clocks : Nat
  out : Nat
  sent : Nat
/-- A new one. -/
def newR (a : ByteArray) : RSt := ⟨a, false, false, List.replicate 8 0, false, false, false, 0, 0, ⟨#[]⟩, 0, false, [], noOp, false, false, 0, 0, 0, 0, 0, false, [], 0, 0, 0⟩
def RSt.busy (r : RSt) : Bool := decide (r.kind ≠ 0) && !r.sus
def RSt.first (r : RSt) : Nat := bitIf r.busy 1 + bitIf r.en 2 + bitIf r.prot 4
def RSt.second (r : RSt) : Nat := bitIf r.quad 2 + bitIf r.sus 128
def goPart (o : Op) (p : Nat) : Nat := if p < 1 ∧ 0 < o.addr then 1 else if p < 2 ∧ o.mode = true then 2 else if p < 3 ∧ 0 < o.dummy then 3 else 4
def RSt.goOn (r : RSt) (p : Nat) : RSt := { r with bits := 0, x := 0, clocks := 0, part := goPart r.op p }
def RSt.taking (r : RSt) (b : Nat) : Bool :=
  (isOp (b : Int) && (r.quad || (decide (b ≠ 107) && decide (b ≠ 235)))) && (!(r.busy && decide (b ≠ 5) && decide (b ≠ 53) && decide (b ≠ 117)) && !(r.sus && (decide (b = 1) || decide (b = 2) || decide (b = 32))))
def RSt.command (r : RSt) (b : Nat) : RSt := RSt.goOn { r with known := true, op := opOf b, taken := r.taking b } 0
def RSt.fresh (r : RSt) : RSt := { r with sel := true, op := noOp, taken := false, known := false, bits := 0, x := 0, part := 0, modes := false, inn := [], clocks := 0, sent := 0 }
def RSt.select (r : RSt) : RSt := if r.goes then r.fresh.command 235 else r.fresh
def RSt.done (r : RSt) : RSt := { r with A := if r.kind = 2 then prog r.A r.wat r.wdata ⟨#[255]⟩ else erase r.A (r.wat / 512) ⟨#[255]⟩, kind := 0, en := false }
def RSt.countDown (r : RSt) : RSt := if r.busy then (if r.left - 1 = 0 then RSt.done { r with left := r.left - 1 } else { r with left := r.left - 1 }) else r
def RSt.byteOut (r : RSt) : Nat :=
  if r.op.byte = 159 then (ub idT (r.sent % 3)).toNat else if r.op.byte = 5 then r.first else if r.op.byte = 53 then r.second else if r.op.byte = 90 then (ub sfdpT ((r.adr + r.sent) % 32)).toNat else (ub r.A ((r.adr + r.sent) % 4096)).toNat
def RSt.began (r : RSt) : RSt := if r.bits = 0 then { r with out := r.byteOut, sent := r.sent + 1 } else r
def RSt.data (r : RSt) (x : Nat) : RSt × Nat :=
  if r.op.data = 0 then (r, 15)
  else if r.op.inn then (if r.bits + 1 = 8 then { r with inn := r.inn ++ [r.x * 2 + x % 2], bits := 0, x := 0 } else { r with x := r.x * 2 + x % 2, bits := r.bits + 1 }, 15)
  else ({ r.began with bits := if r.bits + r.op.data = 8 then 0 else r.bits + r.op.data }, tellOut (r.began.out / 2 ^ (8 - (r.bits + r.op.data)) % 2 ^ r.op.data) r.op.data)
def RSt.part1 (r : RSt) (x : Nat) : RSt × Nat :=
  if r.part = 1 then (if r.bits + r.op.addr = 24 then RSt.goOn { r with clocks := r.clocks + 1, x := r.x * 2 ^ r.op.addr + x % 2 ^ r.op.addr, bits := r.bits + r.op.addr, adr := (r.x * 2 ^ r.op.addr + x % 2 ^ r.op.addr) % 4096 } 1
    else { r with clocks := r.clocks + 1, x := r.x * 2 ^ r.op.addr + x % 2 ^ r.op.addr, bits := r.bits + r.op.addr }, 15)
  else if r.part = 2 then (if r.bits + r.op.addr = 8 then RSt.goOn { r with clocks := r.clocks + 1, x := r.x * 2 ^ r.op.addr + x % 2 ^ r.op.addr, bits := r.bits + r.op.addr, mode := r.x * 2 ^ r.op.addr + x % 2 ^ r.op.addr, modes := true } 2
    else { r with clocks := r.clocks + 1, x := r.x * 2 ^ r.op.addr + x % 2 ^ r.op.addr, bits := r.bits + r.op.addr }, 15)
  else if r.part = 3 then (if r.clocks + 1 = r.op.dummy then RSt.goOn { r with clocks := r.clocks + 1 } 3 else { r with clocks := r.clocks + 1 }, 15)
  else RSt.data { r with clocks := r.clocks + 1 } x
def RSt.heard (r : RSt) (x : Nat) : RSt × Nat :=
  if r.sel = false then (r, 15)
  else if r.known = false then (if r.bits + 1 = 8 then RSt.command { r with x := r.x * 2 + x % 2, bits := r.bits + 1 } (r.x * 2 + x % 2) else { r with x := r.x * 2 + x % 2, bits := r.bits + 1 }, 15)
  else if r.taken = false then (r, 15)
  else r.part1 x
def RSt.clock (r : RSt) (x : Nat) : RSt × Nat := r.countDown.heard x
/-- A page's bytes behind n of the numbers. -/
def pageAt (a : Nat) (L : List Nat) (n : Nat) : Nat → UInt8 := match n with
  | 0 => fun _ => 255
  | n + 1 => fun j => if j = (a + n) % 32 then UInt8.ofNat (L.getD n 0) else pageAt a L n j
def pageR (a : Nat) (L : List Nat) : ByteArray := tab 32 (pageAt a L L.length)
def RSt.begin (r : RSt) : RSt :=
  if r.en = false then r
  else if r.prot && decide (r.adr < 2048) then { r with en := false }
  else if r.op.byte = 32 then { r with kind := 32, left := (r.durs.headD 8).toNat, durs := r.durs.tail, wat := r.adr, wiped := r.wiped.set (r.adr / 512) (wrap64 (r.wiped.getD (r.adr / 512) 0 + 1)) }
  else { r with kind := r.op.byte, left := (r.durs.headD 8).toNat, durs := r.durs.tail, wat := r.adr / 32 * 32, wdata := pageR r.adr r.inn }
def RSt.alone (r : RSt) : Bool := decide (r.part = 4) && decide (r.clocks = 0)
def RSt.obey (r : RSt) : RSt :=
  if r.op.byte = 6 then { r with en := r.en || r.alone }
  else if r.op.byte = 4 then { r with en := r.en && !r.alone }
  else if r.op.byte = 117 then { r with sus := r.sus || (r.alone && decide (r.kind = 32)) }
  else if r.op.byte = 122 then { r with sus := r.sus && !r.alone }
  else if r.op.byte = 1 then (if r.en = true ∧ r.inn.length = 2 then { r with prot := decide (r.inn.getD 0 0 / 4 % 2 = 1), quad := decide (r.inn.getD 1 0 / 2 % 2 = 1), en := false } else r)
  else if r.op.byte = 2 then (if 0 < r.inn.length then r.begin else r)
  else if r.op.byte = 32 then (if r.alone then r.begin else r)
  else r
def RSt.off (r : RSt) : RSt := { r with sel := false }
def RSt.deselect (r : RSt) : RSt :=
  if r.taken = false then r.off
  else if r.op.byte = 235 then { r.off with goes := r.modes && decide (r.mode = 160) }
  else if r.op.inn = true ∧ (r.part ≠ 4 ∨ r.bits ≠ 0) then r.off
  else r.off.obey
def RSt.next (r : RSt) (L : List Int) : RSt := { r with durs := L }
def RSt.cut (r : RSt) (m : ByteArray) : ByteArray := if r.kind = 2 then prog r.A r.wat r.wdata m else if r.kind = 32 then erase r.A (r.wat / 512) m else r.A
def RSt.loss (r : RSt) (m : ByteArray) : RSt := { newR (r.cut m) with prot := r.prot, quad := r.quad, wiped := r.wiped }

/-- The document's chip, as it may be behind at most n clocks. -/
structure RSt.Ok (n : Nat) (r : RSt) : Prop where
  A : r.A.size = 4096
  wiped : r.wiped.length = 8
  durs : r.durs.length ≤ 16 ∧ ∀ d ∈ r.durs, 1 ≤ d ∧ d ≤ 400
  kind : r.kind = 0 ∨ r.kind = 2 ∨ r.kind = 32
  left : r.left ≤ 400
  going : r.kind ≠ 0 → 1 ≤ r.left
  wat : r.wat < 4096
  wdata : r.kind = 2 → r.wat + r.wdata.size ≤ 4096
  op : r.op.Ok
  opm : r.op.mode = true → r.op.addr = 4
  x : r.x < 2 ^ r.bits
  x0 : r.known = true → r.part = 4 → r.op.inn = false → r.x = 0
  bits : r.bits < 24
  bits8 : r.known = false ∨ r.part = 4 → r.bits < 8
  outs : r.known = true → r.part = 4 → r.op.inn = false → r.op.data ≠ 0 → r.bits % r.op.data = 0
  addr1 : r.known = true → r.part = 1 → (r.op.addr = 1 ∨ r.op.addr = 4) ∧ r.bits % r.op.addr = 0
  addr2 : r.known = true → r.part = 2 → r.op.addr = 4 ∧ r.bits % 4 = 0 ∧ r.bits < 8
  part : r.part ≤ 4
  begun : r.known = true → 1 ≤ r.part
  adr : r.adr < 4096
  mode : r.mode < 256
  inn : ∀ x ∈ r.inn, x < 256
  count : r.inn.length ≤ n
  clocks : r.clocks ≤ n
  sent : r.sent ≤ n
  out : r.out < 256
end Go.Proofs.YtjhjghakfedeeaaGreat
end

/-! How the document's chip lies in memory: a block of 31 cells, three rows of their own; which blocks its calls may turn. No conditions but those of each statement. -/
section
namespace Go.Proofs.YtjhjghakfedeeaaGreat
open Go.RowKit Plain
set_option linter.unusedVariables false

def rCells (r : RSt) (wv dv iv : Value) : List Value :=
  [.string r.A, .bool r.prot, .bool r.quad, wv, .bool r.sel, .bool r.en, .bool r.goes, .int .i64 (r.kind : Int), .int .i64 (r.wat : Int), .string r.wdata, .int .i64 (r.left : Int), .bool r.sus, dv,
   .int .i64 (r.op.byte : Int), .int .i64 (r.op.addr : Int), .bool r.op.mode, .int .i64 (r.op.dummy : Int), .int .i64 (r.op.data : Int), .bool r.op.inn,
   .bool r.taken, .bool r.known, .int .i64 (r.bits : Int), .int .i64 (r.x : Int), .int .i64 (r.part : Int), .int .i64 (r.adr : Int), .int .i64 (r.mode : Int), .bool r.modes, iv, .int .i64 (r.clocks : Int), .int .i64 (r.out : Int), .int .i64 (r.sent : Int)]
/-- The document's chip r lies in block b; its three slices. -/
def RAt (w : World) (b : Nat) (r : RSt) (wv dv iv : Value) : Prop := Blk w b 107 (rCells r wv dv iv)

/-- Nothing of the blocks that were there turned but those of F. -/
structure Turns (F : Nat → Prop) (w w' : World) : Prop where
  os : w'.os = w.os
  tape : w'.tape = w.tape
  output : w'.output = w.output
  size : w.heap.size ≤ w'.heap.size
  block : ∀ k, k < w.heap.size → ¬ F k → w'.heap[k]? = w.heap[k]?
theorem Turns.refl (F : Nat → Prop) (w : World) : Turns F w w := ⟨rfl, rfl, rfl, Nat.le_refl _, fun _ _ _ => rfl⟩
theorem Turns.trans {F : Nat → Prop} {u v w : World} (h : Turns F u v) (k : Turns F v w) : Turns F u w :=
  ⟨k.os.trans h.os, k.tape.trans h.tape, k.output.trans h.output, Nat.le_trans h.size k.size, fun i hi hb => (k.block i (Nat.lt_of_lt_of_le hi h.size) hb).trans (h.block i hi hb)⟩
theorem Turns.below {F : Nat → Prop} {u v w : World} (h : Turns F u v) (k : Below v.heap.size v w) : Turns F u w := h.trans ⟨k.os, k.tape, k.output, k.size, fun i hi _ => k.block i hi⟩
/-- A block that may be turned: one of F, or one that is new since u. -/
def Own (F : Nat → Prop) (u : World) (k : Nat) : Prop := F k ∨ u.heap.size ≤ k
theorem Turns.set {F : Nat → Prop} {u v : World} (h : Turns F u v) {b : Nat} (hb : Own F u b) (i : Nat) (x : Value) : Turns F u (v.setCell ⟨b, i, none⟩ x) :=
  ⟨h.os, h.tape, h.output, by simpa using h.size, fun j hj hn => by
    rw [Below.heap_setCell _ _ _ _ (by show j ≠ b; rintro rfl; rcases hb with hb | hb; exact hn hb; omega)]
    exact h.block j hj hn⟩
theorem Turns.grown {F : Nat → Prop} {u v w : World} {row : Option Nat} (h : Turns F u v) (k : v.grownBy w row) (hr : ∀ g, row = some g → Own F u g) : Turns F u w :=
  ⟨k.os.trans h.os, k.tape.trans h.tape, k.output.trans h.output, Nat.le_trans h.size k.size, fun i hi hn => (k.block i (Nat.lt_of_lt_of_le hi h.size) (fun e => by
    rcases hr i e.symm with hb | hb
    · exact hn hb
    · omega)).trans (h.block i hi hn)⟩
theorem Turns.alloc {F : Nat → Prop} {u v : World} (h : Turns F u v) (o : Obj) : Turns F u (v.alloc o) := h.below ((Below.refl _ _).alloc (Nat.le_refl _) _)
theorem Turns.drew {F : Nat → Prop} {u v : World} (h : Turns F u v) : Turns F u v.drew := ⟨h.os, h.tape, h.output, h.size, h.block⟩
theorem Turns.drewN {F : Nat → Prop} {u v : World} (h : Turns F u v) (n : Nat) : Turns F u (v.drewN n) := h.below (below_drewN (Below.refl _ _) n)
theorem Turns.blk {F : Nat → Prop} {u v : World} (h : Turns F u v) {c : Nat} {T : TypeId} {L : List Value} (k : Blk u c T L) (hc : ¬ F c) : Blk v c T L := by
  have hl := k.lt
  unfold Blk at k ⊢
  rw [h.block c hl hc]; exact k

theorem Turns.only {F : Nat → Prop} {u v w : World} {b : Nat} (h : Turns F u v) (k : Only b v w) (hb : Own F u b) : Turns F u w :=
  ⟨k.os.trans h.os, k.tape.trans h.tape, k.output.trans h.output, Nat.le_trans h.size k.size, fun i hi hn => (k.block i (Nat.lt_of_lt_of_le hi h.size) (by rintro rfl; rcases hb with hb | hb; exact hn hb; omega)).trans (h.block i hi hn)⟩

/-- The three slices read as told, each in a block of its own that may be turned. -/
structure Rows3 (F : Nat → Prop) (u w : World) (b : Nat) (W D : List Int) (I : List Nat) (wv dv iv : Value) : Prop where
  wiped : ∃ g, wv = .slice (some ⟨g, 0, none⟩) 8 8 ∧ Blk w g 3 (W.map (Value.int .i64)) ∧ Own F u g ∧ g ≠ b ∧ (∀ k, dv.ownBlock = some k → 0 < D.length → k ≠ g) ∧ (∀ k, iv.ownBlock = some k → k ≠ g)
  durs : Reads w dv D
  dcap : ∀ a n c, dv = .slice a n c → n ≤ c
  dblk : ∀ k, dv.ownBlock = some k → 0 < D.length → k ≠ b ∧ Own F u k ∧ ∀ j, iv.ownBlock = some j → j ≠ k
  inn : Owns 0 w iv (nsL I)
  iblk : ∀ k, iv.ownBlock = some k → k ≠ b ∧ Own F u k
theorem reads_only {w w' : World} {b : Nat} {v : Value} {L : List Int} (h : Reads w v L) (k : Only b w w') (hb : ∀ g, v.ownBlock = some g → 0 < L.length → g ≠ b) : Reads w' v L := by
  obtain ⟨a, cap, rfl, hr⟩ := h
  refine ⟨a, cap, rfl, fun h0 => ?_⟩
  obtain ⟨g, o, rfl, hc⟩ := hr h0
  exact ⟨g, o, rfl, fun j hj => by rw [k.cell (cell_lt (hc j hj)) (hb g rfl h0)]; exact hc j hj⟩
theorem owns_only0 {w w' : World} {b B : Nat} {v : Value} {L : List Int} (h : Owns B w v L) (k : Only b w w') (hb : ∀ g, v.ownBlock = some g → g ≠ b) : Owns B w' v L := by
  refine ⟨h.1, ?_⟩
  rcases h.2 with h3 | ⟨g, cap, cur, hv, hB, hg, hr⟩
  · exact .inl h3
  · have hlt : g < w.heap.size := by
      rcases Nat.lt_or_ge g w.heap.size with hlt | hge
      · exact hlt
      · rw [Array.getElem?_eq_none hge] at hg; cases hg
    exact .inr ⟨g, cap, cur, hv, hB, (k.block g hlt (hb g (by rw [hv]; rfl))).trans hg, hr⟩
theorem Rows3.only {F : Nat → Prop} {u w w' : World} {b : Nat} {W D : List Int} {I : List Nat} {wv dv iv : Value} (h : Rows3 F u w b W D I wv dv iv) (k : Only b w w') : Rows3 F u w' b W D I wv dv iv := by
  obtain ⟨g, e, hg, hr⟩ := h.wiped
  exact ⟨⟨g, e, k.blk hg hr.2.1, hr⟩, reads_only h.durs k (fun g hg h0 => (h.dblk g hg h0).1), h.dcap, h.dblk, owns_only0 h.inn k (fun g hg => (h.iblk g hg).1), h.iblk⟩
/-- The document's chip r in block b; since u nothing turned but what is its own. -/
structure RRun (F : Nat → Prop) (n b : Nat) (u w : World) (r : RSt) : Prop where
  turns : Turns F u w
  mine : Own F u b
  ok : r.Ok n
  lies : ∃ wv dv iv, RAt w b r wv dv iv ∧ Rows3 F u w b r.wiped r.durs r.inn wv dv iv
/-- Behind a call that turned its block alone. -/
theorem RRun.only {F : Nat → Prop} {n m b : Nat} {u w w' : World} {r r' : RSt} {wv dv iv : Value} (h : RRun F n b u w r) (hr : Rows3 F u w b r.wiped r.durs r.inn wv dv iv) (hA : RAt w' b r' wv dv iv) (k : Only b w w') (ho : r'.Ok m)
    (e1 : r'.wiped = r.wiped) (e2 : r'.durs = r.durs) (e3 : r'.inn = r.inn) : RRun F m b u w' r' :=
  ⟨h.turns.only k h.mine, h.mine, ho, wv, dv, iv, hA, by rw [e1, e2, e3]; exact hr.only k⟩
end Go.Proofs.YtjhjghakfedeeaaGreat
end
