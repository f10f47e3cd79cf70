/-
  Plain facts on bytes and texts that the walks of this seat lean on: a text's byte, a mask's byte, a text told byte by byte, what a program or an erase leaves of a byte. Nothing of the program is named here; no conditions but those of each statement. Rows of numbers as the calls of this seat hand them on: what a slice reads as, and that it reads so behind a call that wrote nothing old. No conditions but those of each statement. The chip as a plain machine: what it holds, and what each call makes of it, in words of numbers, bytes and texts. Nothing of the program is named here. The commands and their parts: what the program and the document answer for any number, each by one contract. No conditions. Bits of numbers, as sums and remainders: what a mask leaves, and two numbers that share no bit. No conditions but those of each statement. How a chip lies in memory: a block of 69 cells, field by field, and the durations in a row of their own; what a store and a call elsewhere leave of it. No conditions but those of each statement. The small calls of package chip: is something under way, lanes and clocks of a part, has the chip the word, is a command whole; each by a contract. Conditions: the chip, or the command, lies in memory as told.
-/
import Derived.WalkKit
import Derived.Laws.BytesArg
import Derived.Laws.IdiomStrings
import Derived.Laws.BitsAllLaws
import Derived.Test.YtjhjghakfedeeaaGreatProg
import Derived.WalkSpells
import Derived.WalkLawsBesides
import Derived.KernelRfl
import Derived.OwnWalk
import Derived.Below
import Derived.Deep.Draws
import Derived.Deep.MidRow
import Derived.Deep.WholeRow
import Derived.BigQuiet
import Derived.Deep.QuietTactic
import Derived.Deep.CutRange
import Derived.Deep.RegionHeld3
/-! Plain facts on bytes and texts that the walks of this seat lean on: a text's byte, a mask's byte, a text told byte by byte, what a program or an erase leaves of a byte. Nothing of the program is named here; no conditions but those of each statement. -/
section
namespace Go.Proofs.YtjhjghakfedeeaaGreat.Plain

/-- A text's byte; 0 behind its end. -/
def ub (s : ByteArray) (i : Nat) : UInt8 := if h : i < s.size then s[i]'h else 0
theorem ub_of (s : ByteArray) (i : Nat) (h : i < s.size) : ub s i = s[i]'h := by unfold ub; rw [dif_pos h]
theorem get_ub (s : ByteArray) : ∀ (n : Nat) (h : n < s.size), (s[n]'h).toNat = (ub s n).toNat := fun n h => by rw [ub_of s n h]

/-- A text told byte by byte. -/
def tab (n : Nat) (f : Nat → UInt8) : ByteArray := ⟨Array.ofFn (n := n) fun i => f i.1⟩
theorem tab_size (n : Nat) (f : Nat → UInt8) : (tab n f).size = n := by simp [tab, ByteArray.size]
theorem ub_tab (n : Nat) (f : Nat → UInt8) (i : Nat) (h : i < n) : ub (tab n f) i = f i := by
  rw [ub_of _ _ (by rw [tab_size]; exact h)]
  exact Array.getElem_ofFn (f := fun i : Fin n => f i.1) (by simpa using h)
theorem ext_ub {a b : ByteArray} (hs : a.size = b.size) (h : ∀ i, i < a.size → ub a i = ub b i) : a = b := by
  obtain ⟨x⟩ := a
  obtain ⟨y⟩ := b
  congr 1
  refine Array.ext hs fun i h1 h2 => ?_
  have := h i h1
  rw [ub_of _ _ h1, ub_of _ _ h2] at this
  exact this
theorem tab_congr {n : Nat} {f g : Nat → UInt8} (h : ∀ i, i < n → f i = g i) : tab n f = tab n g :=
  ext_ub (by rw [tab_size, tab_size]) fun i hi => by rw [tab_size] at hi; rw [ub_tab _ _ _ hi, ub_tab _ _ _ hi, h i hi]
theorem tab_ub (a : ByteArray) : tab a.size (ub a) = a := ext_ub (tab_size _ _) fun i hi => by rw [tab_size] at hi; rw [ub_tab _ _ _ hi]

theorem isEmpty_iff (s : ByteArray) : s.toList.isEmpty = decide (s.size = 0) := by
  rw [ByteArray.toList_eq]
  obtain ⟨⟨l⟩⟩ := s
  cases l with
  | nil => rfl
  | cons x xs => rfl
theorem eq_iff (a b : ByteArray) : (a.toList == b.toList) = decide (a = b) := by
  rw [ByteArray.toList_eq, ByteArray.toList_eq]
  by_cases h : a = b
  · subst h; simp
  · have : ¬ a.data.toList = b.data.toList := fun h' => h (by obtain ⟨⟨x⟩⟩ := a; obtain ⟨⟨y⟩⟩ := b; simp at h'; rw [h'])
    rw [decide_eq_false h]
    simpa using this

/-- The bytes of a tab, as numbers, make the text. -/
theorem strOfNums_tab (n : Nat) (f : Nat → UInt8) (xs : List Int) (hl : xs.length = n) (hx : ∀ i, i < n → xs.getD i 0 = ((f i).toNat : Int)) : strOfNums xs = tab n f := by
  refine ext_ub (by rw [strOfNums_size, tab_size, hl]) fun i hi => ?_
  rw [strOfNums_size] at hi
  rw [ub_of _ _ (by rw [strOfNums_size]; exact hi), ub_tab _ _ _ (by omega)]
  have := hx i (by omega)
  rw [List.getD_eq_getElem?_getD, List.getElem?_eq_getElem hi, Option.getD_some] at this
  refine Eq.trans (List.getElem_map (fun n : Int => UInt8.ofNat n.toNat)) ?_
  rw [this]
  simp

/-- The mask's byte at the i-th byte of what is cut. -/
def mb (m : ByteArray) (i : Nat) : UInt8 := if m.size = 0 then 0 else ub m (i % m.size)
theorem mb_zero (m : ByteArray) (i : Nat) (h : m.size = 0) : mb m i = 0 := by simp [mb, h]
theorem mb_pos (m : ByteArray) (i : Nat) (h : 0 < m.size) : mb m i = ub m (i % m.size) := by unfold mb; rw [if_neg (by omega)]
/-- What a program leaves of a byte x: d is programmed, of what it clears the mask's bits. -/
def pb (x d m : UInt8) : UInt8 := x &&& ~~~(~~~d &&& m)
/-- What an erase leaves of a byte x. -/
def eb (x m : UInt8) : UInt8 := x ||| m
/-- A program, told byte by byte. -/
def prog (a : ByteArray) (k : Nat) (d m : ByteArray) : ByteArray := tab a.size fun j => if k ≤ j ∧ j < k + d.size then pb (ub a j) (ub d (j - k)) (mb m (j - k)) else ub a j
/-- An erase of sector s, told byte by byte. -/
def erase (a : ByteArray) (s : Nat) (m : ByteArray) : ByteArray := tab a.size fun j => if s * 512 ≤ j ∧ j < s * 512 + 512 then eb (ub a j) (mb m (j - s * 512)) else ub a j
/-- So many bytes 255. -/
def full (n : Nat) : ByteArray := tab n fun _ => 255
/-- The text over and over, in 4096 bytes. -/
def wide (s : ByteArray) : ByteArray := tab 4096 fun j => if s.size = 0 then 255 else ub s (j % s.size)

/- The walk's spelling of the bytes' operations. -/
theorem not_u8 (d : UInt8) : bits .xor .u8 255 (d.toNat : Int) = ((~~~d).toNat : Int) := by
  have := d.toNat_lt
  rw [show (255 : Int) = ((255 : Nat) : Int) from rfl, u8_xor_nat 255 d.toNat (by omega) (by omega)]
  congr 1
theorem not_u8' (d : UInt8) : bits .xor .u8 (-1) (d.toNat : Int) = ((~~~d).toNat : Int) := by
  rw [← not_u8]; rfl
theorem not_toNat (y : UInt8) : (~~~y).toNat = 255 - y.toNat := by
  show (~~~y.toBitVec).toNat = _
  rw [BitVec.toNat_not]
  rfl
theorem and_u8 (x y : UInt8) : bits .and .u8 (x.toNat : Int) (y.toNat : Int) = ((x &&& y).toNat : Int) := by
  have := x.toNat_lt
  have := y.toNat_lt
  rw [u8_and_nat _ _ (by omega) (by omega), UInt8.toNat_and]
theorem or_u8 (x y : UInt8) : bits .or .u8 (x.toNat : Int) (y.toNat : Int) = ((x ||| y).toNat : Int) := by
  have := x.toNat_lt
  have := y.toNat_lt
  rw [u8_or_nat _ _ (by omega) (by omega), UInt8.toNat_or]
theorem andNot_u8 (x y : UInt8) : bits .andNot .u8 (x.toNat : Int) (y.toNat : Int) = ((x &&& ~~~y).toNat : Int) := by
  have := x.toNat_lt
  have := y.toNat_lt
  rw [u8_andNot_nat _ _ (by omega) (by omega), UInt8.toNat_and, not_toNat]
theorem pb_walk (x d m : UInt8) : bits .andNot .u8 (x.toNat : Int) (bits .and .u8 (bits .xor .u8 IntKind.u8.max (d.toNat : Int)) (m.toNat : Int)) = ((pb x d m).toNat : Int) := by
  rw [show IntKind.u8.max = 255 from rfl, not_u8, and_u8, andNot_u8]; rfl
theorem eb_walk (x m : UInt8) : bits .or .u8 (x.toNat : Int) (m.toNat : Int) = ((eb x m).toNat : Int) := by rw [or_u8]; rfl
theorem prog_step (a d m : ByteArray) (A k j : Nat) : (if j = A + k then pb (ub a (A + k)) (ub d k) (mb m k) else if A ≤ j ∧ j < A + k then pb (ub a j) (ub d (j - A)) (mb m (j - A)) else ub a j) =
    if A ≤ j ∧ j < A + (k + 1) then pb (ub a j) (ub d (j - A)) (mb m (j - A)) else ub a j := by
  by_cases e : j = A + k
  · subst e
    rw [if_pos rfl, if_pos (by omega), show A + k - A = k by omega]
  · rw [if_neg e]
    by_cases h : A ≤ j ∧ j < A + k
    · rw [if_pos h, if_pos (by omega)]
    · rw [if_neg h, if_neg (by omega)]
theorem erase_step (a m : ByteArray) (A k j : Nat) : (if j = A + k then eb (ub a (A + k)) (mb m k) else if A ≤ j ∧ j < A + k then eb (ub a j) (mb m (j - A)) else ub a j) =
    if A ≤ j ∧ j < A + (k + 1) then eb (ub a j) (mb m (j - A)) else ub a j := by
  by_cases e : j = A + k
  · subst e
    rw [if_pos rfl, if_pos (by omega), show A + k - A = k by omega]
  · rw [if_neg e]
    by_cases h : A ≤ j ∧ j < A + k
    · rw [if_pos h, if_pos (by omega)]
    · rw [if_neg h, if_neg (by omega)]
end Go.Proofs.YtjhjghakfedeeaaGreat.Plain
end

/-! Rows of numbers as the calls of this seat hand them on: what a slice reads as, and that it reads so behind a call that wrote nothing old. No conditions but those of each statement. -/
section
namespace Go.Proofs.YtjhjghakfedeeaaGreat
open Go.RowKit
set_option linter.unusedVariables false

theorem ret_int {k : IntKind} {a b : Int} (h : a = b) : Ending.returned (.int k a) = .returned (.int k b) := by rw [h]
theorem ret_bool {a b : Bool} (h : a = b) : Ending.returned (.bool a) = .returned (.bool b) := by rw [h]

theorem info3 : (Tryz.prog.info? 3).map (fun i => (i.zero, i.size, i.bytes)) = some (some (.int .i64 0), 1, 8) := by kernel_rfl

/-- The slice v reads as the numbers L. -/
def Reads (w : World) (v : Value) (L : List Int) : Prop :=
  ∃ a cap, v = .slice a L.length cap ∧ (0 < L.length → ∃ g o, a = some ⟨g, o, none⟩ ∧ ∀ j, j < L.length → w.cell? ⟨g, o + j, none⟩ = some (.int .i64 (L.getD j 0)))
/-- The slice v, in memory laid since block B, reads as the numbers L and may be written. -/
def Owns (B : Nat) (w : World) (v : Value) (L : List Int) : Prop := w.ownsRow B 3 1 v L.length (L.map (Value.int .i64))

theorem cell_lt {w : World} {a : Addr} {x : Value} (h : w.cell? a = some x) : a.block < w.heap.size := by
  rcases Nat.lt_or_ge a.block w.heap.size with hlt | hge
  · exact hlt
  · rw [World.cell?, Array.getElem?_eq_none hge] at h; cases h
theorem Reads.below {w w' : World} {v : Value} {L : List Int} (h : Reads w v L) (b : Below w.heap.size w w') : Reads w' v L := by
  obtain ⟨a, cap, rfl, h2⟩ := h
  refine ⟨a, cap, rfl, fun hp => ?_⟩
  obtain ⟨g, o, rfl, hc⟩ := h2 hp
  exact ⟨g, o, rfl, fun j hj => (b.cell (by exact cell_lt (hc j hj))).trans (hc j hj)⟩
theorem Reads.below' {w w' : World} {v : Value} {L : List Int} {B : Nat} (h : Reads w v L) (b : Below B w w') (hB : ∀ g o n c, v = .slice (some ⟨g, o, none⟩) n c → g < B) : Reads w' v L := by
  obtain ⟨a, cap, rfl, h2⟩ := h
  refine ⟨a, cap, rfl, fun hp => ?_⟩
  obtain ⟨g, o, rfl, hc⟩ := h2 hp
  exact ⟨g, o, rfl, fun j hj => (b.cell (by exact hB _ _ _ _ rfl)).trans (hc j hj)⟩
theorem Owns.reads {B : Nat} {w : World} {v : Value} {L : List Int} (h : Owns B w v L) : Reads w v L := by
  have h0 : w.ownsRow B 3 1 v L.length (L.map (Value.int .i64)) := h
  rcases h.2 with ⟨rfl, hn⟩ | ⟨g, cap, cur, rfl, hb, hg, hnc, hcm, hcs, ht⟩
  · exact ⟨none, 0, by rw [hn], fun hp => by omega⟩
  · refine ⟨some ⟨g, 0, none⟩, cap, rfl, fun hp => ⟨g, 0, rfl, fun j hj => ?_⟩⟩
    rw [Nat.zero_add, h0.cellAt j (by omega), List.getElem?_map, List.getD_eq_getElem?_getD, List.getElem?_eq_getElem hj]
    rfl
theorem Owns.below {B B' : Nat} {w w' : World} {v : Value} {L : List Int} (h : Owns B w v L) (b : Below w.heap.size w w') (hB : B' ≤ B) : Owns B' w' v L := by
  refine ⟨h.1, ?_⟩
  rcases h.2 with h2 | ⟨g, cap, cur, hv, hb, hg, hr⟩
  · exact .inl h2
  · have hlt : g < w.heap.size := by
      rcases Nat.lt_or_ge g w.heap.size with hlt | hge
      · exact hlt
      · rw [Array.getElem?_eq_none hge] at hg; cases hg
    exact .inr ⟨g, cap, cur, hv, by omega, (b.block g hlt).trans hg, hr⟩
theorem Owns.lit {w : World} (L : List Int) (n : Nat) (cs : Array Value) (hc : cs.toList = L.map (Value.int .i64)) (hn : L.length = n) (hm : n ≤ maxLen) : Owns w.heap.size (w.alloc (.cells cs 3)) (.slice (some ⟨w.heap.size, 0, none⟩) n n) L := by
  subst hn
  have h := World.ownsRow_lit (base := w.heap.size) (e := 3) (size := 1) w cs L.length (Nat.le_refl _) hm (by rw [← Array.length_toList, hc, List.length_map, Nat.mul_one])
  rw [hc] at h
  exact h
theorem below_then {a b c : World} (h : Below a.heap.size a b) (k : Below b.heap.size b c) : Below a.heap.size a c := h.trans (k.mono h.size)
theorem below_drewN {B : Nat} {a w : World} (h : Below B a w) (k : Nat) : Below B a (w.drewN k) :=
  ⟨h.os, by rw [World.tape_drewN]; exact h.tape, h.output, by rw [World.heap_drewN]; exact h.size, fun i hi => by rw [World.heap_drewN]; exact h.block i hi⟩
theorem list_same {L M : List Int} (hl : L.length = M.length) (h : ∀ j, j < L.length → L.getD j 0 = M.getD j 0) : L = M := by
  refine List.ext_getElem hl fun j h1 h2 => ?_
  have := h j h1
  rwa [List.getD_eq_getElem?_getD, List.getD_eq_getElem?_getD, List.getElem?_eq_getElem h1, List.getElem?_eq_getElem h2] at this

theorem reads_lit {w : World} {g n : Nat} {cs : Array Value} (L : List Int) (hg : w.heap[g]? = some (.cells cs 3 (0, 0))) (hc : cs.toList = L.map (Value.int .i64)) (hn : L.length = n) (c : Nat) : Reads w (.slice (some ⟨g, 0, none⟩) n c) L := by
  subst hn
  refine ⟨_, c, rfl, fun hp => ⟨g, 0, rfl, fun j hj => ?_⟩⟩
  rw [Nat.zero_add, cell_of_row w g j cs 3 (0, 0) hg, ← Array.getElem?_toList, hc, List.getElem?_map, List.getD_eq_getElem?_getD, List.getElem?_eq_getElem hj]
  rfl
theorem below_lit {a b : World} {o : Obj} (h : Below (a.alloc o).heap.size (a.alloc o) b) : Below a.heap.size a b := below_then ((Below.refl _ _).alloc (Nat.le_refl _) _) h
theorem below_new (a : World) (o : Obj) : Below a.heap.size a (a.alloc o) := (Below.refl _ _).alloc (Nat.le_refl _) _
theorem umod (x : Int) (n : Nat) (hn : 0 < n) (hb : n ≤ 9223372036854775807) : ∃ K : Nat, K < n ∧ wrap64 ((IntKind.u64.wrap x).tmod (n : Int)) = (K : Int) := by
  have h0 : 0 ≤ IntKind.u64.wrap x := by rw [IntKind.wrap_u64]; omega
  obtain ⟨u, hu⟩ := Int.eq_ofNat_of_zero_le h0
  refine ⟨u % n, Nat.mod_lt _ hn, ?_⟩
  rw [hu, show ((u : Int).tmod (n : Int)) = ((u % n : Nat) : Int) from rfl]
  have := Nat.mod_lt u hn
  exact IntWalk.wrap64_in _ (by omega)

theorem num_any (n : Int) (w : World) :
    Calls Tryz.prog 19 #[.int .i64 n] w fun e w' => e = .returned (.int .i64 n) ∧ w = w' := by
  go_enter Tryz.func19, Tryz.ntmps19
  go_wp2
  go_ret
  exact ⟨rfl, rfl⟩
end Go.Proofs.YtjhjghakfedeeaaGreat
end

/-! The chip as a plain machine: what it holds, and what each call makes of it, in words of numbers, bytes and texts. Nothing of the program is named here. -/
section
namespace Go.Proofs.YtjhjghakfedeeaaGreat
open Go.RowKit Plain

/-- A command and its parts. -/
structure Op where
  byte : Nat
  addr : Nat
  mode : Bool
  dummy : Nat
  data : Nat
  inn : Bool
/-- None. -/
def noOp : Op := ⟨0, 0, false, 0, 0, false⟩
/-- The command that has the byte b. -/
def opOf (b : Nat) : Op :=
  if b = 1 then ⟨1, 0, false, 0, 1, true⟩ else if b = 2 then ⟨2, 1, false, 0, 1, true⟩ else if b = 3 then ⟨3, 1, false, 0, 1, false⟩ else if b = 4 then ⟨4, 0, false, 0, 0, false⟩ else
  if b = 5 then ⟨5, 0, false, 0, 1, false⟩ else if b = 6 then ⟨6, 0, false, 0, 0, false⟩ else if b = 32 then ⟨32, 1, false, 0, 0, false⟩ else if b = 53 then ⟨53, 0, false, 0, 1, false⟩ else
  if b = 90 then ⟨90, 1, false, 8, 1, false⟩ else if b = 107 then ⟨107, 1, false, 8, 4, false⟩ else if b = 117 then ⟨117, 0, false, 0, 0, false⟩ else if b = 122 then ⟨122, 0, false, 0, 0, false⟩ else
  if b = 159 then ⟨159, 0, false, 0, 1, false⟩ else if b = 235 then ⟨235, 4, true, 4, 4, false⟩ else noOp

/-- What has come of a command. -/
structure Cmd where
  op : Op
  part : Nat
  clocks : Nat
  bits : Nat
  adr : Nat
  mode : Nat
  count : Nat
  data : Nat → UInt8
  said : Nat
/-- Nothing. -/
def noCmd : Cmd := ⟨noOp, 0, 0, 0, 0, 0, 0, fun _ => 0, 0⟩

/-- A chip. -/
structure St where
  A : ByteArray
  prot : Bool
  quad : Bool
  wipes : Nat → Int
  made : Bool
  sel : Bool
  en : Bool
  sus : Bool
  goes : Bool
  durs : List Int
  left : Nat
  erases : Bool
  wat : Nat
  wdata : ByteArray
  k : Cmd
/-- .. with another command. -/
def St.setK (s : St) (k : Cmd) : St := { s with k := k }
/-- A new one. -/
def newSt (a : ByteArray) : St := ⟨a, false, false, fun _ => 0, false, false, false, false, false, [], 0, false, 0, ⟨#[]⟩, noCmd⟩

/-- What a chip is like, as bytes. -/
def sfdpL : List UInt8 := [83, 70, 68, 80, 6, 1, 0, 255, 0, 16, 0, 0, 0, 2, 0, 0, 32, 0, 0, 0] ++ List.replicate 12 255
def sfdpT : ByteArray := ⟨sfdpL.toArray⟩
def idT : ByteArray := ⟨#[239, 64, 12]⟩

/-- Lanes and clocks. -/
def over (l n : Nat) : Nat × Nat := if l = 0 then (0, 0) else (l, n / l)
def splitO (o : Op) (p : Nat) : Nat × Nat :=
  if p = 0 then (1, 8) else if p = 1 then over o.addr 24 else if p = 2 then (if o.mode then over o.addr 8 else (0, 0)) else if p = 3 then (1, o.dummy) else if p = 4 then over o.data 8 else (0, 0)
def Cmd.split (k : Cmd) : Nat × Nat := splitO k.op k.part
/-- The next part that the command has. -/
def nextPart (o : Op) (p : Nat) : Nat :=
  if p < 1 ∧ 0 < (splitO o 1).2 then 1 else if p < 2 ∧ 0 < (splitO o 2).2 then 2 else if p < 3 ∧ 0 < (splitO o 3).2 then 3 else if p < 4 ∧ 0 < (splitO o 4).2 then 4 else 5
def Cmd.turn (k : Cmd) : Cmd := { k with clocks := 0, bits := 0, part := nextPart k.op k.part }
def Cmd.whole (k : Cmd) : Bool := decide (4 ≤ k.part) && decide (k.clocks = 0)
def Cmd.speaks (k : Cmd) : Bool := decide (k.part = 4) && !k.op.inn
/-- A page's bytes. -/
def Cmd.page (k : Cmd) : ByteArray := tab 32 fun j => if (j + 32 - k.adr % 32) % 32 < min k.count 32 then k.data ((j + 32 - k.adr % 32) % 32) else 255
def Cmd.around (k : Cmd) (t : ByteArray) : Nat := (ub t ((k.adr + k.count) % t.size)).toNat

def St.busy (s : St) : Bool := decide (0 < s.left) && !s.sus
def bitIf (b : Bool) (n : Nat) : Nat := if b then n else 0
def St.first (s : St) : Nat := bitIf s.busy 1 + bitIf s.en 2 + bitIf s.prot 4
def St.second (s : St) : Nat := bitIf s.quad 2 + bitIf s.sus 128
/-- What comes of what is under way, of whose bits those of the mask are done. -/
def St.on (s : St) (m : ByteArray) : ByteArray := if s.erases then erase s.A (s.wat / 512) m else prog s.A s.wat s.wdata m
def St.countDown (s : St) : St :=
  if s.busy then (if 0 < s.left - 1 then { s with left := s.left - 1 } else { s with A := s.on ⟨#[255]⟩, left := 0, erases := false, wat := 0, wdata := ⟨#[]⟩, en := false }) else s
def St.takes (s : St) (b : Nat) : Bool :=
  if b = 5 ∨ b = 53 ∨ b = 117 then true else if b = 1 ∨ b = 2 ∨ b = 32 then !decide (0 < s.left) else if b = 107 ∨ b = 235 then s.quad && !s.busy else !s.busy
def St.take (s : St) (b : Nat) : St := s.setK (Cmd.turn (if s.takes b then { s.k with op := opOf b } else s.k))
def St.complete (s : St) : St :=
  if s.k.part = 0 then s.take s.k.bits
  else if s.k.part = 1 then s.setK (Cmd.turn { s.k with adr := s.k.bits % 4096 })
  else if s.k.part = 2 then s.setK (Cmd.turn { s.k with mode := s.k.bits })
  else if s.k.part = 4 then s.setK { s.k with data := fun j => if j = s.k.count % 32 then UInt8.ofNat s.k.bits else s.k.data j, count := s.k.count + 1, clocks := 0, bits := 0 }
  else s.setK s.k.turn
/-- A clock's bits come in. -/
def Cmd.came (k : Cmd) (x : Nat) : Cmd := { k with bits := k.bits * 2 ^ k.split.1 + x % 2 ^ k.split.1, clocks := k.clocks + 1 }
def St.hear (s : St) (x : Nat) : St :=
  if s.k.clocks + 1 = s.k.split.2 then (s.setK (s.k.came x)).complete else s.setK (s.k.came x)
def St.dataByte (s : St) : Nat :=
  if s.k.op.byte = 159 then s.k.around idT else if s.k.op.byte = 5 then s.first else if s.k.op.byte = 53 then s.second else if s.k.op.byte = 90 then s.k.around sfdpT else s.k.around s.A
/-- The chip behind the byte that begins was looked up. -/
def St.looked (s : St) : St := if s.k.op.byte = 90 then { s with made := true } else s
def St.begun (s : St) : St := if s.k.clocks = 0 then s.looked.setK { s.k with said := s.dataByte } else s
def tellBits (said c l : Nat) : Nat := said / 2 ^ (8 - c * l) % 2 ^ l
def tellOut (o l : Nat) : Nat := if l = 1 then 13 + 2 * o else o
/-- A clock's bits are told. -/
def Cmd.told (k : Cmd) : Cmd := if k.clocks + 1 = k.split.2 then { k with clocks := 0, count := k.count + 1 } else { k with clocks := k.clocks + 1 }
def St.tell (s : St) : St × Nat :=
  (s.begun.setK s.begun.k.told, tellOut (tellBits s.begun.k.said (s.k.clocks + 1) s.k.split.1) s.k.split.1)
def St.heard (s : St) (x : Nat) : St × Nat := if s.sel = false then (s, 15) else if s.k.speaks then s.tell else (s.hear x, 15)
def St.clock (s : St) (x : Nat) : St × Nat := s.countDown.heard x

def St.select (s : St) : St := if s.goes then { s with sel := true }.take 235 else { s with sel := true }
def St.begin (s : St) (er : Bool) (a : Nat) (d : ByteArray) : St :=
  if s.en = false then s
  else if s.prot && decide (a < 2048) then { s with en := false }
  else { s with left := (s.durs.headD 8).toNat, durs := s.durs.tail, erases := er, wat := a, wdata := d, wipes := if er then (fun i => if i = a / 512 then wrap64 (s.wipes i + 1) else s.wipes i) else s.wipes }
def St.putStatus (s : St) (k : Cmd) : St :=
  if s.en = true ∧ k.count = 2 then { s with prot := decide ((k.data 0).toNat / 4 % 2 = 1), quad := decide ((k.data 1).toNat / 2 % 2 = 1), en := false } else s
def St.obey (s : St) (k : Cmd) : St :=
  if k.op.byte = 6 then { s with en := true }
  else if k.op.byte = 4 then { s with en := false }
  else if k.op.byte = 117 then { s with sus := decide (0 < s.left) && s.erases }
  else if k.op.byte = 122 then { s with sus := false }
  else if k.op.byte = 1 then s.putStatus k
  else if k.op.byte = 2 then (if 0 < k.count then s.begin false (k.adr - k.adr % 32) k.page else s)
  else if k.op.byte = 32 then s.begin true k.adr ⟨#[]⟩
  else s
def St.ended (s : St) : St := { s with sel := false, k := noCmd, goes := decide (s.k.mode = 160) }
def St.deselect (s : St) : St := if s.k.whole then s.ended.obey s.k else s.ended
def St.next (s : St) (L : List Int) : St := { s with durs := L }
def St.loss (s : St) (m : ByteArray) : St :=
  { s with A := if 0 < s.left then s.on m else s.A, sel := false, en := false, sus := false, goes := false, durs := [], left := 0, erases := false, wat := 0, wdata := ⟨#[]⟩, k := noCmd }

/-- A command's parts, as they may be. -/
structure Op.Ok (o : Op) : Prop where
  byte : o.byte < 256
  addr : o.addr = 0 ∨ o.addr = 1 ∨ o.addr = 4
  dummy : o.dummy ≤ 8
  data : o.data = 0 ∨ o.data = 1 ∨ o.data = 4
  inn : o.inn = true → o.data = 1
/-- What has come, as it may be, behind at most n clocks. -/
structure Cmd.Ok (n : Nat) (k : Cmd) : Prop where
  op : k.op.Ok
  part : k.part ≤ 5
  clocks : k.clocks ≤ n
  count : k.count ≤ n
  adr : k.adr < 4096
  mode : k.mode < 256
  said : k.said < 256
  small : k.bits < 16777216
  bits : k.part < 4 → k.bits < 2 ^ (k.clocks * k.split.1)
  some : k.part < 4 → k.clocks < k.split.2
  data : k.part = 4 → k.clocks < k.split.2 ∧ 0 < k.split.2 ∧ (k.op.inn = true → k.bits < 2 ^ k.clocks)
/-- A chip, as it may be. -/
structure St.Ok (n : Nat) (s : St) : Prop where
  A : s.A.size = 4096
  durs : ∀ d ∈ s.durs, 1 ≤ d ∧ d ≤ 400
  left : s.left ≤ 400
  wat : s.wat < 4096
  wdata : s.wat + s.wdata.size ≤ 4096
  k : s.k.Ok n
end Go.Proofs.YtjhjghakfedeeaaGreat
end

/-! The commands and their parts: what the program and the document answer for any number, each by one contract. No conditions. -/
section
namespace Go.Proofs.YtjhjghakfedeeaaGreat
open Go.RowKit
set_option linter.unusedVariables false

/-- The commands' bytes, rising. -/
def opL : List Int := [1, 2, 3, 4, 5, 6, 32, 53, 90, 107, 117, 122, 159, 235]
/-- Is b a command? -/
def isOp (b : Int) : Bool := opL.contains b
/-- The parts of what is told of the number b. -/
def opB (b : Int) : Int := if isOp b = true then b else 0
def opA (b : Int) : Int := if b = 2 ∨ b = 3 ∨ b = 32 ∨ b = 90 ∨ b = 107 then 1 else if b = 235 then 4 else 0
def opM (b : Int) : Bool := b == 235
def opD (b : Int) : Int := if b = 90 ∨ b = 107 then 8 else if b = 235 then 4 else 0
def opN (b : Int) : Int := if b = 1 ∨ b = 2 ∨ b = 3 ∨ b = 5 ∨ b = 53 ∨ b = 90 ∨ b = 159 then 1 else if b = 107 ∨ b = 235 then 4 else 0
def opI (b : Int) : Bool := b == 1 || b == 2
def opE (b : Int) : Int := if isOp b = true then 0 else 400
/-- What is answered for the number b. -/
def Tells (b : Int) (w : World) (e : Ending) (w' : World) : Prop :=
  e = .returned (.tuple #[.agg #[.int .i64 (opB b), .int .i64 (opA b), .bool (opM b), .int .i64 (opD b), .int .i64 (opN b), .bool (opI b)], .int .i64 (opE b)]) ∧ Below w.heap.size w w'

theorem isOp_iff (b : Int) : isOp b = true ↔ b = 1 ∨ b = 2 ∨ b = 3 ∨ b = 4 ∨ b = 5 ∨ b = 6 ∨ b = 32 ∨ b = 53 ∨ b = 90 ∨ b = 107 ∨ b = 117 ∨ b = 122 ∨ b = 159 ∨ b = 235 := by
  simp [isOp, opL]
set_option maxRecDepth 100000 in
set_option maxHeartbeats 1000000 in
theorem of_1 (w : World) : Calls Tryz.prog 125 #[.int .i64 1] w (Tells 1 w) := by
  go_enter Tryz.func125, Tryz.ntmps125
  go_wp2
  refine bodyPost_ret (v := .tuple #[.agg #[.int .i64 1, .int .i64 0, .bool false, .int .i64 0, .int .i64 1, .bool true], .int .i64 0]) (by simp [results, Tryz.results125, go_sem]) rfl ⟨rfl, ?_⟩
  exact below_then (below_new _ _) (below_new _ _)
set_option maxRecDepth 100000 in
set_option maxHeartbeats 1000000 in
theorem of_2 (w : World) : Calls Tryz.prog 125 #[.int .i64 2] w (Tells 2 w) := by
  go_enter Tryz.func125, Tryz.ntmps125
  go_wp2
  refine bodyPost_ret (v := .tuple #[.agg #[.int .i64 2, .int .i64 1, .bool false, .int .i64 0, .int .i64 1, .bool true], .int .i64 0]) (by simp [results, Tryz.results125, go_sem]) rfl ⟨rfl, ?_⟩
  exact below_then (below_new _ _) (below_new _ _)
set_option maxRecDepth 100000 in
set_option maxHeartbeats 1000000 in
theorem of_3 (w : World) : Calls Tryz.prog 125 #[.int .i64 3] w (Tells 3 w) := by
  go_enter Tryz.func125, Tryz.ntmps125
  go_wp2
  refine bodyPost_ret (v := .tuple #[.agg #[.int .i64 3, .int .i64 1, .bool false, .int .i64 0, .int .i64 1, .bool false], .int .i64 0]) (by simp [results, Tryz.results125, go_sem]) rfl ⟨rfl, ?_⟩
  exact below_then (below_new _ _) (below_new _ _)
set_option maxRecDepth 100000 in
set_option maxHeartbeats 1000000 in
theorem of_4 (w : World) : Calls Tryz.prog 125 #[.int .i64 4] w (Tells 4 w) := by
  go_enter Tryz.func125, Tryz.ntmps125
  go_wp2
  refine bodyPost_ret (v := .tuple #[.agg #[.int .i64 4, .int .i64 0, .bool false, .int .i64 0, .int .i64 0, .bool false], .int .i64 0]) (by simp [results, Tryz.results125, go_sem]) rfl ⟨rfl, ?_⟩
  exact below_then (below_new _ _) (below_new _ _)
set_option maxRecDepth 100000 in
set_option maxHeartbeats 1000000 in
theorem of_5 (w : World) : Calls Tryz.prog 125 #[.int .i64 5] w (Tells 5 w) := by
  go_enter Tryz.func125, Tryz.ntmps125
  go_wp2
  refine bodyPost_ret (v := .tuple #[.agg #[.int .i64 5, .int .i64 0, .bool false, .int .i64 0, .int .i64 1, .bool false], .int .i64 0]) (by simp [results, Tryz.results125, go_sem]) rfl ⟨rfl, ?_⟩
  exact below_then (below_new _ _) (below_new _ _)
set_option maxRecDepth 100000 in
set_option maxHeartbeats 1000000 in
theorem of_6 (w : World) : Calls Tryz.prog 125 #[.int .i64 6] w (Tells 6 w) := by
  go_enter Tryz.func125, Tryz.ntmps125
  go_wp2
  refine bodyPost_ret (v := .tuple #[.agg #[.int .i64 6, .int .i64 0, .bool false, .int .i64 0, .int .i64 0, .bool false], .int .i64 0]) (by simp [results, Tryz.results125, go_sem]) rfl ⟨rfl, ?_⟩
  exact below_then (below_new _ _) (below_new _ _)
set_option maxRecDepth 100000 in
set_option maxHeartbeats 1000000 in
theorem of_32 (w : World) : Calls Tryz.prog 125 #[.int .i64 32] w (Tells 32 w) := by
  go_enter Tryz.func125, Tryz.ntmps125
  go_wp2
  refine bodyPost_ret (v := .tuple #[.agg #[.int .i64 32, .int .i64 1, .bool false, .int .i64 0, .int .i64 0, .bool false], .int .i64 0]) (by simp [results, Tryz.results125, go_sem]) rfl ⟨rfl, ?_⟩
  exact below_then (below_new _ _) (below_new _ _)
set_option maxRecDepth 100000 in
set_option maxHeartbeats 1000000 in
theorem of_53 (w : World) : Calls Tryz.prog 125 #[.int .i64 53] w (Tells 53 w) := by
  go_enter Tryz.func125, Tryz.ntmps125
  go_wp2
  refine bodyPost_ret (v := .tuple #[.agg #[.int .i64 53, .int .i64 0, .bool false, .int .i64 0, .int .i64 1, .bool false], .int .i64 0]) (by simp [results, Tryz.results125, go_sem]) rfl ⟨rfl, ?_⟩
  exact below_then (below_new _ _) (below_new _ _)
set_option maxRecDepth 100000 in
set_option maxHeartbeats 1000000 in
theorem of_90 (w : World) : Calls Tryz.prog 125 #[.int .i64 90] w (Tells 90 w) := by
  go_enter Tryz.func125, Tryz.ntmps125
  go_wp2
  refine bodyPost_ret (v := .tuple #[.agg #[.int .i64 90, .int .i64 1, .bool false, .int .i64 8, .int .i64 1, .bool false], .int .i64 0]) (by simp [results, Tryz.results125, go_sem]) rfl ⟨rfl, ?_⟩
  exact below_then (below_new _ _) (below_new _ _)
set_option maxRecDepth 100000 in
set_option maxHeartbeats 1000000 in
theorem of_107 (w : World) : Calls Tryz.prog 125 #[.int .i64 107] w (Tells 107 w) := by
  go_enter Tryz.func125, Tryz.ntmps125
  go_wp2
  refine bodyPost_ret (v := .tuple #[.agg #[.int .i64 107, .int .i64 1, .bool false, .int .i64 8, .int .i64 4, .bool false], .int .i64 0]) (by simp [results, Tryz.results125, go_sem]) rfl ⟨rfl, ?_⟩
  exact below_then (below_new _ _) (below_new _ _)
set_option maxRecDepth 100000 in
set_option maxHeartbeats 1000000 in
theorem of_117 (w : World) : Calls Tryz.prog 125 #[.int .i64 117] w (Tells 117 w) := by
  go_enter Tryz.func125, Tryz.ntmps125
  go_wp2
  refine bodyPost_ret (v := .tuple #[.agg #[.int .i64 117, .int .i64 0, .bool false, .int .i64 0, .int .i64 0, .bool false], .int .i64 0]) (by simp [results, Tryz.results125, go_sem]) rfl ⟨rfl, ?_⟩
  exact below_then (below_new _ _) (below_new _ _)
set_option maxRecDepth 100000 in
set_option maxHeartbeats 1000000 in
theorem of_122 (w : World) : Calls Tryz.prog 125 #[.int .i64 122] w (Tells 122 w) := by
  go_enter Tryz.func125, Tryz.ntmps125
  go_wp2
  refine bodyPost_ret (v := .tuple #[.agg #[.int .i64 122, .int .i64 0, .bool false, .int .i64 0, .int .i64 0, .bool false], .int .i64 0]) (by simp [results, Tryz.results125, go_sem]) rfl ⟨rfl, ?_⟩
  exact below_then (below_new _ _) (below_new _ _)
set_option maxRecDepth 100000 in
set_option maxHeartbeats 1000000 in
theorem of_159 (w : World) : Calls Tryz.prog 125 #[.int .i64 159] w (Tells 159 w) := by
  go_enter Tryz.func125, Tryz.ntmps125
  go_wp2
  refine bodyPost_ret (v := .tuple #[.agg #[.int .i64 159, .int .i64 0, .bool false, .int .i64 0, .int .i64 1, .bool false], .int .i64 0]) (by simp [results, Tryz.results125, go_sem]) rfl ⟨rfl, ?_⟩
  exact below_then (below_new _ _) (below_new _ _)
set_option maxRecDepth 100000 in
set_option maxHeartbeats 1000000 in
theorem of_235 (w : World) : Calls Tryz.prog 125 #[.int .i64 235] w (Tells 235 w) := by
  go_enter Tryz.func125, Tryz.ntmps125
  go_wp2
  refine bodyPost_ret (v := .tuple #[.agg #[.int .i64 235, .int .i64 4, .bool true, .int .i64 4, .int .i64 4, .bool false], .int .i64 0]) (by simp [results, Tryz.results125, go_sem]) rfl ⟨rfl, ?_⟩
  exact below_then (below_new _ _) (below_new _ _)
set_option maxRecDepth 100000 in
set_option maxHeartbeats 1000000 in
theorem of_none (b : Int) (w : World) (h : b ≠ 1 ∧ b ≠ 2 ∧ b ≠ 3 ∧ b ≠ 4 ∧ b ≠ 5 ∧ b ≠ 6 ∧ b ≠ 32 ∧ b ≠ 53 ∧ b ≠ 90 ∧ b ≠ 107 ∧ b ≠ 117 ∧ b ≠ 122 ∧ b ≠ 159 ∧ b ≠ 235) : Calls Tryz.prog 125 #[.int .i64 b] w fun e w' => e = .returned (.tuple #[.agg #[.int .i64 0, .int .i64 0, .bool false, .int .i64 0, .int .i64 0, .bool false], .int .i64 400]) ∧ Below w.heap.size w w' := by
  obtain ⟨h1, h2, h3, h4, h5, h6, h7, h8, h9, h10, h11, h12, h13, h14⟩ := h
  go_enter Tryz.func125, Tryz.ntmps125
  go_wp2
  refine bodyPost_ret (v := .tuple #[.agg #[.int .i64 0, .int .i64 0, .bool false, .int .i64 0, .int .i64 0, .bool false], .int .i64 400]) (by simp [results, Tryz.results125, go_sem]) rfl ⟨rfl, ?_⟩
  exact below_then (below_new _ _) (below_new _ _)
theorem tells_none {b : Int} {w w' : World} {e : Ending} (h : ¬ isOp b = true) (he : e = .returned (.tuple #[.agg #[.int .i64 0, .int .i64 0, .bool false, .int .i64 0, .int .i64 0, .bool false], .int .i64 400])) (hb : Below w.heap.size w w') : Tells b w e w' := by
  refine ⟨?_, hb⟩
  have h' := h
  rw [isOp_iff] at h'
  simp only [not_or] at h'
  obtain ⟨h1, h2, h3, h4, h5, h6, h7, h8, h9, h10, h11, h12, h13, h14⟩ := h'
  rw [he, opB, opE, if_neg h, if_neg h]
  simp [opA, opM, opD, opN, opI, *]
theorem of_any (b : Int) (w : World) : Calls Tryz.prog 125 #[.int .i64 b] w (Tells b w) := by
  by_cases h : isOp b = true
  · rcases (isOp_iff b).1 h with rfl | rfl | rfl | rfl | rfl | rfl | rfl | rfl | rfl | rfl | rfl | rfl | rfl | rfl
    · exact of_1 w
    · exact of_2 w
    · exact of_3 w
    · exact of_4 w
    · exact of_5 w
    · exact of_6 w
    · exact of_32 w
    · exact of_53 w
    · exact of_90 w
    · exact of_107 w
    · exact of_117 w
    · exact of_122 w
    · exact of_159 w
    · exact of_235 w
  · have h' := h
    rw [isOp_iff] at h'
    simp only [not_or] at h'
    exact (of_none b w h').mono fun e w' ⟨he, hb⟩ => tells_none h he hb
/-- A command: its own byte, and no error. -/
theorem of_yes (b : Int) (w : World) (h : isOp b = true) : Calls Tryz.prog 125 #[.int .i64 b] w fun e w' => e = .returned (.tuple #[.agg #[.int .i64 b, .int .i64 (opA b), .bool (opM b), .int .i64 (opD b), .int .i64 (opN b), .bool (opI b)], .int .i64 0]) ∧ Below w.heap.size w w' :=
  (of_any b w).mono fun e w' ⟨he, hb⟩ => ⟨by rw [he, opB, opE, if_pos h, if_pos h], hb⟩
/-- No command: nothing, and an error. -/
theorem of_no (b : Int) (w : World) (h : isOp b = false) : Calls Tryz.prog 125 #[.int .i64 b] w fun e w' => e = .returned (.tuple #[.agg #[.int .i64 0, .int .i64 0, .bool false, .int .i64 0, .int .i64 0, .bool false], .int .i64 400]) ∧ Below w.heap.size w w' := by
  have h' : ¬ isOp b = true := by rw [h]; decide
  rw [isOp_iff] at h'
  simp only [not_or] at h'
  exact of_none b w h'
end Go.Proofs.YtjhjghakfedeeaaGreat
end

/-! Bits of numbers, as sums and remainders: what a mask leaves, and two numbers that share no bit. No conditions but those of each statement. -/
section
namespace Go.Proofs.YtjhjghakfedeeaaGreat
open Go.RowKit

theorem ofInt_64 (n : Int) : ((BitVec.ofInt 64 n).toNat : Int) = n % 18446744073709551616 := by
  rw [BitVec.toNat_ofInt]
  have : (0 : Int) ≤ n % 18446744073709551616 := Int.emod_nonneg _ (by omega)
  show ((n % 18446744073709551616).toNat : Int) = _
  omega
/-- A mask of the lowest k bits. -/
theorem and_mask (n : Int) (k : Nat) (hk : k ≤ 62) : bits .and .i64 n (2 ^ k - 1) = n % 2 ^ k := by
  have hp : 2 ^ k ≤ 2 ^ 62 := Nat.pow_le_pow_right (by omega) hk
  have hp0 : 0 < 2 ^ k := Nat.pow_pos (by omega)
  have hpI : ((2 ^ k : Nat) : Int) = 2 ^ k := by norm_cast
  have e1 : (BitVec.ofInt 64 (2 ^ k - 1 : Int)).toNat = 2 ^ k - 1 := by
    have h := ofInt_64 (2 ^ k - 1 : Int)
    rw [← hpI] at h ⊢
    omega
  have e2 : (BitVec.ofInt 64 n).toNat % 2 ^ k = (n % 2 ^ k).toNat := by
    have h := ofInt_64 n
    have hd : ((2 ^ k : Nat) : Int) ∣ 18446744073709551616 := by
      have : 2 ^ k ∣ 2 ^ 64 := Nat.pow_dvd_pow 2 (by omega)
      rw [show (2 : Nat) ^ 64 = 18446744073709551616 from by decide] at this
      exact Int.ofNat_dvd.2 this
    have h2 : (((BitVec.ofInt 64 n).toNat % 2 ^ k : Nat) : Int) = n % ((2 ^ k : Nat) : Int) := by
      rw [Int.natCast_emod, h, Int.emod_emod_of_dvd _ hd]
    rw [← hpI, ← h2]
    rfl
  show IntKind.i64.wrap ((BitVec.ofInt 64 n &&& BitVec.ofInt 64 (2 ^ k - 1)).toNat : Int) = _
  rw [BitVec.toNat_and, e1, Nat.and_two_pow_sub_one_eq_mod, e2]
  have h3 : 0 ≤ n % (2 ^ k : Int) := by rw [← hpI]; exact Int.emod_nonneg _ (by omega)
  have h4 : n % (2 ^ k : Int) < ((2 ^ k : Nat) : Int) := by rw [← hpI]; exact Int.emod_lt_of_pos _ (by omega)
  rw [IntWalk.i64_in _ (by omega)]
  omega
theorem and_1 (n : Int) : bits .and .i64 n 1 = n % 2 := and_mask n 1 (by omega)
theorem and_15 (n : Int) : bits .and .i64 n 15 = n % 16 := and_mask n 4 (by omega)
theorem and_255 (n : Int) : bits .and .i64 n 255 = n % 256 := and_mask n 8 (by omega)
theorem and_1023 (n : Int) : bits .and .i64 n 1023 = n % 1024 := and_mask n 10 (by omega)
/-- Two numbers, the second below the first's lowest bit. -/
theorem or_add (x y : Int) (k : Nat) (hx : 0 ≤ x) (hk : x * 2 ^ k + 2 ^ k ≤ 4611686018427387904) (hy : 0 ≤ y) (hy2 : y < 2 ^ k) : bits .or .i64 (x * 2 ^ k) y = x * 2 ^ k + y := by
  obtain ⟨a, rfl⟩ := Int.eq_ofNat_of_zero_le hx
  obtain ⟨b, rfl⟩ := Int.eq_ofNat_of_zero_le hy
  have hpI : ((2 ^ k : Nat) : Int) = 2 ^ k := by norm_cast
  have hmul : ((a * 2 ^ k : Nat) : Int) = (a : Int) * 2 ^ k := by rw [Int.natCast_mul, hpI]
  rw [← hpI] at hy2
  rw [← hmul, ← hpI] at hk
  rw [← hmul]
  have e1 : (BitVec.ofInt 64 ((a * 2 ^ k : Nat) : Int)).toNat = a * 2 ^ k := by
    have h := ofInt_64 ((a * 2 ^ k : Nat) : Int)
    omega
  have e2 : (BitVec.ofInt 64 (b : Int)).toNat = b := by
    have h := ofInt_64 (b : Int)
    omega
  show IntKind.i64.wrap ((BitVec.ofInt 64 ((a * 2 ^ k : Nat) : Int) ||| BitVec.ofInt 64 (b : Int)).toNat : Int) = _
  rw [BitVec.toNat_or, e1, e2, show a * 2 ^ k ||| b = a * 2 ^ k + b from by rw [Nat.mul_comm]; exact (Nat.two_pow_add_eq_or_of_lt (by omega) a).symm]
  rw [IntWalk.i64_in _ (by omega)]
  omega
theorem or_two (x y : Int) (hx : 0 ≤ x) (hx2 : x < 1024) (hy : 0 ≤ y) (hy2 : y < 2) : bits .or .i64 (x * 2) y = x * 2 + y := or_add x y 1 hx (by omega) hy (by omega)
theorem or_sixteen (x y : Int) (hx : 0 ≤ x) (hx2 : x < 1024) (hy : 0 ≤ y) (hy2 : y < 16) : bits .or .i64 (x * 16) y = x * 16 + y := or_add x y 4 hx (by omega) hy (by omega)
end Go.Proofs.YtjhjghakfedeeaaGreat
end

/-! How a chip lies in memory: a block of 69 cells, field by field, and the durations in a row of their own; what a store and a call elsewhere leave of it. No conditions but those of each statement. -/
section
namespace Go.Proofs.YtjhjghakfedeeaaGreat
open Go.RowKit Plain
set_option linter.unusedVariables false

/-- The 32 bytes of data. -/
def dataCells (d : Nat → UInt8) : List Value := (List.range 32).map fun i => .int .u8 ((d i).toNat : Int)
def opCells (o : Op) : List Value := [.int .i64 (o.byte : Int), .int .i64 (o.addr : Int), .bool o.mode, .int .i64 (o.dummy : Int), .int .i64 (o.data : Int), .bool o.inn]
def cmdCells (k : Cmd) : List Value :=
  [.int .i64 (k.op.byte : Int), .int .i64 (k.op.addr : Int), .bool k.op.mode, .int .i64 (k.op.dummy : Int), .int .i64 (k.op.data : Int), .bool k.op.inn,
   .int .i64 (k.part : Int), .int .i64 (k.clocks : Int), .int .i64 (k.bits : Int), .int .i64 (k.adr : Int), .int .i64 (k.mode : Int), .int .i64 (k.count : Int)] ++ (dataCells k.data ++ [.int .i64 (k.said : Int)])
def likeT (b : Bool) : ByteArray := if b then sfdpT else ⟨#[]⟩
def oneIf (b : Bool) : Int := if b then 1 else 0
def workCells (s : St) : List Value := [.int .i64 (s.left : Int), .bool s.erases, .int .i64 (s.wat : Int), .string s.wdata]
def powCells (s : St) (ds : Value) : List Value :=
  [.bool s.sel, .bool s.en, .bool s.sus, .bool s.goes, ds, .int .i64 (s.left : Int), .bool s.erases, .int .i64 (s.wat : Int), .string s.wdata] ++ cmdCells s.k
def chipCells (s : St) (ds : Value) : List Value :=
  [.string s.A, .bool s.prot, .bool s.quad, .int .i64 (s.wipes 0), .int .i64 (s.wipes 1), .int .i64 (s.wipes 2), .int .i64 (s.wipes 3), .int .i64 (s.wipes 4), .int .i64 (s.wipes 5), .int .i64 (s.wipes 6), .int .i64 (s.wipes 7),
   .int .u32 (oneIf s.made), .int .i32 0, .int .u32 0, .string (likeT s.made)] ++ powCells s ds

/-- Block b holds the cells L, of an object of type T. -/
def Blk (w : World) (b : Nat) (T : TypeId) (L : List Value) : Prop := w.heap[b]? = some (.cells L.toArray T (0, 0))
/-- The chip s lies in block b; its durations' slice is ds. -/
def At (w : World) (b : Nat) (s : St) (ds : Value) : Prop := Blk w b 130 (chipCells s ds)

theorem Blk.lt {w : World} {b : Nat} {T : TypeId} {L : List Value} (h : Blk w b T L) : b < w.heap.size := by
  rcases Nat.lt_or_ge b w.heap.size with hlt | hge
  · exact hlt
  · unfold Blk at h; rw [Array.getElem?_eq_none hge] at h; cases h
theorem Blk.cell {w : World} {b : Nat} {T : TypeId} {L : List Value} (h : Blk w b T L) (i : Nat) {v : Value} (e : L[i]? = some v) : w.cell? ⟨b, i, none⟩ = some v := by
  unfold Blk at h
  unfold World.cell?
  simp [h, e]
theorem Blk.frozen {w : World} {b : Nat} {T : TypeId} {L : List Value} (h : Blk w b T L) (i : Nat) : w.frozen? ⟨b, i, none⟩ = false := by
  unfold Blk at h
  unfold World.frozen?
  simp [h]
theorem Blk.range {w : World} {b : Nat} {T : TypeId} {L : List Value} (h : Blk w b T L) (o : Nat) (cs : List Value) (e : (L.drop o).take cs.length = cs) : w.rangeAt b o cs := fun j v hv => by
  refine h.cell (o + j) ?_
  rw [← e, List.getElem?_take] at hv
  split at hv
  · rw [List.getElem?_drop] at hv; exact hv
  · cases hv
theorem Blk.there {w : World} {b : Nat} {T : TypeId} {L : List Value} (h : Blk w b T L) (o n : Nat) (hn : o + n ≤ L.length) : w.there b o n := fun j hj =>
  ⟨by rw [h.cell (o + j) (List.getElem?_eq_getElem (by omega))]; rfl, h.frozen _⟩
theorem Blk.set {w : World} {b : Nat} {T : TypeId} {L : List Value} (h : Blk w b T L) (i : Nat) (v : Value) : Blk (w.setCell ⟨b, i, none⟩ v) b T (L.set i v) := by
  have hl := h.lt
  unfold Blk at h ⊢
  unfold World.setCell
  simp [Array.getElem?_modify, h]
theorem Blk.sets {w : World} {b : Nat} {T : TypeId} {L : List Value} (h : Blk w b T L) (o : Nat) (vs : List Value) (hn : o + vs.length ≤ L.length) : Blk (w.setCells b o vs) b T (L.take o ++ vs ++ L.drop (o + vs.length)) := by
  induction vs generalizing w L o with
  | nil => simpa [World.setCells] using h
  | cons v r ih =>
    have h1 := ih (h.set o v) (o + 1) (by simp at hn ⊢; omega)
    have e : (L.set o v).take (o + 1) ++ r ++ (L.set o v).drop (o + 1 + r.length) = L.take o ++ v :: r ++ L.drop (o + (v :: r).length) := by
      have ho : o < L.length := by simp at hn; omega
      rw [List.take_set, List.drop_set_of_lt (by omega), show (L.take (o + 1)).set o v = L.take o ++ [v] from ?_]
      · simp [Nat.add_assoc, Nat.add_comm 1]
      · rw [← List.take_append_getElem ho, List.set_append_right _ _ (by simp; omega), List.length_take, Nat.min_eq_left (Nat.le_of_lt ho), Nat.sub_self]
        rfl
    rw [e] at h1
    exact h1
theorem Blk.other {w : World} {b : Nat} {T : TypeId} {L : List Value} (h : Blk w b T L) (c i : Nat) (v : Value) (hc : c ≠ b) : Blk (w.setCell ⟨c, i, none⟩ v) b T L := by
  unfold Blk at h ⊢
  rw [Below.heap_setCell _ _ _ _ (by exact Ne.symm hc)]
  exact h
theorem Blk.below {w w' : World} {b : Nat} {T : TypeId} {L : List Value} (h : Blk w b T L) (hb : Below w.heap.size w w') : Blk w' b T L := by
  have hl := h.lt
  unfold Blk at h ⊢
  rw [hb.block b hl]
  exact h
theorem Blk.alloc {w : World} {b : Nat} {T : TypeId} {L : List Value} (h : Blk w b T L) (o : Obj) : Blk (w.alloc o) b T L := h.below ((Below.refl _ _).alloc (Nat.le_refl _) _)
theorem Blk.drew {w : World} {b : Nat} {T : TypeId} {L : List Value} (h : Blk w b T L) : Blk w.drew b T L := h
theorem Blk.new (w : World) (T : TypeId) (L : List Value) (cs : Array Value) (e : cs = L.toArray) : Blk (w.alloc (.cells cs T)) w.heap.size T L := by
  subst e
  unfold Blk
  exact heap_alloc_new _ _

/-- Nothing of the blocks that were there turned, but block b. -/
structure Only (b : Nat) (w w' : World) : Prop where
  os : w'.os = w.os
  tape : w'.tape = w.tape
  output : w'.output = w.output
  size : w.heap.size ≤ w'.heap.size
  block : ∀ k, k < w.heap.size → k ≠ b → w'.heap[k]? = w.heap[k]?
theorem Only.refl (b : Nat) (w : World) : Only b w w := ⟨rfl, rfl, rfl, Nat.le_refl _, fun _ _ _ => rfl⟩
theorem Only.trans {b : Nat} {u v w : World} (h : Only b u v) (k : Only b v w) : Only b u w :=
  ⟨k.os.trans h.os, k.tape.trans h.tape, k.output.trans h.output, Nat.le_trans h.size k.size, fun i hi hb => (k.block i (Nat.lt_of_lt_of_le hi h.size) hb).trans (h.block i hi hb)⟩
theorem Only.of_below {b : Nat} {v w : World} (h : Below v.heap.size v w) : Only b v w := ⟨h.os, h.tape, h.output, h.size, fun i hi _ => h.block i hi⟩
theorem Only.below {b : Nat} {u v w : World} (h : Only b u v) (k : Below v.heap.size v w) : Only b u w := h.trans (Only.of_below k)
theorem Only.set {b : Nat} {u v : World} (h : Only b u v) (i : Nat) (x : Value) : Only b u (v.setCell ⟨b, i, none⟩ x) :=
  ⟨h.os, h.tape, h.output, by simpa using h.size, fun j hj hb => by rw [Below.heap_setCell _ _ _ _ (by exact hb)]; exact h.block j hj hb⟩
theorem Only.sets {b : Nat} {u v : World} (h : Only b u v) (o : Nat) (vs : List Value) : Only b u (v.setCells b o vs) := by
  induction vs generalizing v o with
  | nil => exact h
  | cons x r ih => exact ih (h.set o x) (o + 1)
theorem Only.alloc {b : Nat} {u v : World} (h : Only b u v) (o : Obj) : Only b u (v.alloc o) := h.below ((Below.refl _ _).alloc (Nat.le_refl _) _)
theorem Only.drew {b : Nat} {u v : World} (h : Only b u v) : Only b u v.drew := ⟨h.os, h.tape, h.output, h.size, h.block⟩
theorem Only.drewN {b : Nat} {u v : World} (h : Only b u v) (n : Nat) : Only b u (v.drewN n) := h.below (below_drewN (Below.refl _ _) n)
/-- Where block b is one of the call's own, nothing that was there turned. -/
theorem Only.old {b B : Nat} {u v : World} (h : Only b u v) (hb : B ≤ b) (hB : B ≤ u.heap.size) : Below B u v := ⟨h.os, h.tape, h.output, h.size, fun i hi => h.block i (by omega) (by omega)⟩
theorem Only.blk {b c : Nat} {u v : World} {T : TypeId} {L : List Value} (h : Only b u v) (k : Blk u c T L) (hc : c ≠ b) : Blk v c T L := by
  have hl := k.lt
  unfold Blk at k ⊢
  rw [h.block c hl hc]
  exact k
theorem Only.cell {b : Nat} {u v : World} (h : Only b u v) {p : Addr} (hp : p.block < u.heap.size) (hb : p.block ≠ b) : v.cell? p = u.cell? p := World.cell?_of_block (w := u) (h.block p.block hp hb)

/-- The durations: the slice reads as they are, and lies elsewhere. -/
def Durs (w : World) (b : Nat) (ds : Value) (L : List Int) : Prop := Reads w ds L ∧ (∀ g o n c, ds = .slice (some ⟨g, o, none⟩) n c → 0 < L.length → g ≠ b) ∧ ∀ a n c, ds = .slice a n c → n ≤ c
theorem Durs.only {b : Nat} {u v : World} {ds : Value} {L : List Int} (h : Durs u b ds L) (k : Only b u v) : Durs v b ds L := by
  refine ⟨?_, h.2⟩
  obtain ⟨a, cap, rfl, hr⟩ := h.1
  refine ⟨a, cap, rfl, fun h0 => ?_⟩
  obtain ⟨g, o, rfl, hc⟩ := hr h0
  refine ⟨g, o, rfl, fun j hj => ?_⟩
  have hg : g ≠ b := h.2.1 g o _ _ rfl h0
  rw [k.cell (cell_lt (hc j hj)) hg]
  exact hc j hj
/-- The chip s lies in block b. -/
def Chip (w : World) (b : Nat) (s : St) : Prop := ∃ ds, At w b s ds ∧ Durs w b ds s.durs
theorem Chip.lt {w : World} {b : Nat} {s : St} (h : Chip w b s) : b < w.heap.size := by
  obtain ⟨ds, h1, _⟩ := h; exact Blk.lt h1
theorem Chip.below {w w' : World} {b : Nat} {s : St} (h : Chip w b s) (hb : Below w.heap.size w w') : Chip w' b s := by
  obtain ⟨ds, h1, h2⟩ := h
  exact ⟨ds, Blk.below h1 hb, h2.only (Only.of_below hb)⟩
theorem Chip.only {w w' : World} {b c : Nat} {s : St} (h : Chip w b s) (hb : Only c w w') (hc : b ≠ c) (hd : ∀ ds, At w b s ds → ∀ g o n k, ds = .slice (some ⟨g, o, none⟩) n k → 0 < s.durs.length → g ≠ c) : Chip w' b s := by
  obtain ⟨ds, h1, h2⟩ := h
  refine ⟨ds, hb.blk h1 hc, ?_, h2.2⟩
  have h3 := hd ds h1
  obtain ⟨a, cap, rfl, hr⟩ := h2.1
  refine ⟨a, cap, rfl, fun h0 => ?_⟩
  obtain ⟨g, o, rfl, hcell⟩ := hr h0
  refine ⟨g, o, rfl, fun j hj => ?_⟩
  rw [hb.cell (cell_lt (hcell j hj)) (h3 g o _ _ rfl h0)]
  exact hcell j hj
end Go.Proofs.YtjhjghakfedeeaaGreat
end

/-! The small calls of package chip: is something under way, lanes and clocks of a part, has the chip the word, is a command whole; each by a contract. Conditions: the chip, or the command, lies in memory as told. -/
section
namespace Go.Proofs.YtjhjghakfedeeaaGreat
open Go.RowKit Plain
set_option linter.unusedVariables false

theorem goes_any (n : Nat) (er : Bool) (a : Nat) (d : ByteArray) (w : World) :
    Calls Tryz.prog 68 #[.agg #[.int .i64 (n : Int), .bool er, .int .i64 (a : Int), .string d]] w fun e w' => e = .returned (.bool (decide (0 < n))) ∧ Below w.heap.size w w' := by
  go_enter Tryz.func68, Tryz.ntmps68
  go_wp2
  go_ret
  exact ⟨rfl, below_new _ _⟩

theorem busy_any (b : Nat) (s : St) (ds : Value) (w : World) (h : At w b s ds) :
    Calls Tryz.prog 108 #[.pointer (some ⟨b, 0, none⟩)] w fun e w' => e = .returned (.bool s.busy) ∧ Below w.heap.size w w' := by
  have c20 : w.cell? ⟨b, 20, none⟩ = some (.int .i64 (s.left : Int)) := Blk.cell h 20 rfl
  have c21 : w.cell? ⟨b, 21, none⟩ = some (.bool s.erases) := Blk.cell h 21 rfl
  have c22 : w.cell? ⟨b, 22, none⟩ = some (.int .i64 (s.wat : Int)) := Blk.cell h 22 rfl
  have c23 : w.cell? ⟨b, 23, none⟩ = some (.string s.wdata) := Blk.cell h 23 rfl
  cases e : decide (0 < s.left) with
  | false =>
    have e1 : s.busy = false := by unfold St.busy; rw [e]; rfl
    rw [e1]
    go_enter Tryz.func108, Tryz.ntmps108
    go_wp2_with (go_at_call 68; refine (goes_any _ _ _ _ _).mono ?_; rintro e w' ⟨rfl, b1⟩)
    go_ret
    exact ⟨rfl, b1⟩
  | true =>
    have e1 : s.busy = !s.sus := by unfold St.busy; rw [e]; rfl
    rw [e1]
    go_enter Tryz.func108, Tryz.ntmps108
    go_wp2_with (go_at_call 68; refine (goes_any _ _ _ _ _).mono ?_; rintro e w' ⟨rfl, b1⟩; have c17 : w'.cell? ⟨b, 17, none⟩ = some (.bool s.sus) := Blk.cell (Blk.below h b1) 17 rfl)
    go_ret
    exact ⟨rfl, b1⟩

theorem over_any (l n : Nat) (w : World) (hl : l = 0 ∨ l = 1 ∨ l = 4) (hn : n ≤ 24) :
    Calls Tryz.prog 152 #[.int .i64 (l : Int), .int .i64 (n : Int)] w fun e w' => e = .returned (.tuple #[.int .i64 ((over l n).1 : Int), .int .i64 ((over l n).2 : Int)]) ∧ Below w.heap.size w w' := by
  rcases hl with rfl | rfl | rfl
  · go_enter Tryz.func152, Tryz.ntmps152
    go_wp2
    go_ret2
    exact ⟨rfl, Below.refl _ _⟩
  · have e1 : (over 1 n) = (1, n) := by simp [over]
    rw [e1]
    go_enter Tryz.func152, Tryz.ntmps152
    go_wp2
    go_quiet (fail)
    go_wp2
    go_ret2
    exact ⟨rfl, below_drewN (Below.refl _ _) _⟩
  · have e1 : (over 4 n) = (4, n / 4) := by simp [over]
    rw [e1]
    go_enter Tryz.func152, Tryz.ntmps152
    go_wp2
    go_quiet (fail)
    go_wp2
    go_ret2
    exact ⟨rfl, below_drewN (Below.refl _ _) _⟩

theorem over_at (x y : Int) (l n : Nat) (w : World) (hx : x = (l : Int)) (hy : y = (n : Int)) (hl : l = 0 ∨ l = 1 ∨ l = 4) (hn : n ≤ 24) :
    Calls Tryz.prog 152 #[.int .i64 x, .int .i64 y] w fun e w' => e = .returned (.tuple #[.int .i64 ((over l n).1 : Int), .int .i64 ((over l n).2 : Int)]) ∧ Below w.heap.size w w' := by
  subst hx hy; exact over_any l n w hl hn

set_option maxHeartbeats 400000 in
theorem split_any (b o : Nat) (k : Cmd) (w : World) (h : w.rangeAt b o (cmdCells k)) (hk : k.op.Ok) (hp : k.part ≤ 5) :
    Calls Tryz.prog 128 #[.pointer (some ⟨b, o, none⟩)] w fun e w' => e = .returned (.tuple #[.int .i64 (k.split.1 : Int), .int .i64 (k.split.2 : Int)]) ∧ Below w.heap.size w w' := by
  have c1 : w.cell? ⟨b, o + 1, none⟩ = some (.int .i64 (k.op.addr : Int)) := h 1 _ rfl
  have c2 : w.cell? ⟨b, o + 2, none⟩ = some (.bool k.op.mode) := h 2 _ rfl
  have c3 : w.cell? ⟨b, o + 3, none⟩ = some (.int .i64 (k.op.dummy : Int)) := h 3 _ rfl
  have c4 : w.cell? ⟨b, o + 4, none⟩ = some (.int .i64 (k.op.data : Int)) := h 4 _ rfl
  have hd := hk.dummy
  have ha := hk.addr
  have hD := hk.data
  rcases (by omega : k.part = 0 ∨ k.part = 1 ∨ k.part = 2 ∨ k.part = 3 ∨ k.part = 4 ∨ k.part = 5) with e | e | e | e | e | e
  · have e1 : k.split = over 1 8 := by simp [Cmd.split, splitO, e, over]
    have c6 : w.cell? ⟨b, o + 6, none⟩ = some (.int .i64 0) := by rw [h 6 _ rfl, e]; rfl
    rw [e1]
    go_enter Tryz.func128, Tryz.ntmps128
    go_wp2_with (go_at_call 152; refine (over_at 1 8 1 8 _ rfl rfl (by decide) (by decide)).mono ?_; rintro e w' ⟨rfl, b1⟩)
    go_ret2
    exact ⟨rfl, b1⟩
  · have e1 : k.split = over k.op.addr 24 := by simp [Cmd.split, splitO, e]
    have c6 : w.cell? ⟨b, o + 6, none⟩ = some (.int .i64 1) := by rw [h 6 _ rfl, e]; rfl
    rw [e1]
    go_enter Tryz.func128, Tryz.ntmps128
    go_wp2_with (go_at_call 152; refine (over_at _ 24 k.op.addr 24 _ rfl rfl ha (by decide)).mono ?_; rintro e w' ⟨rfl, b1⟩)
    go_ret2
    exact ⟨rfl, b1⟩
  · have c6 : w.cell? ⟨b, o + 6, none⟩ = some (.int .i64 2) := by rw [h 6 _ rfl, e]; rfl
    cases em : k.op.mode with
    | false =>
      have e1 : k.split = (0, 0) := by simp [Cmd.split, splitO, e, em]
      rw [e1]
      rw [em] at c2
      go_enter Tryz.func128, Tryz.ntmps128
      go_wp2
      go_ret2
      exact ⟨rfl, Below.refl _ _⟩
    | true =>
      have e1 : k.split = over k.op.addr 8 := by simp [Cmd.split, splitO, e, em]
      rw [e1]
      rw [em] at c2
      go_enter Tryz.func128, Tryz.ntmps128
      go_wp2_with (go_at_call 152; refine (over_at _ 8 k.op.addr 8 _ rfl rfl ha (by decide)).mono ?_; rintro e w' ⟨rfl, b1⟩)
      go_ret2
      exact ⟨rfl, b1⟩
  · have e1 : k.split = over 1 k.op.dummy := by simp [Cmd.split, splitO, e, over]
    have c6 : w.cell? ⟨b, o + 6, none⟩ = some (.int .i64 3) := by rw [h 6 _ rfl, e]; rfl
    rw [e1]
    go_enter Tryz.func128, Tryz.ntmps128
    go_wp2_with (go_at_call 152; refine (over_at 1 _ 1 k.op.dummy _ rfl rfl (by decide) (by omega)).mono ?_; rintro e w' ⟨rfl, b1⟩)
    go_ret2
    exact ⟨rfl, b1⟩
  · have e1 : k.split = over k.op.data 8 := by simp [Cmd.split, splitO, e]
    have c6 : w.cell? ⟨b, o + 6, none⟩ = some (.int .i64 4) := by rw [h 6 _ rfl, e]; rfl
    rw [e1]
    go_enter Tryz.func128, Tryz.ntmps128
    go_wp2_with (go_at_call 152; refine (over_at _ 8 k.op.data 8 _ rfl rfl hD (by decide)).mono ?_; rintro e w' ⟨rfl, b1⟩)
    go_ret2
    exact ⟨rfl, b1⟩
  · have e1 : k.split = (0, 0) := by simp [Cmd.split, splitO, e]
    have c6 : w.cell? ⟨b, o + 6, none⟩ = some (.int .i64 5) := by rw [h 6 _ rfl, e]; rfl
    rw [e1]
    go_enter Tryz.func128, Tryz.ntmps128
    go_wp2
    go_ret2
    exact ⟨rfl, Below.refl _ _⟩

theorem speaks_any (b o : Nat) (k : Cmd) (w : World) (h : w.rangeAt b o (cmdCells k)) :
    Calls Tryz.prog 96 #[.pointer (some ⟨b, o, none⟩)] w fun e w' => e = .returned (.bool k.speaks) ∧ w = w' := by
  have c5 : w.cell? ⟨b, o + 5, none⟩ = some (.bool k.op.inn) := h 5 _ rfl
  have c6 : w.cell? ⟨b, o + 6, none⟩ = some (.int .i64 (k.part : Int)) := h 6 _ rfl
  by_cases e : k.part = 4
  · have e1 : k.speaks = !k.op.inn := by simp [Cmd.speaks, e]
    rw [e1]
    rw [e] at c6
    go_enter Tryz.func96, Tryz.ntmps96
    go_wp2
    go_ret
    exact ⟨rfl, rfl⟩
  · have e1 : k.speaks = false := by simp [Cmd.speaks, e]
    have e2 : ((k.part : Int) == 4) = false := beq_eq_false_iff_ne.2 (by omega)
    rw [e1]
    go_enter Tryz.func96, Tryz.ntmps96
    go_wp2
    go_ret
    exact ⟨rfl, rfl⟩
theorem whole_any (b o : Nat) (k : Cmd) (w : World) (h : w.rangeAt b o (cmdCells k)) :
    Calls Tryz.prog 101 #[.pointer (some ⟨b, o, none⟩)] w fun e w' => e = .returned (.bool k.whole) ∧ w = w' := by
  have c6 : w.cell? ⟨b, o + 6, none⟩ = some (.int .i64 (k.part : Int)) := h 6 _ rfl
  have c7 : w.cell? ⟨b, o + 7, none⟩ = some (.int .i64 (k.clocks : Int)) := h 7 _ rfl
  by_cases e : 4 ≤ k.part
  · have e0 : decide (4 ≤ k.part) = true := decide_eq_true e
    by_cases e' : k.clocks = 0
    · have e1 : k.whole = true := by simp [Cmd.whole, e, e']
      rw [e1]
      rw [e'] at c7
      go_enter Tryz.func101, Tryz.ntmps101
      go_wp2
      go_ret
      exact ⟨rfl, rfl⟩
    · have e1 : k.whole = false := by simp [Cmd.whole, e']
      have e2 : ((k.clocks : Int) == 0) = false := beq_eq_false_iff_ne.2 (by omega)
      rw [e1]
      go_enter Tryz.func101, Tryz.ntmps101
      go_wp2
      go_ret
      exact ⟨rfl, rfl⟩
  · have e1 : k.whole = false := by simp [Cmd.whole, e]
    have e0 : decide (4 ≤ k.part) = false := decide_eq_false e
    rw [e1]
    go_enter Tryz.func101, Tryz.ntmps101
    go_wp2
    go_ret
    exact ⟨rfl, rfl⟩
end Go.Proofs.YtjhjghakfedeeaaGreat
end
