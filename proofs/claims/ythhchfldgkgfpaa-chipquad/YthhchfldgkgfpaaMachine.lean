/-
  The chip as a plain machine: what it holds, and what each call makes of it, in words of numbers, bytes and texts. Nothing of the program is named here.
-/
import Derived.Test.YthhchfldgkgfpaaPlain
import Derived.Test.YthhchfldgkgfpaaInts
namespace Go.Proofs.Ythhchfldgkgfpaa
open Go.RowKit Plain

/-- A command and its parts. -/
structure Op where
  byte : Nat
  addr : Nat
  mode : Bool
  dummy : Nat
  data : Nat
  inn : Bool
/-- None. -/
def noOp : Op := ⟨0, 0, false, 0, 0, false⟩
/-- The command that has the byte b. -/
def opOf (b : Nat) : Op :=
  if b = 1 then ⟨1, 0, false, 0, 1, true⟩ else if b = 2 then ⟨2, 1, false, 0, 1, true⟩ else if b = 3 then ⟨3, 1, false, 0, 1, false⟩ else if b = 4 then ⟨4, 0, false, 0, 0, false⟩ else
  if b = 5 then ⟨5, 0, false, 0, 1, false⟩ else if b = 6 then ⟨6, 0, false, 0, 0, false⟩ else if b = 32 then ⟨32, 1, false, 0, 0, false⟩ else if b = 53 then ⟨53, 0, false, 0, 1, false⟩ else
  if b = 90 then ⟨90, 1, false, 8, 1, false⟩ else if b = 107 then ⟨107, 1, false, 8, 4, false⟩ else if b = 117 then ⟨117, 0, false, 0, 0, false⟩ else if b = 122 then ⟨122, 0, false, 0, 0, false⟩ else
  if b = 159 then ⟨159, 0, false, 0, 1, false⟩ else if b = 235 then ⟨235, 4, true, 4, 4, false⟩ else noOp

/-- What has come of a command. -/
structure Cmd where
  op : Op
  part : Nat
  clocks : Nat
  bits : Nat
  adr : Nat
  mode : Nat
  count : Nat
  data : Nat → UInt8
  said : Nat
/-- Nothing. -/
def noCmd : Cmd := ⟨noOp, 0, 0, 0, 0, 0, 0, fun _ => 0, 0⟩

/-- A chip. -/
structure St where
  A : ByteArray
  prot : Bool
  quad : Bool
  wipes : Nat → Int
  made : Bool
  sel : Bool
  en : Bool
  sus : Bool
  goes : Bool
  durs : List Int
  left : Nat
  erases : Bool
  wat : Nat
  wdata : ByteArray
  k : Cmd
/-- .. with another command. -/
def St.setK (s : St) (k : Cmd) : St := { s with k := k }
/-- A new one. -/
def newSt (a : ByteArray) : St := ⟨a, false, false, fun _ => 0, false, false, false, false, false, [], 0, false, 0, ⟨#[]⟩, noCmd⟩

/-- What a chip is like, as bytes. -/
def sfdpL : List UInt8 := [83, 70, 68, 80, 6, 1, 0, 255, 0, 16, 0, 0, 0, 2, 0, 0, 32, 0, 0, 0] ++ List.replicate 12 255
def sfdpT : ByteArray := ⟨sfdpL.toArray⟩
def idT : ByteArray := ⟨#[239, 64, 12]⟩

/-- Lanes and clocks. -/
def over (l n : Nat) : Nat × Nat := if l = 0 then (0, 0) else (l, n / l)
def splitO (o : Op) (p : Nat) : Nat × Nat :=
  if p = 0 then (1, 8) else if p = 1 then over o.addr 24 else if p = 2 then (if o.mode then over o.addr 8 else (0, 0)) else if p = 3 then (1, o.dummy) else if p = 4 then over o.data 8 else (0, 0)
def Cmd.split (k : Cmd) : Nat × Nat := splitO k.op k.part
/-- The next part that the command has. -/
def nextPart (o : Op) (p : Nat) : Nat :=
  if p < 1 ∧ 0 < (splitO o 1).2 then 1 else if p < 2 ∧ 0 < (splitO o 2).2 then 2 else if p < 3 ∧ 0 < (splitO o 3).2 then 3 else if p < 4 ∧ 0 < (splitO o 4).2 then 4 else 5
def Cmd.turn (k : Cmd) : Cmd := { k with clocks := 0, bits := 0, part := nextPart k.op k.part }
def Cmd.whole (k : Cmd) : Bool := decide (4 ≤ k.part) && decide (k.clocks = 0)
def Cmd.speaks (k : Cmd) : Bool := decide (k.part = 4) && !k.op.inn
/-- A page's bytes. -/
def Cmd.page (k : Cmd) : ByteArray := tab 32 fun j => if (j + 32 - k.adr % 32) % 32 < min k.count 32 then k.data ((j + 32 - k.adr % 32) % 32) else 255
def Cmd.around (k : Cmd) (t : ByteArray) : Nat := (ub t ((k.adr + k.count) % t.size)).toNat

def St.busy (s : St) : Bool := decide (0 < s.left) && !s.sus
def bitIf (b : Bool) (n : Nat) : Nat := if b then n else 0
def St.first (s : St) : Nat := bitIf s.busy 1 + bitIf s.en 2 + bitIf s.prot 4
def St.second (s : St) : Nat := bitIf s.quad 2 + bitIf s.sus 128
/-- What comes of what is under way, of whose bits those of the mask are done. -/
def St.on (s : St) (m : ByteArray) : ByteArray := if s.erases then erase s.A (s.wat / 512) m else prog s.A s.wat s.wdata m
def St.countDown (s : St) : St :=
  if s.busy then (if 0 < s.left - 1 then { s with left := s.left - 1 } else { s with A := s.on ⟨#[255]⟩, left := 0, erases := false, wat := 0, wdata := ⟨#[]⟩, en := false }) else s
def St.takes (s : St) (b : Nat) : Bool :=
  if b = 5 ∨ b = 53 ∨ b = 117 then true else if b = 1 ∨ b = 2 ∨ b = 32 then !decide (0 < s.left) else if b = 107 ∨ b = 235 then s.quad && !s.busy else !s.busy
def St.take (s : St) (b : Nat) : St := s.setK (Cmd.turn (if s.takes b then { s.k with op := opOf b } else s.k))
def St.complete (s : St) : St :=
  if s.k.part = 0 then s.take s.k.bits
  else if s.k.part = 1 then s.setK (Cmd.turn { s.k with adr := s.k.bits % 4096 })
  else if s.k.part = 2 then s.setK (Cmd.turn { s.k with mode := s.k.bits })
  else if s.k.part = 4 then s.setK { s.k with data := fun j => if j = s.k.count % 32 then UInt8.ofNat s.k.bits else s.k.data j, count := s.k.count + 1, clocks := 0, bits := 0 }
  else s.setK s.k.turn
/-- A clock's bits come in. -/
def Cmd.came (k : Cmd) (x : Nat) : Cmd := { k with bits := k.bits * 2 ^ k.split.1 + x % 2 ^ k.split.1, clocks := k.clocks + 1 }
def St.hear (s : St) (x : Nat) : St :=
  if s.k.clocks + 1 = s.k.split.2 then (s.setK (s.k.came x)).complete else s.setK (s.k.came x)
def St.dataByte (s : St) : Nat :=
  if s.k.op.byte = 159 then s.k.around idT else if s.k.op.byte = 5 then s.first else if s.k.op.byte = 53 then s.second else if s.k.op.byte = 90 then s.k.around sfdpT else s.k.around s.A
/-- The chip behind the byte that begins was looked up. -/
def St.looked (s : St) : St := if s.k.op.byte = 90 then { s with made := true } else s
def St.begun (s : St) : St := if s.k.clocks = 0 then s.looked.setK { s.k with said := s.dataByte } else s
def tellBits (said c l : Nat) : Nat := said / 2 ^ (8 - c * l) % 2 ^ l
def tellOut (o l : Nat) : Nat := if l = 1 then 13 + 2 * o else o
/-- A clock's bits are told. -/
def Cmd.told (k : Cmd) : Cmd := if k.clocks + 1 = k.split.2 then { k with clocks := 0, count := k.count + 1 } else { k with clocks := k.clocks + 1 }
def St.tell (s : St) : St × Nat :=
  (s.begun.setK s.begun.k.told, tellOut (tellBits s.begun.k.said (s.k.clocks + 1) s.k.split.1) s.k.split.1)
def St.heard (s : St) (x : Nat) : St × Nat := if s.sel = false then (s, 15) else if s.k.speaks then s.tell else (s.hear x, 15)
def St.clock (s : St) (x : Nat) : St × Nat := s.countDown.heard x

def St.select (s : St) : St := if s.goes then { s with sel := true }.take 235 else { s with sel := true }
def St.begin (s : St) (er : Bool) (a : Nat) (d : ByteArray) : St :=
  if s.en = false then s
  else if s.prot && decide (a < 2048) then { s with en := false }
  else { s with left := (s.durs.headD 8).toNat, durs := s.durs.tail, erases := er, wat := a, wdata := d, wipes := if er then (fun i => if i = a / 512 then wrap64 (s.wipes i + 1) else s.wipes i) else s.wipes }
def St.putStatus (s : St) (k : Cmd) : St :=
  if s.en = true ∧ k.count = 2 then { s with prot := decide ((k.data 0).toNat / 4 % 2 = 1), quad := decide ((k.data 1).toNat / 2 % 2 = 1), en := false } else s
def St.obey (s : St) (k : Cmd) : St :=
  if k.op.byte = 6 then { s with en := true }
  else if k.op.byte = 4 then { s with en := false }
  else if k.op.byte = 117 then { s with sus := decide (0 < s.left) && s.erases }
  else if k.op.byte = 122 then { s with sus := false }
  else if k.op.byte = 1 then s.putStatus k
  else if k.op.byte = 2 then (if 0 < k.count then s.begin false (k.adr - k.adr % 32) k.page else s)
  else if k.op.byte = 32 then s.begin true k.adr ⟨#[]⟩
  else s
def St.ended (s : St) : St := { s with sel := false, k := noCmd, goes := decide (s.k.mode = 160) }
def St.deselect (s : St) : St := if s.k.whole then s.ended.obey s.k else s.ended
def St.next (s : St) (L : List Int) : St := { s with durs := L }
def St.loss (s : St) (m : ByteArray) : St :=
  { s with A := if 0 < s.left then s.on m else s.A, sel := false, en := false, sus := false, goes := false, durs := [], left := 0, erases := false, wat := 0, wdata := ⟨#[]⟩, k := noCmd }

/-- A command's parts, as they may be. -/
structure Op.Ok (o : Op) : Prop where
  byte : o.byte < 256
  addr : o.addr = 0 ∨ o.addr = 1 ∨ o.addr = 4
  dummy : o.dummy ≤ 8
  data : o.data = 0 ∨ o.data = 1 ∨ o.data = 4
  inn : o.inn = true → o.data = 1
/-- What has come, as it may be, behind at most n clocks. -/
structure Cmd.Ok (n : Nat) (k : Cmd) : Prop where
  op : k.op.Ok
  part : k.part ≤ 5
  clocks : k.clocks ≤ n
  count : k.count ≤ n
  adr : k.adr < 4096
  mode : k.mode < 256
  said : k.said < 256
  small : k.bits < 16777216
  bits : k.part < 4 → k.bits < 2 ^ (k.clocks * k.split.1)
  some : k.part < 4 → k.clocks < k.split.2
  data : k.part = 4 → k.clocks < k.split.2 ∧ 0 < k.split.2 ∧ (k.op.inn = true → k.bits < 2 ^ k.clocks)
/-- A chip, as it may be. -/
structure St.Ok (n : Nat) (s : St) : Prop where
  A : s.A.size = 4096
  durs : ∀ d ∈ s.durs, 1 ≤ d ∧ d ≤ 400
  left : s.left ≤ 400
  wat : s.wat < 4096
  wdata : s.wat + s.wdata.size ≤ 4096
  k : s.k.Ok n
end Go.Proofs.Ythhchfldgkgfpaa
