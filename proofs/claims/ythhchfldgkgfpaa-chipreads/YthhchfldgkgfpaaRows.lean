/-
  No cell of these rows narrows 'for every input' (looked for: loops, veiled, ifaces, maps, wideKeys, modest, calm, conditions, laid).
  DERIVED. THE GIVEN ROWS OF THIS SEAT. 9 by the template 'for every input the law returns true; each argument reads behind the call as it read before'; 0 by the template 'total and deterministic' (their statements: YthhchfldgkgfpaaTotals.lean).
  GIVEN WITH THE SEED: the statements are not yours to turn. If you find one false, say at which input.
  Laid BY PROGRAM, IN A SANDBOX (cutbox-rows.mjs): the forced cells as the released guide's own fill.sh prints them over the translation 0664037ba083a8f9… (all of the seat's roots in one cut). By AI agents, Wed Nov 11 2026. No macro, syntax, notation, axiom, sorry.
-/
import Derived.Test.YthhchfldgkgfpaaChecked
import GoSem.Claim
import GoSem.ClaimJoined
import GoSem.ClaimMapViews
import Derived.JoinedTies
import Derived.KernelRfl
namespace Go.Proofs.Ythhchfldgkgfpaa
/- THE CELL 'sum', in the pinned program and in every row, IS THE sha256 OF THE DUMP (.gsa) THAT YthhchfldgkgfpaaProg.lean LOADS. Nothing in Lean hashes anything: it is a label: what it is worth is what the hold of that sum in a sandbox is worth. -/
noncomputable def Try.pinned : Pinned := { name := "ythhchfldgkgfpaa", sum := "0664037ba083a8f9217c9180a47c67c8b7c971fa900c7a9715b5a840cc0f3113", checked := Try.checked }
namespace Rows
def none {H : Type} : Left H := { results := [], args := [] }

/-- 'lichenlaw6.ChipReads': WHATEVER THE INPUT: true; the input reads as it did. -/
def chipReadsSpec : ChangeSpec := { name := "chipReads", fn := fun _ => fun
  | [d1, d2, d3] => { results := [.lit (.bool true)], args := [d1, d2, d3] }
  | _ => none }
def chipReadsRow : OpenClaim := { program := "ythhchfldgkgfpaa", sum := "0664037ba083a8f9217c9180a47c67c8b7c971fa900c7a9715b5a840cc0f3113", func := "lichen/lichenlaw6.ChipReads", spec := "chipReads", inPlace := ["internal/abi.NoEscape", "internal/bytealg.MakeNoZero", "sync/atomic.LoadUint32", "(*internal/sync.Mutex).Lock", "internal/race.Disable", "sync/atomic.CompareAndSwapInt32", "internal/race.Enable", "internal/race.Acquire", "(*internal/sync.Mutex).lockSlow", "internal/sync.runtime_canSpin", "internal/sync.runtime_doSpin", "internal/sync.throw", "internal/sync.runtime_nanotime", "internal/sync.runtime_SemacquireMutex", "sync/atomic.AddInt32", "(*internal/sync.Mutex).Unlock", "internal/race.ReleaseMerge", "(*internal/sync.Mutex).unlockSlow", "internal/sync.fatal", "internal/sync.runtime_Semrelease", "sync/atomic.StoreUint32"], unfollowed := true, recurses := true, apart := false }
def ChipReadsSaid : Prop := chipReadsRow.holds Try.pinned (OpenSpec.ofChange chipReadsSpec)

/-- ITS FALSE NEIGHBOUR: 'it returns false'. Refute it at one input. -/
def chipReadsWrong : ChangeSpec := { name := "chipReads", fn := fun _ => fun
  | [d1, d2, d3] => { results := [.lit (.bool false)], args := [d1, d2, d3] }
  | _ => none }
def ChipReadsWrongFalsely : Prop := chipReadsRow.holds Try.pinned (OpenSpec.ofChange chipReadsWrong)

/-- 'lichenlaw6.ChipPages': WHATEVER THE INPUT: true; the input reads as it did. -/
def chipPagesSpec : ChangeSpec := { name := "chipPages", fn := fun _ => fun
  | [d1, d2, d3, d4] => { results := [.lit (.bool true)], args := [d1, d2, d3, d4] }
  | _ => none }
def chipPagesRow : OpenClaim := { program := "ythhchfldgkgfpaa", sum := "0664037ba083a8f9217c9180a47c67c8b7c971fa900c7a9715b5a840cc0f3113", func := "lichen/lichenlaw6.ChipPages", spec := "chipPages", inPlace := ["internal/abi.NoEscape", "internal/bytealg.MakeNoZero", "sync/atomic.LoadUint32", "(*internal/sync.Mutex).Lock", "internal/race.Disable", "sync/atomic.CompareAndSwapInt32", "internal/race.Enable", "internal/race.Acquire", "(*internal/sync.Mutex).lockSlow", "internal/sync.runtime_canSpin", "internal/sync.runtime_doSpin", "internal/sync.throw", "internal/sync.runtime_nanotime", "internal/sync.runtime_SemacquireMutex", "sync/atomic.AddInt32", "(*internal/sync.Mutex).Unlock", "internal/race.ReleaseMerge", "(*internal/sync.Mutex).unlockSlow", "internal/sync.fatal", "internal/sync.runtime_Semrelease", "sync/atomic.StoreUint32"], unfollowed := true, recurses := true, apart := false }
def ChipPagesSaid : Prop := chipPagesRow.holds Try.pinned (OpenSpec.ofChange chipPagesSpec)

/-- ITS FALSE NEIGHBOUR: 'it returns false'. Refute it at one input. -/
def chipPagesWrong : ChangeSpec := { name := "chipPages", fn := fun _ => fun
  | [d1, d2, d3, d4] => { results := [.lit (.bool false)], args := [d1, d2, d3, d4] }
  | _ => none }
def ChipPagesWrongFalsely : Prop := chipPagesRow.holds Try.pinned (OpenSpec.ofChange chipPagesWrong)

/-- 'lichenlaw6.ChipGuards': WHATEVER THE INPUT: true; the input reads as it did. -/
def chipGuardsSpec : ChangeSpec := { name := "chipGuards", fn := fun _ => fun
  | [d1, d2] => { results := [.lit (.bool true)], args := [d1, d2] }
  | _ => none }
def chipGuardsRow : OpenClaim := { program := "ythhchfldgkgfpaa", sum := "0664037ba083a8f9217c9180a47c67c8b7c971fa900c7a9715b5a840cc0f3113", func := "lichen/lichenlaw6.ChipGuards", spec := "chipGuards", inPlace := ["internal/abi.NoEscape", "internal/bytealg.MakeNoZero", "sync/atomic.LoadUint32", "(*internal/sync.Mutex).Lock", "internal/race.Disable", "sync/atomic.CompareAndSwapInt32", "internal/race.Enable", "internal/race.Acquire", "(*internal/sync.Mutex).lockSlow", "internal/sync.runtime_canSpin", "internal/sync.runtime_doSpin", "internal/sync.throw", "internal/sync.runtime_nanotime", "internal/sync.runtime_SemacquireMutex", "sync/atomic.AddInt32", "(*internal/sync.Mutex).Unlock", "internal/race.ReleaseMerge", "(*internal/sync.Mutex).unlockSlow", "internal/sync.fatal", "internal/sync.runtime_Semrelease", "sync/atomic.StoreUint32"], unfollowed := true, recurses := true, apart := false }
def ChipGuardsSaid : Prop := chipGuardsRow.holds Try.pinned (OpenSpec.ofChange chipGuardsSpec)

/-- ITS FALSE NEIGHBOUR: 'it returns false'. Refute it at one input. -/
def chipGuardsWrong : ChangeSpec := { name := "chipGuards", fn := fun _ => fun
  | [d1, d2] => { results := [.lit (.bool false)], args := [d1, d2] }
  | _ => none }
def ChipGuardsWrongFalsely : Prop := chipGuardsRow.holds Try.pinned (OpenSpec.ofChange chipGuardsWrong)

/-- 'lichenlaw6.ChipBusy': WHATEVER THE INPUT: true; the input reads as it did. -/
def chipBusySpec : ChangeSpec := { name := "chipBusy", fn := fun _ => fun
  | [d1, d2] => { results := [.lit (.bool true)], args := [d1, d2] }
  | _ => none }
def chipBusyRow : OpenClaim := { program := "ythhchfldgkgfpaa", sum := "0664037ba083a8f9217c9180a47c67c8b7c971fa900c7a9715b5a840cc0f3113", func := "lichen/lichenlaw6.ChipBusy", spec := "chipBusy", inPlace := ["internal/abi.NoEscape", "internal/bytealg.MakeNoZero", "sync/atomic.LoadUint32", "(*internal/sync.Mutex).Lock", "internal/race.Disable", "sync/atomic.CompareAndSwapInt32", "internal/race.Enable", "internal/race.Acquire", "(*internal/sync.Mutex).lockSlow", "internal/sync.runtime_canSpin", "internal/sync.runtime_doSpin", "internal/sync.throw", "internal/sync.runtime_nanotime", "internal/sync.runtime_SemacquireMutex", "sync/atomic.AddInt32", "(*internal/sync.Mutex).Unlock", "internal/race.ReleaseMerge", "(*internal/sync.Mutex).unlockSlow", "internal/sync.fatal", "internal/sync.runtime_Semrelease", "sync/atomic.StoreUint32"], unfollowed := true, recurses := true, apart := false }
def ChipBusySaid : Prop := chipBusyRow.holds Try.pinned (OpenSpec.ofChange chipBusySpec)

/-- ITS FALSE NEIGHBOUR: 'it returns false'. Refute it at one input. -/
def chipBusyWrong : ChangeSpec := { name := "chipBusy", fn := fun _ => fun
  | [d1, d2] => { results := [.lit (.bool false)], args := [d1, d2] }
  | _ => none }
def ChipBusyWrongFalsely : Prop := chipBusyRow.holds Try.pinned (OpenSpec.ofChange chipBusyWrong)

/-- 'lichenlaw6.ChipLoss': WHATEVER THE INPUT: true; the input reads as it did. -/
def chipLossSpec : ChangeSpec := { name := "chipLoss", fn := fun _ => fun
  | [d1, d2, d3] => { results := [.lit (.bool true)], args := [d1, d2, d3] }
  | _ => none }
def chipLossRow : OpenClaim := { program := "ythhchfldgkgfpaa", sum := "0664037ba083a8f9217c9180a47c67c8b7c971fa900c7a9715b5a840cc0f3113", func := "lichen/lichenlaw6.ChipLoss", spec := "chipLoss", inPlace := ["internal/abi.NoEscape", "internal/bytealg.MakeNoZero", "sync/atomic.LoadUint32", "(*internal/sync.Mutex).Lock", "internal/race.Disable", "sync/atomic.CompareAndSwapInt32", "internal/race.Enable", "internal/race.Acquire", "(*internal/sync.Mutex).lockSlow", "internal/sync.runtime_canSpin", "internal/sync.runtime_doSpin", "internal/sync.throw", "internal/sync.runtime_nanotime", "internal/sync.runtime_SemacquireMutex", "sync/atomic.AddInt32", "(*internal/sync.Mutex).Unlock", "internal/race.ReleaseMerge", "(*internal/sync.Mutex).unlockSlow", "internal/sync.fatal", "internal/sync.runtime_Semrelease", "sync/atomic.StoreUint32"], unfollowed := true, recurses := true, apart := false }
def ChipLossSaid : Prop := chipLossRow.holds Try.pinned (OpenSpec.ofChange chipLossSpec)

/-- ITS FALSE NEIGHBOUR: 'it returns false'. Refute it at one input. -/
def chipLossWrong : ChangeSpec := { name := "chipLoss", fn := fun _ => fun
  | [d1, d2, d3] => { results := [.lit (.bool false)], args := [d1, d2, d3] }
  | _ => none }
def ChipLossWrongFalsely : Prop := chipLossRow.holds Try.pinned (OpenSpec.ofChange chipLossWrong)

/-- 'lichenlaw6.ChipId': WHATEVER THE INPUT: true; the input reads as it did. -/
def chipIdSpec : ChangeSpec := { name := "chipId", fn := fun _ => fun
  | [d1, d2] => { results := [.lit (.bool true)], args := [d1, d2] }
  | _ => none }
def chipIdRow : OpenClaim := { program := "ythhchfldgkgfpaa", sum := "0664037ba083a8f9217c9180a47c67c8b7c971fa900c7a9715b5a840cc0f3113", func := "lichen/lichenlaw6.ChipId", spec := "chipId", inPlace := ["internal/abi.NoEscape", "internal/bytealg.MakeNoZero", "sync/atomic.LoadUint32", "(*internal/sync.Mutex).Lock", "internal/race.Disable", "sync/atomic.CompareAndSwapInt32", "internal/race.Enable", "internal/race.Acquire", "(*internal/sync.Mutex).lockSlow", "internal/sync.runtime_canSpin", "internal/sync.runtime_doSpin", "internal/sync.throw", "internal/sync.runtime_nanotime", "internal/sync.runtime_SemacquireMutex", "sync/atomic.AddInt32", "(*internal/sync.Mutex).Unlock", "internal/race.ReleaseMerge", "(*internal/sync.Mutex).unlockSlow", "internal/sync.fatal", "internal/sync.runtime_Semrelease", "sync/atomic.StoreUint32"], unfollowed := true, recurses := true, apart := false }
def ChipIdSaid : Prop := chipIdRow.holds Try.pinned (OpenSpec.ofChange chipIdSpec)

/-- ITS FALSE NEIGHBOUR: 'it returns false'. Refute it at one input. -/
def chipIdWrong : ChangeSpec := { name := "chipId", fn := fun _ => fun
  | [d1, d2] => { results := [.lit (.bool false)], args := [d1, d2] }
  | _ => none }
def ChipIdWrongFalsely : Prop := chipIdRow.holds Try.pinned (OpenSpec.ofChange chipIdWrong)

/-- 'lichenlaw6.ChipQuad': WHATEVER THE INPUT: true; the input reads as it did. -/
def chipQuadSpec : ChangeSpec := { name := "chipQuad", fn := fun _ => fun
  | [d1, d2, d3] => { results := [.lit (.bool true)], args := [d1, d2, d3] }
  | _ => none }
def chipQuadRow : OpenClaim := { program := "ythhchfldgkgfpaa", sum := "0664037ba083a8f9217c9180a47c67c8b7c971fa900c7a9715b5a840cc0f3113", func := "lichen/lichenlaw6.ChipQuad", spec := "chipQuad", inPlace := ["internal/abi.NoEscape", "internal/bytealg.MakeNoZero", "sync/atomic.LoadUint32", "(*internal/sync.Mutex).Lock", "internal/race.Disable", "sync/atomic.CompareAndSwapInt32", "internal/race.Enable", "internal/race.Acquire", "(*internal/sync.Mutex).lockSlow", "internal/sync.runtime_canSpin", "internal/sync.runtime_doSpin", "internal/sync.throw", "internal/sync.runtime_nanotime", "internal/sync.runtime_SemacquireMutex", "sync/atomic.AddInt32", "(*internal/sync.Mutex).Unlock", "internal/race.ReleaseMerge", "(*internal/sync.Mutex).unlockSlow", "internal/sync.fatal", "internal/sync.runtime_Semrelease", "sync/atomic.StoreUint32"], unfollowed := true, recurses := true, apart := false }
def ChipQuadSaid : Prop := chipQuadRow.holds Try.pinned (OpenSpec.ofChange chipQuadSpec)

/-- ITS FALSE NEIGHBOUR: 'it returns false'. Refute it at one input. -/
def chipQuadWrong : ChangeSpec := { name := "chipQuad", fn := fun _ => fun
  | [d1, d2, d3] => { results := [.lit (.bool false)], args := [d1, d2, d3] }
  | _ => none }
def ChipQuadWrongFalsely : Prop := chipQuadRow.holds Try.pinned (OpenSpec.ofChange chipQuadWrong)

/-- 'lichenlaw6.ChipGoes': WHATEVER THE INPUT: true; the input reads as it did. -/
def chipGoesSpec : ChangeSpec := { name := "chipGoes", fn := fun _ => fun
  | [d1, d2] => { results := [.lit (.bool true)], args := [d1, d2] }
  | _ => none }
def chipGoesRow : OpenClaim := { program := "ythhchfldgkgfpaa", sum := "0664037ba083a8f9217c9180a47c67c8b7c971fa900c7a9715b5a840cc0f3113", func := "lichen/lichenlaw6.ChipGoes", spec := "chipGoes", inPlace := ["internal/abi.NoEscape", "internal/bytealg.MakeNoZero", "sync/atomic.LoadUint32", "(*internal/sync.Mutex).Lock", "internal/race.Disable", "sync/atomic.CompareAndSwapInt32", "internal/race.Enable", "internal/race.Acquire", "(*internal/sync.Mutex).lockSlow", "internal/sync.runtime_canSpin", "internal/sync.runtime_doSpin", "internal/sync.throw", "internal/sync.runtime_nanotime", "internal/sync.runtime_SemacquireMutex", "sync/atomic.AddInt32", "(*internal/sync.Mutex).Unlock", "internal/race.ReleaseMerge", "(*internal/sync.Mutex).unlockSlow", "internal/sync.fatal", "internal/sync.runtime_Semrelease", "sync/atomic.StoreUint32"], unfollowed := true, recurses := true, apart := false }
def ChipGoesSaid : Prop := chipGoesRow.holds Try.pinned (OpenSpec.ofChange chipGoesSpec)

/-- ITS FALSE NEIGHBOUR: 'it returns false'. Refute it at one input. -/
def chipGoesWrong : ChangeSpec := { name := "chipGoes", fn := fun _ => fun
  | [d1, d2] => { results := [.lit (.bool false)], args := [d1, d2] }
  | _ => none }
def ChipGoesWrongFalsely : Prop := chipGoesRow.holds Try.pinned (OpenSpec.ofChange chipGoesWrong)

/-- 'lichenlaw6.ChipTwice': WHATEVER THE INPUT: true; the input reads as it did. -/
def chipTwiceSpec : ChangeSpec := { name := "chipTwice", fn := fun _ => fun
  | [d1, d2, d3, d4] => { results := [.lit (.bool true)], args := [d1, d2, d3, d4] }
  | _ => none }
def chipTwiceRow : OpenClaim := { program := "ythhchfldgkgfpaa", sum := "0664037ba083a8f9217c9180a47c67c8b7c971fa900c7a9715b5a840cc0f3113", func := "lichen/lichenlaw6.ChipTwice", spec := "chipTwice", inPlace := ["internal/abi.NoEscape", "internal/bytealg.MakeNoZero", "sync/atomic.LoadUint32", "(*internal/sync.Mutex).Lock", "internal/race.Disable", "sync/atomic.CompareAndSwapInt32", "internal/race.Enable", "internal/race.Acquire", "(*internal/sync.Mutex).lockSlow", "internal/sync.runtime_canSpin", "internal/sync.runtime_doSpin", "internal/sync.throw", "internal/sync.runtime_nanotime", "internal/sync.runtime_SemacquireMutex", "sync/atomic.AddInt32", "(*internal/sync.Mutex).Unlock", "internal/race.ReleaseMerge", "(*internal/sync.Mutex).unlockSlow", "internal/sync.fatal", "internal/sync.runtime_Semrelease", "sync/atomic.StoreUint32"], unfollowed := true, recurses := true, apart := false }
def ChipTwiceSaid : Prop := chipTwiceRow.holds Try.pinned (OpenSpec.ofChange chipTwiceSpec)

/-- ITS FALSE NEIGHBOUR: 'it returns false'. Refute it at one input. -/
def chipTwiceWrong : ChangeSpec := { name := "chipTwice", fn := fun _ => fun
  | [d1, d2, d3, d4] => { results := [.lit (.bool false)], args := [d1, d2, d3, d4] }
  | _ => none }
def ChipTwiceWrongFalsely : Prop := chipTwiceRow.holds Try.pinned (OpenSpec.ofChange chipTwiceWrong)

/- THE SECOND FORM. 'bulk': how many values and letters a reading holds, each counted each time it is reached (what is shared counts as often as it is met; a slice's spare places count too). A statement '..UptoSaid' is the law's where the arguments, and the package variables that the reading takes, are together of bulk at most 1048576: NARROWER than '..Said'. Prove '..Said' where nothing that the law and all that it calls make is longer than what came in: it says more and counts as full. Else prove '..UptoSaid'. A law counts once. -/
mutual
def uptoBulk {H : Type} : DataW H → Nat
  | .lit (.string bytes) => bytes.length + 1
  | .lit _ => 1
  | .nil => 1
  | .ptr d => uptoBulk d + 1
  | .slice elems spare => uptoBulkAll elems + uptoBulkAll spare + 1
  | .agg parts => uptoBulkAll parts + 1
  | .iface _ d => uptoBulk d + 1
  | .map entries => uptoBulkEntries entries + 1
  | .held _ => 1
def uptoBulkAll {H : Type} : List (DataW H) → Nat
  | [] => 0
  | d :: r => uptoBulk d + uptoBulkAll r
def uptoBulkEntries {H : Type} : List (Lit × DataW H) → Nat
  | [] => 0
  | x :: r => uptoBulkEntry x + uptoBulkEntries r
def uptoBulkEntry {H : Type} : Lit × DataW H → Nat
  | (.string bytes, d) => bytes.length + uptoBulk d + 1
  | (_, d) => uptoBulk d + 1
 end
def uptoSmall : (H : Type) → List (DataW H) → Bool := fun _ ds => decide (uptoBulkAll ds ≤ 1048576)
def OpenSpec.upto (s : _root_.Go.ChangeSpec) : _root_.Go.OpenSpec := { _root_.Go.OpenSpec.ofChange s with cond := some uptoSmall }

/-- 'lichenlaw6.ChipReads', WHERE WHAT IT READS IS OF BULK AT MOST 1048576: true; the input reads as it did. -/
def chipReadsUptoRow : OpenClaim := { program := "ythhchfldgkgfpaa", sum := "0664037ba083a8f9217c9180a47c67c8b7c971fa900c7a9715b5a840cc0f3113", func := "lichen/lichenlaw6.ChipReads", spec := "chipReads", inPlace := ["internal/abi.NoEscape", "internal/bytealg.MakeNoZero", "sync/atomic.LoadUint32", "(*internal/sync.Mutex).Lock", "internal/race.Disable", "sync/atomic.CompareAndSwapInt32", "internal/race.Enable", "internal/race.Acquire", "(*internal/sync.Mutex).lockSlow", "internal/sync.runtime_canSpin", "internal/sync.runtime_doSpin", "internal/sync.throw", "internal/sync.runtime_nanotime", "internal/sync.runtime_SemacquireMutex", "sync/atomic.AddInt32", "(*internal/sync.Mutex).Unlock", "internal/race.ReleaseMerge", "(*internal/sync.Mutex).unlockSlow", "internal/sync.fatal", "internal/sync.runtime_Semrelease", "sync/atomic.StoreUint32"], unfollowed := true, recurses := true, apart := false, narrowed := true }
def ChipReadsUptoSaid : Prop := chipReadsUptoRow.holds Try.pinned (OpenSpec.upto chipReadsSpec)

/-- 'lichenlaw6.ChipPages', WHERE WHAT IT READS IS OF BULK AT MOST 1048576: true; the input reads as it did. -/
def chipPagesUptoRow : OpenClaim := { program := "ythhchfldgkgfpaa", sum := "0664037ba083a8f9217c9180a47c67c8b7c971fa900c7a9715b5a840cc0f3113", func := "lichen/lichenlaw6.ChipPages", spec := "chipPages", inPlace := ["internal/abi.NoEscape", "internal/bytealg.MakeNoZero", "sync/atomic.LoadUint32", "(*internal/sync.Mutex).Lock", "internal/race.Disable", "sync/atomic.CompareAndSwapInt32", "internal/race.Enable", "internal/race.Acquire", "(*internal/sync.Mutex).lockSlow", "internal/sync.runtime_canSpin", "internal/sync.runtime_doSpin", "internal/sync.throw", "internal/sync.runtime_nanotime", "internal/sync.runtime_SemacquireMutex", "sync/atomic.AddInt32", "(*internal/sync.Mutex).Unlock", "internal/race.ReleaseMerge", "(*internal/sync.Mutex).unlockSlow", "internal/sync.fatal", "internal/sync.runtime_Semrelease", "sync/atomic.StoreUint32"], unfollowed := true, recurses := true, apart := false, narrowed := true }
def ChipPagesUptoSaid : Prop := chipPagesUptoRow.holds Try.pinned (OpenSpec.upto chipPagesSpec)

/-- 'lichenlaw6.ChipGuards', WHERE WHAT IT READS IS OF BULK AT MOST 1048576: true; the input reads as it did. -/
def chipGuardsUptoRow : OpenClaim := { program := "ythhchfldgkgfpaa", sum := "0664037ba083a8f9217c9180a47c67c8b7c971fa900c7a9715b5a840cc0f3113", func := "lichen/lichenlaw6.ChipGuards", spec := "chipGuards", inPlace := ["internal/abi.NoEscape", "internal/bytealg.MakeNoZero", "sync/atomic.LoadUint32", "(*internal/sync.Mutex).Lock", "internal/race.Disable", "sync/atomic.CompareAndSwapInt32", "internal/race.Enable", "internal/race.Acquire", "(*internal/sync.Mutex).lockSlow", "internal/sync.runtime_canSpin", "internal/sync.runtime_doSpin", "internal/sync.throw", "internal/sync.runtime_nanotime", "internal/sync.runtime_SemacquireMutex", "sync/atomic.AddInt32", "(*internal/sync.Mutex).Unlock", "internal/race.ReleaseMerge", "(*internal/sync.Mutex).unlockSlow", "internal/sync.fatal", "internal/sync.runtime_Semrelease", "sync/atomic.StoreUint32"], unfollowed := true, recurses := true, apart := false, narrowed := true }
def ChipGuardsUptoSaid : Prop := chipGuardsUptoRow.holds Try.pinned (OpenSpec.upto chipGuardsSpec)

/-- 'lichenlaw6.ChipBusy', WHERE WHAT IT READS IS OF BULK AT MOST 1048576: true; the input reads as it did. -/
def chipBusyUptoRow : OpenClaim := { program := "ythhchfldgkgfpaa", sum := "0664037ba083a8f9217c9180a47c67c8b7c971fa900c7a9715b5a840cc0f3113", func := "lichen/lichenlaw6.ChipBusy", spec := "chipBusy", inPlace := ["internal/abi.NoEscape", "internal/bytealg.MakeNoZero", "sync/atomic.LoadUint32", "(*internal/sync.Mutex).Lock", "internal/race.Disable", "sync/atomic.CompareAndSwapInt32", "internal/race.Enable", "internal/race.Acquire", "(*internal/sync.Mutex).lockSlow", "internal/sync.runtime_canSpin", "internal/sync.runtime_doSpin", "internal/sync.throw", "internal/sync.runtime_nanotime", "internal/sync.runtime_SemacquireMutex", "sync/atomic.AddInt32", "(*internal/sync.Mutex).Unlock", "internal/race.ReleaseMerge", "(*internal/sync.Mutex).unlockSlow", "internal/sync.fatal", "internal/sync.runtime_Semrelease", "sync/atomic.StoreUint32"], unfollowed := true, recurses := true, apart := false, narrowed := true }
def ChipBusyUptoSaid : Prop := chipBusyUptoRow.holds Try.pinned (OpenSpec.upto chipBusySpec)

/-- 'lichenlaw6.ChipLoss', WHERE WHAT IT READS IS OF BULK AT MOST 1048576: true; the input reads as it did. -/
def chipLossUptoRow : OpenClaim := { program := "ythhchfldgkgfpaa", sum := "0664037ba083a8f9217c9180a47c67c8b7c971fa900c7a9715b5a840cc0f3113", func := "lichen/lichenlaw6.ChipLoss", spec := "chipLoss", inPlace := ["internal/abi.NoEscape", "internal/bytealg.MakeNoZero", "sync/atomic.LoadUint32", "(*internal/sync.Mutex).Lock", "internal/race.Disable", "sync/atomic.CompareAndSwapInt32", "internal/race.Enable", "internal/race.Acquire", "(*internal/sync.Mutex).lockSlow", "internal/sync.runtime_canSpin", "internal/sync.runtime_doSpin", "internal/sync.throw", "internal/sync.runtime_nanotime", "internal/sync.runtime_SemacquireMutex", "sync/atomic.AddInt32", "(*internal/sync.Mutex).Unlock", "internal/race.ReleaseMerge", "(*internal/sync.Mutex).unlockSlow", "internal/sync.fatal", "internal/sync.runtime_Semrelease", "sync/atomic.StoreUint32"], unfollowed := true, recurses := true, apart := false, narrowed := true }
def ChipLossUptoSaid : Prop := chipLossUptoRow.holds Try.pinned (OpenSpec.upto chipLossSpec)

/-- 'lichenlaw6.ChipId', WHERE WHAT IT READS IS OF BULK AT MOST 1048576: true; the input reads as it did. -/
def chipIdUptoRow : OpenClaim := { program := "ythhchfldgkgfpaa", sum := "0664037ba083a8f9217c9180a47c67c8b7c971fa900c7a9715b5a840cc0f3113", func := "lichen/lichenlaw6.ChipId", spec := "chipId", inPlace := ["internal/abi.NoEscape", "internal/bytealg.MakeNoZero", "sync/atomic.LoadUint32", "(*internal/sync.Mutex).Lock", "internal/race.Disable", "sync/atomic.CompareAndSwapInt32", "internal/race.Enable", "internal/race.Acquire", "(*internal/sync.Mutex).lockSlow", "internal/sync.runtime_canSpin", "internal/sync.runtime_doSpin", "internal/sync.throw", "internal/sync.runtime_nanotime", "internal/sync.runtime_SemacquireMutex", "sync/atomic.AddInt32", "(*internal/sync.Mutex).Unlock", "internal/race.ReleaseMerge", "(*internal/sync.Mutex).unlockSlow", "internal/sync.fatal", "internal/sync.runtime_Semrelease", "sync/atomic.StoreUint32"], unfollowed := true, recurses := true, apart := false, narrowed := true }
def ChipIdUptoSaid : Prop := chipIdUptoRow.holds Try.pinned (OpenSpec.upto chipIdSpec)

/-- 'lichenlaw6.ChipQuad', WHERE WHAT IT READS IS OF BULK AT MOST 1048576: true; the input reads as it did. -/
def chipQuadUptoRow : OpenClaim := { program := "ythhchfldgkgfpaa", sum := "0664037ba083a8f9217c9180a47c67c8b7c971fa900c7a9715b5a840cc0f3113", func := "lichen/lichenlaw6.ChipQuad", spec := "chipQuad", inPlace := ["internal/abi.NoEscape", "internal/bytealg.MakeNoZero", "sync/atomic.LoadUint32", "(*internal/sync.Mutex).Lock", "internal/race.Disable", "sync/atomic.CompareAndSwapInt32", "internal/race.Enable", "internal/race.Acquire", "(*internal/sync.Mutex).lockSlow", "internal/sync.runtime_canSpin", "internal/sync.runtime_doSpin", "internal/sync.throw", "internal/sync.runtime_nanotime", "internal/sync.runtime_SemacquireMutex", "sync/atomic.AddInt32", "(*internal/sync.Mutex).Unlock", "internal/race.ReleaseMerge", "(*internal/sync.Mutex).unlockSlow", "internal/sync.fatal", "internal/sync.runtime_Semrelease", "sync/atomic.StoreUint32"], unfollowed := true, recurses := true, apart := false, narrowed := true }
def ChipQuadUptoSaid : Prop := chipQuadUptoRow.holds Try.pinned (OpenSpec.upto chipQuadSpec)

/-- 'lichenlaw6.ChipGoes', WHERE WHAT IT READS IS OF BULK AT MOST 1048576: true; the input reads as it did. -/
def chipGoesUptoRow : OpenClaim := { program := "ythhchfldgkgfpaa", sum := "0664037ba083a8f9217c9180a47c67c8b7c971fa900c7a9715b5a840cc0f3113", func := "lichen/lichenlaw6.ChipGoes", spec := "chipGoes", inPlace := ["internal/abi.NoEscape", "internal/bytealg.MakeNoZero", "sync/atomic.LoadUint32", "(*internal/sync.Mutex).Lock", "internal/race.Disable", "sync/atomic.CompareAndSwapInt32", "internal/race.Enable", "internal/race.Acquire", "(*internal/sync.Mutex).lockSlow", "internal/sync.runtime_canSpin", "internal/sync.runtime_doSpin", "internal/sync.throw", "internal/sync.runtime_nanotime", "internal/sync.runtime_SemacquireMutex", "sync/atomic.AddInt32", "(*internal/sync.Mutex).Unlock", "internal/race.ReleaseMerge", "(*internal/sync.Mutex).unlockSlow", "internal/sync.fatal", "internal/sync.runtime_Semrelease", "sync/atomic.StoreUint32"], unfollowed := true, recurses := true, apart := false, narrowed := true }
def ChipGoesUptoSaid : Prop := chipGoesUptoRow.holds Try.pinned (OpenSpec.upto chipGoesSpec)

/-- 'lichenlaw6.ChipTwice', WHERE WHAT IT READS IS OF BULK AT MOST 1048576: true; the input reads as it did. -/
def chipTwiceUptoRow : OpenClaim := { program := "ythhchfldgkgfpaa", sum := "0664037ba083a8f9217c9180a47c67c8b7c971fa900c7a9715b5a840cc0f3113", func := "lichen/lichenlaw6.ChipTwice", spec := "chipTwice", inPlace := ["internal/abi.NoEscape", "internal/bytealg.MakeNoZero", "sync/atomic.LoadUint32", "(*internal/sync.Mutex).Lock", "internal/race.Disable", "sync/atomic.CompareAndSwapInt32", "internal/race.Enable", "internal/race.Acquire", "(*internal/sync.Mutex).lockSlow", "internal/sync.runtime_canSpin", "internal/sync.runtime_doSpin", "internal/sync.throw", "internal/sync.runtime_nanotime", "internal/sync.runtime_SemacquireMutex", "sync/atomic.AddInt32", "(*internal/sync.Mutex).Unlock", "internal/race.ReleaseMerge", "(*internal/sync.Mutex).unlockSlow", "internal/sync.fatal", "internal/sync.runtime_Semrelease", "sync/atomic.StoreUint32"], unfollowed := true, recurses := true, apart := false, narrowed := true }
def ChipTwiceUptoSaid : Prop := chipTwiceUptoRow.holds Try.pinned (OpenSpec.upto chipTwiceSpec)

end Rows
end Go.Proofs.Ythhchfldgkgfpaa
