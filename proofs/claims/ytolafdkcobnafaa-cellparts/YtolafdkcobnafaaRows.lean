/-
  No cell of these rows narrows 'for every input' (looked for: loops, veiled, ifaces, maps, wideKeys, modest, calm, conditions, laid).
  DERIVED. THE GIVEN ROWS OF THIS SEAT. 6 by the template 'for every input the law returns true; each argument reads behind the call as it read before'; 0 by the template 'total and deterministic' (their statements: YtolafdkcobnafaaTotals.lean).
  GIVEN WITH THE SEED: the statements are not yours to turn. If you find one false, say at which input.
  Laid BY PROGRAM, IN A SANDBOX (cutbox-rows.mjs): the forced cells as the released guide's own fill.sh prints them over the translation 0e976ca79af19deb… (all of the seat's roots in one cut). By AI agents, Wed Nov 11 2026. No macro, syntax, notation, axiom, sorry.
-/
import Derived.Test.YtolafdkcobnafaaChecked
import GoSem.Claim
import GoSem.ClaimJoined
import GoSem.ClaimMapViews
import Derived.JoinedTies
import Derived.KernelRfl
namespace Go.Proofs.Ytolafdkcobnafaa
/- THE CELL 'sum', in the pinned program and in every row, IS THE sha256 OF THE DUMP (.gsa) THAT YtolafdkcobnafaaProg.lean LOADS. Nothing in Lean hashes anything: it is a label: what it is worth is what the hold of that sum in a sandbox is worth. -/
noncomputable def Try.pinned : Pinned := { name := "ytolafdkcobnafaa", sum := "0e976ca79af19deb46c2c92dd5ef40f1f9e3b7864f8118cc284d4959224630c8", checked := Try.checked }
namespace Rows
def none {H : Type} : Left H := { results := [], args := [] }

/-- 'lichenlaw1.Cells': WHATEVER THE INPUT: true; the input reads as it did. -/
def cellsSpec : ChangeSpec := { name := "cells", fn := fun _ => fun
  | [d1, d2, d3, d4, d5, d6] => { results := [.lit (.bool true)], args := [d1, d2, d3, d4, d5, d6] }
  | _ => none }
def cellsRow : OpenClaim := { program := "ytolafdkcobnafaa", sum := "0e976ca79af19deb46c2c92dd5ef40f1f9e3b7864f8118cc284d4959224630c8", func := "lichen/lichenlaw1.Cells", spec := "cells", apart := false }
def CellsSaid : Prop := cellsRow.holds Try.pinned (OpenSpec.ofChange cellsSpec)

/-- ITS FALSE NEIGHBOUR: 'it returns false'. Refute it at one input. -/
def cellsWrong : ChangeSpec := { name := "cells", fn := fun _ => fun
  | [d1, d2, d3, d4, d5, d6] => { results := [.lit (.bool false)], args := [d1, d2, d3, d4, d5, d6] }
  | _ => none }
def CellsWrongFalsely : Prop := cellsRow.holds Try.pinned (OpenSpec.ofChange cellsWrong)

/-- 'lichenlaw1.CellBits': WHATEVER THE INPUT: true; the input reads as it did. -/
def cellBitsSpec : ChangeSpec := { name := "cellBits", fn := fun _ => fun
  | [d1, d2, d3, d4, d5] => { results := [.lit (.bool true)], args := [d1, d2, d3, d4, d5] }
  | _ => none }
def cellBitsRow : OpenClaim := { program := "ytolafdkcobnafaa", sum := "0e976ca79af19deb46c2c92dd5ef40f1f9e3b7864f8118cc284d4959224630c8", func := "lichen/lichenlaw1.CellBits", spec := "cellBits", apart := false }
def CellBitsSaid : Prop := cellBitsRow.holds Try.pinned (OpenSpec.ofChange cellBitsSpec)

/-- ITS FALSE NEIGHBOUR: 'it returns false'. Refute it at one input. -/
def cellBitsWrong : ChangeSpec := { name := "cellBits", fn := fun _ => fun
  | [d1, d2, d3, d4, d5] => { results := [.lit (.bool false)], args := [d1, d2, d3, d4, d5] }
  | _ => none }
def CellBitsWrongFalsely : Prop := cellBitsRow.holds Try.pinned (OpenSpec.ofChange cellBitsWrong)

/-- 'lichenlaw1.CellForms': WHATEVER THE INPUT: true; the input reads as it did. -/
def cellFormsSpec : ChangeSpec := { name := "cellForms", fn := fun _ => fun
  | [d1, d2] => { results := [.lit (.bool true)], args := [d1, d2] }
  | _ => none }
def cellFormsRow : OpenClaim := { program := "ytolafdkcobnafaa", sum := "0e976ca79af19deb46c2c92dd5ef40f1f9e3b7864f8118cc284d4959224630c8", func := "lichen/lichenlaw1.CellForms", spec := "cellForms", apart := false }
def CellFormsSaid : Prop := cellFormsRow.holds Try.pinned (OpenSpec.ofChange cellFormsSpec)

/-- ITS FALSE NEIGHBOUR: 'it returns false'. Refute it at one input. -/
def cellFormsWrong : ChangeSpec := { name := "cellForms", fn := fun _ => fun
  | [d1, d2] => { results := [.lit (.bool false)], args := [d1, d2] }
  | _ => none }
def CellFormsWrongFalsely : Prop := cellFormsRow.holds Try.pinned (OpenSpec.ofChange cellFormsWrong)

/-- 'lichenlaw1.CellTwice': WHATEVER THE INPUT: true; the input reads as it did. -/
def cellTwiceSpec : ChangeSpec := { name := "cellTwice", fn := fun _ => fun
  | [d1, d2, d3, d4, d5] => { results := [.lit (.bool true)], args := [d1, d2, d3, d4, d5] }
  | _ => none }
def cellTwiceRow : OpenClaim := { program := "ytolafdkcobnafaa", sum := "0e976ca79af19deb46c2c92dd5ef40f1f9e3b7864f8118cc284d4959224630c8", func := "lichen/lichenlaw1.CellTwice", spec := "cellTwice", apart := false }
def CellTwiceSaid : Prop := cellTwiceRow.holds Try.pinned (OpenSpec.ofChange cellTwiceSpec)

/-- ITS FALSE NEIGHBOUR: 'it returns false'. Refute it at one input. -/
def cellTwiceWrong : ChangeSpec := { name := "cellTwice", fn := fun _ => fun
  | [d1, d2, d3, d4, d5] => { results := [.lit (.bool false)], args := [d1, d2, d3, d4, d5] }
  | _ => none }
def CellTwiceWrongFalsely : Prop := cellTwiceRow.holds Try.pinned (OpenSpec.ofChange cellTwiceWrong)

/-- 'lichenlaw1.CellOver': WHATEVER THE INPUT: true; the input reads as it did. -/
def cellOverSpec : ChangeSpec := { name := "cellOver", fn := fun _ => fun
  | [d1, d2, d3, d4, d5] => { results := [.lit (.bool true)], args := [d1, d2, d3, d4, d5] }
  | _ => none }
def cellOverRow : OpenClaim := { program := "ytolafdkcobnafaa", sum := "0e976ca79af19deb46c2c92dd5ef40f1f9e3b7864f8118cc284d4959224630c8", func := "lichen/lichenlaw1.CellOver", spec := "cellOver", apart := false }
def CellOverSaid : Prop := cellOverRow.holds Try.pinned (OpenSpec.ofChange cellOverSpec)

/-- ITS FALSE NEIGHBOUR: 'it returns false'. Refute it at one input. -/
def cellOverWrong : ChangeSpec := { name := "cellOver", fn := fun _ => fun
  | [d1, d2, d3, d4, d5] => { results := [.lit (.bool false)], args := [d1, d2, d3, d4, d5] }
  | _ => none }
def CellOverWrongFalsely : Prop := cellOverRow.holds Try.pinned (OpenSpec.ofChange cellOverWrong)

/-- 'lichenlaw1.CellParts': WHATEVER THE INPUT: true; the input reads as it did. -/
def cellPartsSpec : ChangeSpec := { name := "cellParts", fn := fun _ => fun
  | [d1, d2, d3, d4, d5, d6] => { results := [.lit (.bool true)], args := [d1, d2, d3, d4, d5, d6] }
  | _ => none }
def cellPartsRow : OpenClaim := { program := "ytolafdkcobnafaa", sum := "0e976ca79af19deb46c2c92dd5ef40f1f9e3b7864f8118cc284d4959224630c8", func := "lichen/lichenlaw1.CellParts", spec := "cellParts", apart := false }
def CellPartsSaid : Prop := cellPartsRow.holds Try.pinned (OpenSpec.ofChange cellPartsSpec)

/-- ITS FALSE NEIGHBOUR: 'it returns false'. Refute it at one input. -/
def cellPartsWrong : ChangeSpec := { name := "cellParts", fn := fun _ => fun
  | [d1, d2, d3, d4, d5, d6] => { results := [.lit (.bool false)], args := [d1, d2, d3, d4, d5, d6] }
  | _ => none }
def CellPartsWrongFalsely : Prop := cellPartsRow.holds Try.pinned (OpenSpec.ofChange cellPartsWrong)

/- THE SECOND FORM. 'bulk': how many values and letters a reading holds, each counted each time it is reached (what is shared counts as often as it is met; a slice's spare places count too). A statement '..UptoSaid' is the law's where the arguments, and the package variables that the reading takes, are together of bulk at most 1048576: NARROWER than '..Said'. Prove '..Said' where nothing that the law and all that it calls make is longer than what came in: it says more and counts as full. Else prove '..UptoSaid'. A law counts once. -/
mutual
def uptoBulk {H : Type} : DataW H → Nat
  | .lit (.string bytes) => bytes.length + 1
  | .lit _ => 1
  | .nil => 1
  | .ptr d => uptoBulk d + 1
  | .slice elems spare => uptoBulkAll elems + uptoBulkAll spare + 1
  | .agg parts => uptoBulkAll parts + 1
  | .iface _ d => uptoBulk d + 1
  | .map entries => uptoBulkEntries entries + 1
  | .held _ => 1
def uptoBulkAll {H : Type} : List (DataW H) → Nat
  | [] => 0
  | d :: r => uptoBulk d + uptoBulkAll r
def uptoBulkEntries {H : Type} : List (Lit × DataW H) → Nat
  | [] => 0
  | x :: r => uptoBulkEntry x + uptoBulkEntries r
def uptoBulkEntry {H : Type} : Lit × DataW H → Nat
  | (.string bytes, d) => bytes.length + uptoBulk d + 1
  | (_, d) => uptoBulk d + 1
 end
def uptoSmall : (H : Type) → List (DataW H) → Bool := fun _ ds => decide (uptoBulkAll ds ≤ 1048576)
def OpenSpec.upto (s : _root_.Go.ChangeSpec) : _root_.Go.OpenSpec := { _root_.Go.OpenSpec.ofChange s with cond := some uptoSmall }

/-- 'lichenlaw1.Cells', WHERE WHAT IT READS IS OF BULK AT MOST 1048576: true; the input reads as it did. -/
def cellsUptoRow : OpenClaim := { program := "ytolafdkcobnafaa", sum := "0e976ca79af19deb46c2c92dd5ef40f1f9e3b7864f8118cc284d4959224630c8", func := "lichen/lichenlaw1.Cells", spec := "cells", apart := false, narrowed := true }
def CellsUptoSaid : Prop := cellsUptoRow.holds Try.pinned (OpenSpec.upto cellsSpec)

/-- 'lichenlaw1.CellBits', WHERE WHAT IT READS IS OF BULK AT MOST 1048576: true; the input reads as it did. -/
def cellBitsUptoRow : OpenClaim := { program := "ytolafdkcobnafaa", sum := "0e976ca79af19deb46c2c92dd5ef40f1f9e3b7864f8118cc284d4959224630c8", func := "lichen/lichenlaw1.CellBits", spec := "cellBits", apart := false, narrowed := true }
def CellBitsUptoSaid : Prop := cellBitsUptoRow.holds Try.pinned (OpenSpec.upto cellBitsSpec)

/-- 'lichenlaw1.CellForms', WHERE WHAT IT READS IS OF BULK AT MOST 1048576: true; the input reads as it did. -/
def cellFormsUptoRow : OpenClaim := { program := "ytolafdkcobnafaa", sum := "0e976ca79af19deb46c2c92dd5ef40f1f9e3b7864f8118cc284d4959224630c8", func := "lichen/lichenlaw1.CellForms", spec := "cellForms", apart := false, narrowed := true }
def CellFormsUptoSaid : Prop := cellFormsUptoRow.holds Try.pinned (OpenSpec.upto cellFormsSpec)

/-- 'lichenlaw1.CellTwice', WHERE WHAT IT READS IS OF BULK AT MOST 1048576: true; the input reads as it did. -/
def cellTwiceUptoRow : OpenClaim := { program := "ytolafdkcobnafaa", sum := "0e976ca79af19deb46c2c92dd5ef40f1f9e3b7864f8118cc284d4959224630c8", func := "lichen/lichenlaw1.CellTwice", spec := "cellTwice", apart := false, narrowed := true }
def CellTwiceUptoSaid : Prop := cellTwiceUptoRow.holds Try.pinned (OpenSpec.upto cellTwiceSpec)

/-- 'lichenlaw1.CellOver', WHERE WHAT IT READS IS OF BULK AT MOST 1048576: true; the input reads as it did. -/
def cellOverUptoRow : OpenClaim := { program := "ytolafdkcobnafaa", sum := "0e976ca79af19deb46c2c92dd5ef40f1f9e3b7864f8118cc284d4959224630c8", func := "lichen/lichenlaw1.CellOver", spec := "cellOver", apart := false, narrowed := true }
def CellOverUptoSaid : Prop := cellOverUptoRow.holds Try.pinned (OpenSpec.upto cellOverSpec)

/-- 'lichenlaw1.CellParts', WHERE WHAT IT READS IS OF BULK AT MOST 1048576: true; the input reads as it did. -/
def cellPartsUptoRow : OpenClaim := { program := "ytolafdkcobnafaa", sum := "0e976ca79af19deb46c2c92dd5ef40f1f9e3b7864f8118cc284d4959224630c8", func := "lichen/lichenlaw1.CellParts", spec := "cellParts", apart := false, narrowed := true }
def CellPartsUptoSaid : Prop := cellPartsUptoRow.holds Try.pinned (OpenSpec.upto cellPartsSpec)

end Rows
end Go.Proofs.Ytolafdkcobnafaa
