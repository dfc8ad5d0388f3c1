/-
  No cell of these rows narrows 'for every input' (looked for: loops, veiled, ifaces, maps, wideKeys, modest, calm, conditions, laid).
  DERIVED. THE GIVEN ROWS OF THIS SEAT. 6 by the template 'for every input the law returns true; each argument reads behind the call as it read before'; 0 by the template 'total and deterministic' (their statements: YtjmbgajaflcbaaaTotals.lean).
  GIVEN WITH THE SEED: the statements are not yours to turn. If you find one false, say at which input.
  Laid BY PROGRAM, IN A SANDBOX (cutbox-rows.mjs): the forced cells as the released guide's own fill.sh prints them over the translation 3be802a2532cf51a… (all of the seat's roots in one cut). By AI agents, Wed Nov 11 2026. No macro, syntax, notation, axiom, sorry.
-/
import Derived.Test.YtjmbgajaflcbaaaChecked
import GoSem.Claim
import GoSem.ClaimJoined
import GoSem.ClaimMapViews
import Derived.JoinedTies
import Derived.KernelRfl
namespace Go.Proofs.Ytjmbgajaflcbaaa
/- THE CELL 'sum', in the pinned program and in every row, IS THE sha256 OF THE DUMP (.gsa) THAT YtjmbgajaflcbaaaProg.lean LOADS. Nothing in Lean hashes anything: it is a label: what it is worth is what the hold of that sum in a sandbox is worth. -/
noncomputable def Try.pinned : Pinned := { name := "ytjmbgajaflcbaaa", sum := "3be802a2532cf51af2213a5cea64fd71e450b40992479a54c44995ec60090516", checked := Try.checked }
namespace Rows
def none {H : Type} : Left H := { results := [], args := [] }

/-- 'ropewaylaw04.ChangeNames': WHATEVER THE INPUT: true; the input reads as it did. -/
def changeNamesSpec : ChangeSpec := { name := "changeNames", fn := fun _ => fun
  | [] => { results := [.lit (.bool true)], args := [] }
  | _ => none }
def changeNamesRow : OpenClaim := { program := "ytjmbgajaflcbaaa", sum := "3be802a2532cf51af2213a5cea64fd71e450b40992479a54c44995ec60090516", func := "ropeway/ropewaylaw04.ChangeNames", spec := "changeNames", apart := false }
def ChangeNamesSaid : Prop := changeNamesRow.holds Try.pinned (OpenSpec.ofChange changeNamesSpec)

/-- ITS FALSE NEIGHBOUR: 'it returns false'. Refute it at one input. -/
def changeNamesWrong : ChangeSpec := { name := "changeNames", fn := fun _ => fun
  | [] => { results := [.lit (.bool false)], args := [] }
  | _ => none }
def ChangeNamesWrongFalsely : Prop := changeNamesRow.holds Try.pinned (OpenSpec.ofChange changeNamesWrong)

/-- 'ropewaylaw04.ChangeSets': WHATEVER THE INPUT: true; the input reads as it did. -/
def changeSetsSpec : ChangeSpec := { name := "changeSets", fn := fun _ => fun
  | [d1, d2, d3] => { results := [.lit (.bool true)], args := [d1, d2, d3] }
  | _ => none }
def changeSetsRow : OpenClaim := { program := "ytjmbgajaflcbaaa", sum := "3be802a2532cf51af2213a5cea64fd71e450b40992479a54c44995ec60090516", func := "ropeway/ropewaylaw04.ChangeSets", spec := "changeSets", apart := false }
def ChangeSetsSaid : Prop := changeSetsRow.holds Try.pinned (OpenSpec.ofChange changeSetsSpec)

/-- ITS FALSE NEIGHBOUR: 'it returns false'. Refute it at one input. -/
def changeSetsWrong : ChangeSpec := { name := "changeSets", fn := fun _ => fun
  | [d1, d2, d3] => { results := [.lit (.bool false)], args := [d1, d2, d3] }
  | _ => none }
def ChangeSetsWrongFalsely : Prop := changeSetsRow.holds Try.pinned (OpenSpec.ofChange changeSetsWrong)

/-- 'ropewaylaw04.ChangeJoins': WHATEVER THE INPUT: true; the input reads as it did. -/
def changeJoinsSpec : ChangeSpec := { name := "changeJoins", fn := fun _ => fun
  | [d1, d2, d3] => { results := [.lit (.bool true)], args := [d1, d2, d3] }
  | _ => none }
def changeJoinsRow : OpenClaim := { program := "ytjmbgajaflcbaaa", sum := "3be802a2532cf51af2213a5cea64fd71e450b40992479a54c44995ec60090516", func := "ropeway/ropewaylaw04.ChangeJoins", spec := "changeJoins", apart := false }
def ChangeJoinsSaid : Prop := changeJoinsRow.holds Try.pinned (OpenSpec.ofChange changeJoinsSpec)

/-- ITS FALSE NEIGHBOUR: 'it returns false'. Refute it at one input. -/
def changeJoinsWrong : ChangeSpec := { name := "changeJoins", fn := fun _ => fun
  | [d1, d2, d3] => { results := [.lit (.bool false)], args := [d1, d2, d3] }
  | _ => none }
def ChangeJoinsWrongFalsely : Prop := changeJoinsRow.holds Try.pinned (OpenSpec.ofChange changeJoinsWrong)

/-- 'ropewaylaw04.ChangeTurns': WHATEVER THE INPUT: true; the input reads as it did. -/
def changeTurnsSpec : ChangeSpec := { name := "changeTurns", fn := fun _ => fun
  | [d1, d2, d3] => { results := [.lit (.bool true)], args := [d1, d2, d3] }
  | _ => none }
def changeTurnsRow : OpenClaim := { program := "ytjmbgajaflcbaaa", sum := "3be802a2532cf51af2213a5cea64fd71e450b40992479a54c44995ec60090516", func := "ropeway/ropewaylaw04.ChangeTurns", spec := "changeTurns", apart := false }
def ChangeTurnsSaid : Prop := changeTurnsRow.holds Try.pinned (OpenSpec.ofChange changeTurnsSpec)

/-- ITS FALSE NEIGHBOUR: 'it returns false'. Refute it at one input. -/
def changeTurnsWrong : ChangeSpec := { name := "changeTurns", fn := fun _ => fun
  | [d1, d2, d3] => { results := [.lit (.bool false)], args := [d1, d2, d3] }
  | _ => none }
def ChangeTurnsWrongFalsely : Prop := changeTurnsRow.holds Try.pinned (OpenSpec.ofChange changeTurnsWrong)

/-- 'ropewaylaw04.ChangeBack': WHATEVER THE INPUT: true; the input reads as it did. -/
def changeBackSpec : ChangeSpec := { name := "changeBack", fn := fun _ => fun
  | [d1, d2] => { results := [.lit (.bool true)], args := [d1, d2] }
  | _ => none }
def changeBackRow : OpenClaim := { program := "ytjmbgajaflcbaaa", sum := "3be802a2532cf51af2213a5cea64fd71e450b40992479a54c44995ec60090516", func := "ropeway/ropewaylaw04.ChangeBack", spec := "changeBack", apart := false }
def ChangeBackSaid : Prop := changeBackRow.holds Try.pinned (OpenSpec.ofChange changeBackSpec)

/-- ITS FALSE NEIGHBOUR: 'it returns false'. Refute it at one input. -/
def changeBackWrong : ChangeSpec := { name := "changeBack", fn := fun _ => fun
  | [d1, d2] => { results := [.lit (.bool false)], args := [d1, d2] }
  | _ => none }
def ChangeBackWrongFalsely : Prop := changeBackRow.holds Try.pinned (OpenSpec.ofChange changeBackWrong)

/-- 'ropewaylaw04.ChangeCounts': WHATEVER THE INPUT: true; the input reads as it did. -/
def changeCountsSpec : ChangeSpec := { name := "changeCounts", fn := fun _ => fun
  | [d1, d2] => { results := [.lit (.bool true)], args := [d1, d2] }
  | _ => none }
def changeCountsRow : OpenClaim := { program := "ytjmbgajaflcbaaa", sum := "3be802a2532cf51af2213a5cea64fd71e450b40992479a54c44995ec60090516", func := "ropeway/ropewaylaw04.ChangeCounts", spec := "changeCounts", apart := false }
def ChangeCountsSaid : Prop := changeCountsRow.holds Try.pinned (OpenSpec.ofChange changeCountsSpec)

/-- ITS FALSE NEIGHBOUR: 'it returns false'. Refute it at one input. -/
def changeCountsWrong : ChangeSpec := { name := "changeCounts", fn := fun _ => fun
  | [d1, d2] => { results := [.lit (.bool false)], args := [d1, d2] }
  | _ => none }
def ChangeCountsWrongFalsely : Prop := changeCountsRow.holds Try.pinned (OpenSpec.ofChange changeCountsWrong)

/- THE SECOND FORM. 'bulk': how many values and letters a reading holds, each counted each time it is reached (what is shared counts as often as it is met; a slice's spare places count too). A statement '..UptoSaid' is the law's where the arguments, and the package variables that the reading takes, are together of bulk at most 1048576: NARROWER than '..Said'. Prove '..Said' where nothing that the law and all that it calls make is longer than what came in: it says more and counts as full. Else prove '..UptoSaid'. A law counts once. -/
mutual
def uptoBulk {H : Type} : DataW H → Nat
  | .lit (.string bytes) => bytes.length + 1
  | .lit _ => 1
  | .nil => 1
  | .ptr d => uptoBulk d + 1
  | .slice elems spare => uptoBulkAll elems + uptoBulkAll spare + 1
  | .agg parts => uptoBulkAll parts + 1
  | .iface _ d => uptoBulk d + 1
  | .map entries => uptoBulkEntries entries + 1
  | .held _ => 1
def uptoBulkAll {H : Type} : List (DataW H) → Nat
  | [] => 0
  | d :: r => uptoBulk d + uptoBulkAll r
def uptoBulkEntries {H : Type} : List (Lit × DataW H) → Nat
  | [] => 0
  | x :: r => uptoBulkEntry x + uptoBulkEntries r
def uptoBulkEntry {H : Type} : Lit × DataW H → Nat
  | (.string bytes, d) => bytes.length + uptoBulk d + 1
  | (_, d) => uptoBulk d + 1
 end
def uptoSmall : (H : Type) → List (DataW H) → Bool := fun _ ds => decide (uptoBulkAll ds ≤ 1048576)
def OpenSpec.upto (s : _root_.Go.ChangeSpec) : _root_.Go.OpenSpec := { _root_.Go.OpenSpec.ofChange s with cond := some uptoSmall }

/-- 'ropewaylaw04.ChangeNames', WHERE WHAT IT READS IS OF BULK AT MOST 1048576: true; the input reads as it did. -/
def changeNamesUptoRow : OpenClaim := { program := "ytjmbgajaflcbaaa", sum := "3be802a2532cf51af2213a5cea64fd71e450b40992479a54c44995ec60090516", func := "ropeway/ropewaylaw04.ChangeNames", spec := "changeNames", apart := false, narrowed := true }
def ChangeNamesUptoSaid : Prop := changeNamesUptoRow.holds Try.pinned (OpenSpec.upto changeNamesSpec)

/-- 'ropewaylaw04.ChangeSets', WHERE WHAT IT READS IS OF BULK AT MOST 1048576: true; the input reads as it did. -/
def changeSetsUptoRow : OpenClaim := { program := "ytjmbgajaflcbaaa", sum := "3be802a2532cf51af2213a5cea64fd71e450b40992479a54c44995ec60090516", func := "ropeway/ropewaylaw04.ChangeSets", spec := "changeSets", apart := false, narrowed := true }
def ChangeSetsUptoSaid : Prop := changeSetsUptoRow.holds Try.pinned (OpenSpec.upto changeSetsSpec)

/-- 'ropewaylaw04.ChangeJoins', WHERE WHAT IT READS IS OF BULK AT MOST 1048576: true; the input reads as it did. -/
def changeJoinsUptoRow : OpenClaim := { program := "ytjmbgajaflcbaaa", sum := "3be802a2532cf51af2213a5cea64fd71e450b40992479a54c44995ec60090516", func := "ropeway/ropewaylaw04.ChangeJoins", spec := "changeJoins", apart := false, narrowed := true }
def ChangeJoinsUptoSaid : Prop := changeJoinsUptoRow.holds Try.pinned (OpenSpec.upto changeJoinsSpec)

/-- 'ropewaylaw04.ChangeTurns', WHERE WHAT IT READS IS OF BULK AT MOST 1048576: true; the input reads as it did. -/
def changeTurnsUptoRow : OpenClaim := { program := "ytjmbgajaflcbaaa", sum := "3be802a2532cf51af2213a5cea64fd71e450b40992479a54c44995ec60090516", func := "ropeway/ropewaylaw04.ChangeTurns", spec := "changeTurns", apart := false, narrowed := true }
def ChangeTurnsUptoSaid : Prop := changeTurnsUptoRow.holds Try.pinned (OpenSpec.upto changeTurnsSpec)

/-- 'ropewaylaw04.ChangeBack', WHERE WHAT IT READS IS OF BULK AT MOST 1048576: true; the input reads as it did. -/
def changeBackUptoRow : OpenClaim := { program := "ytjmbgajaflcbaaa", sum := "3be802a2532cf51af2213a5cea64fd71e450b40992479a54c44995ec60090516", func := "ropeway/ropewaylaw04.ChangeBack", spec := "changeBack", apart := false, narrowed := true }
def ChangeBackUptoSaid : Prop := changeBackUptoRow.holds Try.pinned (OpenSpec.upto changeBackSpec)

/-- 'ropewaylaw04.ChangeCounts', WHERE WHAT IT READS IS OF BULK AT MOST 1048576: true; the input reads as it did. -/
def changeCountsUptoRow : OpenClaim := { program := "ytjmbgajaflcbaaa", sum := "3be802a2532cf51af2213a5cea64fd71e450b40992479a54c44995ec60090516", func := "ropeway/ropewaylaw04.ChangeCounts", spec := "changeCounts", apart := false, narrowed := true }
def ChangeCountsUptoSaid : Prop := changeCountsUptoRow.holds Try.pinned (OpenSpec.upto changeCountsSpec)

end Rows
end Go.Proofs.Ytjmbgajaflcbaaa
