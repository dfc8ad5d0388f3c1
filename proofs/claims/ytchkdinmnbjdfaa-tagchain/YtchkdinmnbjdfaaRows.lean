/-
  No cell of these rows narrows 'for every input' (looked for: loops, veiled, ifaces, maps, wideKeys, modest, calm, conditions, laid).
  DERIVED. THE GIVEN ROWS OF THIS SEAT. 6 by the template 'for every input the law returns true; each argument reads behind the call as it read before'; 0 by the template 'total and deterministic' (their statements: YtchkdinmnbjdfaaTotals.lean).
  GIVEN WITH THE SEED: the statements are not yours to turn. If you find one false, say at which input.
  Laid BY PROGRAM, IN A SANDBOX (cutbox-rows.mjs): the forced cells as the released guide's own fill.sh prints them over the translation 9fca1bca71408f3b… (all of the seat's roots in one cut). By AI agents, Wed Nov 11 2026. No macro, syntax, notation, axiom, sorry.
-/
import Derived.Test.YtchkdinmnbjdfaaChecked
import GoSem.Claim
import GoSem.ClaimJoined
import GoSem.ClaimMapViews
import Derived.JoinedTies
import Derived.KernelRfl
namespace Go.Proofs.Ytchkdinmnbjdfaa
/- THE CELL 'sum', in the pinned program and in every row, IS THE sha256 OF THE DUMP (.gsa) THAT YtchkdinmnbjdfaaProg.lean LOADS. Nothing in Lean hashes anything: it is a label: what it is worth is what the hold of that sum in a sandbox is worth. -/
noncomputable def Try.pinned : Pinned := { name := "ytchkdinmnbjdfaa", sum := "9fca1bca71408f3b09dfe14f595e54211857599cbb114277e4e83704a9a16a93", checked := Try.checked }
namespace Rows
def none {H : Type} : Left H := { results := [], args := [] }

/-- 'ropewaylaw06.TagNames': WHATEVER THE INPUT: true; the input reads as it did. -/
def tagNamesSpec : ChangeSpec := { name := "tagNames", fn := fun _ => fun
  | [] => { results := [.lit (.bool true)], args := [] }
  | _ => none }
def tagNamesRow : OpenClaim := { program := "ytchkdinmnbjdfaa", sum := "9fca1bca71408f3b09dfe14f595e54211857599cbb114277e4e83704a9a16a93", func := "ropeway/ropewaylaw06.TagNames", spec := "tagNames", apart := false }
def TagNamesSaid : Prop := tagNamesRow.holds Try.pinned (OpenSpec.ofChange tagNamesSpec)

/-- ITS FALSE NEIGHBOUR: 'it returns false'. Refute it at one input. -/
def tagNamesWrong : ChangeSpec := { name := "tagNames", fn := fun _ => fun
  | [] => { results := [.lit (.bool false)], args := [] }
  | _ => none }
def TagNamesWrongFalsely : Prop := tagNamesRow.holds Try.pinned (OpenSpec.ofChange tagNamesWrong)

/-- 'ropewaylaw06.TagTells': WHATEVER THE INPUT: true; the input reads as it did. -/
def tagTellsSpec : ChangeSpec := { name := "tagTells", fn := fun _ => fun
  | [d1, d2, d3] => { results := [.lit (.bool true)], args := [d1, d2, d3] }
  | _ => none }
def tagTellsRow : OpenClaim := { program := "ytchkdinmnbjdfaa", sum := "9fca1bca71408f3b09dfe14f595e54211857599cbb114277e4e83704a9a16a93", func := "ropeway/ropewaylaw06.TagTells", spec := "tagTells", apart := false }
def TagTellsSaid : Prop := tagTellsRow.holds Try.pinned (OpenSpec.ofChange tagTellsSpec)

/-- ITS FALSE NEIGHBOUR: 'it returns false'. Refute it at one input. -/
def tagTellsWrong : ChangeSpec := { name := "tagTells", fn := fun _ => fun
  | [d1, d2, d3] => { results := [.lit (.bool false)], args := [d1, d2, d3] }
  | _ => none }
def TagTellsWrongFalsely : Prop := tagTellsRow.holds Try.pinned (OpenSpec.ofChange tagTellsWrong)

/-- 'ropewaylaw06.TagNexts': WHATEVER THE INPUT: true; the input reads as it did. -/
def tagNextsSpec : ChangeSpec := { name := "tagNexts", fn := fun _ => fun
  | [d1, d2, d3] => { results := [.lit (.bool true)], args := [d1, d2, d3] }
  | _ => none }
def tagNextsRow : OpenClaim := { program := "ytchkdinmnbjdfaa", sum := "9fca1bca71408f3b09dfe14f595e54211857599cbb114277e4e83704a9a16a93", func := "ropeway/ropewaylaw06.TagNexts", spec := "tagNexts", apart := false }
def TagNextsSaid : Prop := tagNextsRow.holds Try.pinned (OpenSpec.ofChange tagNextsSpec)

/-- ITS FALSE NEIGHBOUR: 'it returns false'. Refute it at one input. -/
def tagNextsWrong : ChangeSpec := { name := "tagNexts", fn := fun _ => fun
  | [d1, d2, d3] => { results := [.lit (.bool false)], args := [d1, d2, d3] }
  | _ => none }
def TagNextsWrongFalsely : Prop := tagNextsRow.holds Try.pinned (OpenSpec.ofChange tagNextsWrong)

/-- 'ropewaylaw06.TagNewer': WHATEVER THE INPUT: true; the input reads as it did. -/
def tagNewerSpec : ChangeSpec := { name := "tagNewer", fn := fun _ => fun
  | [d1, d2, d3] => { results := [.lit (.bool true)], args := [d1, d2, d3] }
  | _ => none }
def tagNewerRow : OpenClaim := { program := "ytchkdinmnbjdfaa", sum := "9fca1bca71408f3b09dfe14f595e54211857599cbb114277e4e83704a9a16a93", func := "ropeway/ropewaylaw06.TagNewer", spec := "tagNewer", apart := false }
def TagNewerSaid : Prop := tagNewerRow.holds Try.pinned (OpenSpec.ofChange tagNewerSpec)

/-- ITS FALSE NEIGHBOUR: 'it returns false'. Refute it at one input. -/
def tagNewerWrong : ChangeSpec := { name := "tagNewer", fn := fun _ => fun
  | [d1, d2, d3] => { results := [.lit (.bool false)], args := [d1, d2, d3] }
  | _ => none }
def TagNewerWrongFalsely : Prop := tagNewerRow.holds Try.pinned (OpenSpec.ofChange tagNewerWrong)

/-- 'ropewaylaw06.TagChain': WHATEVER THE INPUT: true; the input reads as it did. -/
def tagChainSpec : ChangeSpec := { name := "tagChain", fn := fun _ => fun
  | [d1, d2, d3] => { results := [.lit (.bool true)], args := [d1, d2, d3] }
  | _ => none }
def tagChainRow : OpenClaim := { program := "ytchkdinmnbjdfaa", sum := "9fca1bca71408f3b09dfe14f595e54211857599cbb114277e4e83704a9a16a93", func := "ropeway/ropewaylaw06.TagChain", spec := "tagChain", apart := false }
def TagChainSaid : Prop := tagChainRow.holds Try.pinned (OpenSpec.ofChange tagChainSpec)

/-- ITS FALSE NEIGHBOUR: 'it returns false'. Refute it at one input. -/
def tagChainWrong : ChangeSpec := { name := "tagChain", fn := fun _ => fun
  | [d1, d2, d3] => { results := [.lit (.bool false)], args := [d1, d2, d3] }
  | _ => none }
def TagChainWrongFalsely : Prop := tagChainRow.holds Try.pinned (OpenSpec.ofChange tagChainWrong)

/-- 'ropewaylaw06.TagSeen': WHATEVER THE INPUT: true; the input reads as it did. -/
def tagSeenSpec : ChangeSpec := { name := "tagSeen", fn := fun _ => fun
  | [d1, d2, d3] => { results := [.lit (.bool true)], args := [d1, d2, d3] }
  | _ => none }
def tagSeenRow : OpenClaim := { program := "ytchkdinmnbjdfaa", sum := "9fca1bca71408f3b09dfe14f595e54211857599cbb114277e4e83704a9a16a93", func := "ropeway/ropewaylaw06.TagSeen", spec := "tagSeen", apart := false }
def TagSeenSaid : Prop := tagSeenRow.holds Try.pinned (OpenSpec.ofChange tagSeenSpec)

/-- ITS FALSE NEIGHBOUR: 'it returns false'. Refute it at one input. -/
def tagSeenWrong : ChangeSpec := { name := "tagSeen", fn := fun _ => fun
  | [d1, d2, d3] => { results := [.lit (.bool false)], args := [d1, d2, d3] }
  | _ => none }
def TagSeenWrongFalsely : Prop := tagSeenRow.holds Try.pinned (OpenSpec.ofChange tagSeenWrong)

/- THE SECOND FORM. 'bulk': how many values and letters a reading holds, each counted each time it is reached (what is shared counts as often as it is met; a slice's spare places count too). A statement '..UptoSaid' is the law's where the arguments, and the package variables that the reading takes, are together of bulk at most 1048576: NARROWER than '..Said'. Prove '..Said' where nothing that the law and all that it calls make is longer than what came in: it says more and counts as full. Else prove '..UptoSaid'. A law counts once. -/
mutual
def uptoBulk {H : Type} : DataW H → Nat
  | .lit (.string bytes) => bytes.length + 1
  | .lit _ => 1
  | .nil => 1
  | .ptr d => uptoBulk d + 1
  | .slice elems spare => uptoBulkAll elems + uptoBulkAll spare + 1
  | .agg parts => uptoBulkAll parts + 1
  | .iface _ d => uptoBulk d + 1
  | .map entries => uptoBulkEntries entries + 1
  | .held _ => 1
def uptoBulkAll {H : Type} : List (DataW H) → Nat
  | [] => 0
  | d :: r => uptoBulk d + uptoBulkAll r
def uptoBulkEntries {H : Type} : List (Lit × DataW H) → Nat
  | [] => 0
  | x :: r => uptoBulkEntry x + uptoBulkEntries r
def uptoBulkEntry {H : Type} : Lit × DataW H → Nat
  | (.string bytes, d) => bytes.length + uptoBulk d + 1
  | (_, d) => uptoBulk d + 1
 end
def uptoSmall : (H : Type) → List (DataW H) → Bool := fun _ ds => decide (uptoBulkAll ds ≤ 1048576)
def OpenSpec.upto (s : _root_.Go.ChangeSpec) : _root_.Go.OpenSpec := { _root_.Go.OpenSpec.ofChange s with cond := some uptoSmall }

/-- 'ropewaylaw06.TagNames', WHERE WHAT IT READS IS OF BULK AT MOST 1048576: true; the input reads as it did. -/
def tagNamesUptoRow : OpenClaim := { program := "ytchkdinmnbjdfaa", sum := "9fca1bca71408f3b09dfe14f595e54211857599cbb114277e4e83704a9a16a93", func := "ropeway/ropewaylaw06.TagNames", spec := "tagNames", apart := false, narrowed := true }
def TagNamesUptoSaid : Prop := tagNamesUptoRow.holds Try.pinned (OpenSpec.upto tagNamesSpec)

/-- 'ropewaylaw06.TagTells', WHERE WHAT IT READS IS OF BULK AT MOST 1048576: true; the input reads as it did. -/
def tagTellsUptoRow : OpenClaim := { program := "ytchkdinmnbjdfaa", sum := "9fca1bca71408f3b09dfe14f595e54211857599cbb114277e4e83704a9a16a93", func := "ropeway/ropewaylaw06.TagTells", spec := "tagTells", apart := false, narrowed := true }
def TagTellsUptoSaid : Prop := tagTellsUptoRow.holds Try.pinned (OpenSpec.upto tagTellsSpec)

/-- 'ropewaylaw06.TagNexts', WHERE WHAT IT READS IS OF BULK AT MOST 1048576: true; the input reads as it did. -/
def tagNextsUptoRow : OpenClaim := { program := "ytchkdinmnbjdfaa", sum := "9fca1bca71408f3b09dfe14f595e54211857599cbb114277e4e83704a9a16a93", func := "ropeway/ropewaylaw06.TagNexts", spec := "tagNexts", apart := false, narrowed := true }
def TagNextsUptoSaid : Prop := tagNextsUptoRow.holds Try.pinned (OpenSpec.upto tagNextsSpec)

/-- 'ropewaylaw06.TagNewer', WHERE WHAT IT READS IS OF BULK AT MOST 1048576: true; the input reads as it did. -/
def tagNewerUptoRow : OpenClaim := { program := "ytchkdinmnbjdfaa", sum := "9fca1bca71408f3b09dfe14f595e54211857599cbb114277e4e83704a9a16a93", func := "ropeway/ropewaylaw06.TagNewer", spec := "tagNewer", apart := false, narrowed := true }
def TagNewerUptoSaid : Prop := tagNewerUptoRow.holds Try.pinned (OpenSpec.upto tagNewerSpec)

/-- 'ropewaylaw06.TagChain', WHERE WHAT IT READS IS OF BULK AT MOST 1048576: true; the input reads as it did. -/
def tagChainUptoRow : OpenClaim := { program := "ytchkdinmnbjdfaa", sum := "9fca1bca71408f3b09dfe14f595e54211857599cbb114277e4e83704a9a16a93", func := "ropeway/ropewaylaw06.TagChain", spec := "tagChain", apart := false, narrowed := true }
def TagChainUptoSaid : Prop := tagChainUptoRow.holds Try.pinned (OpenSpec.upto tagChainSpec)

/-- 'ropewaylaw06.TagSeen', WHERE WHAT IT READS IS OF BULK AT MOST 1048576: true; the input reads as it did. -/
def tagSeenUptoRow : OpenClaim := { program := "ytchkdinmnbjdfaa", sum := "9fca1bca71408f3b09dfe14f595e54211857599cbb114277e4e83704a9a16a93", func := "ropeway/ropewaylaw06.TagSeen", spec := "tagSeen", apart := false, narrowed := true }
def TagSeenUptoSaid : Prop := tagSeenUptoRow.holds Try.pinned (OpenSpec.upto tagSeenSpec)

end Rows
end Go.Proofs.Ytchkdinmnbjdfaa
