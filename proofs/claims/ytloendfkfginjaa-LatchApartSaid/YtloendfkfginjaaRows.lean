/-
  No cell of these rows narrows 'for every input' (looked for: loops, veiled, ifaces, maps, wideKeys, modest, calm, conditions, laid).
  DERIVED. THE GIVEN ROWS OF THIS SEAT. 5 by the template 'for every input the law returns true; each argument reads behind the call as it read before'; 0 by the template 'total and deterministic' (their statements: YtloendfkfginjaaTotals.lean).
  GIVEN WITH THE SEED: the statements are not yours to turn. If you find one false, say at which input.
  Laid BY PROGRAM, IN A SANDBOX (cutbox-rows.mjs): the forced cells as the released guide's own fill.sh prints them over the translation 831e6fde43529503… (all of the seat's roots in one cut). By AI agents, Wed Nov 11 2026. No macro, syntax, notation, axiom, sorry.
-/
import Derived.Test.YtloendfkfginjaaChecked
import GoSem.Claim
import GoSem.ClaimJoined
import GoSem.ClaimMapViews
import Derived.JoinedTies
import Derived.KernelRfl
namespace Go.Proofs.Ytloendfkfginjaa
/- THE CELL 'sum', in the pinned program and in every row, IS THE sha256 OF THE DUMP (.gsa) THAT YtloendfkfginjaaProg.lean LOADS. Nothing in Lean hashes anything: it is a label: what it is worth is what the hold of that sum in a sandbox is worth. -/
noncomputable def Try.pinned : Pinned := { name := "ytloendfkfginjaa", sum := "831e6fde43529503e7e1a64f6214db48379b93d7a0ef95e7e1cac6dd49ea5321", checked := Try.checked }
namespace Rows
def none {H : Type} : Left H := { results := [], args := [] }

/-- 'latchstringlaw05.LatchNames': WHATEVER THE INPUT: true; the input reads as it did. -/
def latchNamesSpec : ChangeSpec := { name := "latchNames", fn := fun _ => fun
  | [] => { results := [.lit (.bool true)], args := [] }
  | _ => none }
def latchNamesRow : OpenClaim := { program := "ytloendfkfginjaa", sum := "831e6fde43529503e7e1a64f6214db48379b93d7a0ef95e7e1cac6dd49ea5321", func := "latchstring/latchstringlaw05.LatchNames", spec := "latchNames", apart := false }
def LatchNamesSaid : Prop := latchNamesRow.holds Try.pinned (OpenSpec.ofChange latchNamesSpec)

/-- ITS FALSE NEIGHBOUR: 'it returns false'. Refute it at one input. -/
def latchNamesWrong : ChangeSpec := { name := "latchNames", fn := fun _ => fun
  | [] => { results := [.lit (.bool false)], args := [] }
  | _ => none }
def LatchNamesWrongFalsely : Prop := latchNamesRow.holds Try.pinned (OpenSpec.ofChange latchNamesWrong)

/-- 'latchstringlaw05.LatchScript': WHATEVER THE INPUT: true; the input reads as it did. -/
def latchScriptSpec : ChangeSpec := { name := "latchScript", fn := fun _ => fun
  | [d1, d2] => { results := [.lit (.bool true)], args := [d1, d2] }
  | _ => none }
def latchScriptRow : OpenClaim := { program := "ytloendfkfginjaa", sum := "831e6fde43529503e7e1a64f6214db48379b93d7a0ef95e7e1cac6dd49ea5321", func := "latchstring/latchstringlaw05.LatchScript", spec := "latchScript", apart := false }
def LatchScriptSaid : Prop := latchScriptRow.holds Try.pinned (OpenSpec.ofChange latchScriptSpec)

/-- ITS FALSE NEIGHBOUR: 'it returns false'. Refute it at one input. -/
def latchScriptWrong : ChangeSpec := { name := "latchScript", fn := fun _ => fun
  | [d1, d2] => { results := [.lit (.bool false)], args := [d1, d2] }
  | _ => none }
def LatchScriptWrongFalsely : Prop := latchScriptRow.holds Try.pinned (OpenSpec.ofChange latchScriptWrong)

/-- 'latchstringlaw05.LatchOne': WHATEVER THE INPUT: true; the input reads as it did. -/
def latchOneSpec : ChangeSpec := { name := "latchOne", fn := fun _ => fun
  | [d1, d2] => { results := [.lit (.bool true)], args := [d1, d2] }
  | _ => none }
def latchOneRow : OpenClaim := { program := "ytloendfkfginjaa", sum := "831e6fde43529503e7e1a64f6214db48379b93d7a0ef95e7e1cac6dd49ea5321", func := "latchstring/latchstringlaw05.LatchOne", spec := "latchOne", apart := false }
def LatchOneSaid : Prop := latchOneRow.holds Try.pinned (OpenSpec.ofChange latchOneSpec)

/-- ITS FALSE NEIGHBOUR: 'it returns false'. Refute it at one input. -/
def latchOneWrong : ChangeSpec := { name := "latchOne", fn := fun _ => fun
  | [d1, d2] => { results := [.lit (.bool false)], args := [d1, d2] }
  | _ => none }
def LatchOneWrongFalsely : Prop := latchOneRow.holds Try.pinned (OpenSpec.ofChange latchOneWrong)

/-- 'latchstringlaw05.LatchUndo': WHATEVER THE INPUT: true; the input reads as it did. -/
def latchUndoSpec : ChangeSpec := { name := "latchUndo", fn := fun _ => fun
  | [d1, d2, d3, d4] => { results := [.lit (.bool true)], args := [d1, d2, d3, d4] }
  | _ => none }
def latchUndoRow : OpenClaim := { program := "ytloendfkfginjaa", sum := "831e6fde43529503e7e1a64f6214db48379b93d7a0ef95e7e1cac6dd49ea5321", func := "latchstring/latchstringlaw05.LatchUndo", spec := "latchUndo", apart := false }
def LatchUndoSaid : Prop := latchUndoRow.holds Try.pinned (OpenSpec.ofChange latchUndoSpec)

/-- ITS FALSE NEIGHBOUR: 'it returns false'. Refute it at one input. -/
def latchUndoWrong : ChangeSpec := { name := "latchUndo", fn := fun _ => fun
  | [d1, d2, d3, d4] => { results := [.lit (.bool false)], args := [d1, d2, d3, d4] }
  | _ => none }
def LatchUndoWrongFalsely : Prop := latchUndoRow.holds Try.pinned (OpenSpec.ofChange latchUndoWrong)

/-- 'latchstringlaw05.LatchApart': WHATEVER THE INPUT: true; the input reads as it did. -/
def latchApartSpec : ChangeSpec := { name := "latchApart", fn := fun _ => fun
  | [d1, d2, d3] => { results := [.lit (.bool true)], args := [d1, d2, d3] }
  | _ => none }
def latchApartRow : OpenClaim := { program := "ytloendfkfginjaa", sum := "831e6fde43529503e7e1a64f6214db48379b93d7a0ef95e7e1cac6dd49ea5321", func := "latchstring/latchstringlaw05.LatchApart", spec := "latchApart", apart := false }
def LatchApartSaid : Prop := latchApartRow.holds Try.pinned (OpenSpec.ofChange latchApartSpec)

/-- ITS FALSE NEIGHBOUR: 'it returns false'. Refute it at one input. -/
def latchApartWrong : ChangeSpec := { name := "latchApart", fn := fun _ => fun
  | [d1, d2, d3] => { results := [.lit (.bool false)], args := [d1, d2, d3] }
  | _ => none }
def LatchApartWrongFalsely : Prop := latchApartRow.holds Try.pinned (OpenSpec.ofChange latchApartWrong)

/- THE SECOND FORM. 'bulk': how many values and letters a reading holds, each counted each time it is reached (what is shared counts as often as it is met; a slice's spare places count too). A statement '..UptoSaid' is the law's where the arguments, and the package variables that the reading takes, are together of bulk at most 1048576: NARROWER than '..Said'. Prove '..Said' where nothing that the law and all that it calls make is longer than what came in: it says more and counts as full. Else prove '..UptoSaid'. A law counts once. -/
mutual
def uptoBulk {H : Type} : DataW H → Nat
  | .lit (.string bytes) => bytes.length + 1
  | .lit _ => 1
  | .nil => 1
  | .ptr d => uptoBulk d + 1
  | .slice elems spare => uptoBulkAll elems + uptoBulkAll spare + 1
  | .agg parts => uptoBulkAll parts + 1
  | .iface _ d => uptoBulk d + 1
  | .map entries => uptoBulkEntries entries + 1
  | .held _ => 1
def uptoBulkAll {H : Type} : List (DataW H) → Nat
  | [] => 0
  | d :: r => uptoBulk d + uptoBulkAll r
def uptoBulkEntries {H : Type} : List (Lit × DataW H) → Nat
  | [] => 0
  | x :: r => uptoBulkEntry x + uptoBulkEntries r
def uptoBulkEntry {H : Type} : Lit × DataW H → Nat
  | (.string bytes, d) => bytes.length + uptoBulk d + 1
  | (_, d) => uptoBulk d + 1
 end
def uptoSmall : (H : Type) → List (DataW H) → Bool := fun _ ds => decide (uptoBulkAll ds ≤ 1048576)
def OpenSpec.upto (s : _root_.Go.ChangeSpec) : _root_.Go.OpenSpec := { _root_.Go.OpenSpec.ofChange s with cond := some uptoSmall }

/-- 'latchstringlaw05.LatchNames', WHERE WHAT IT READS IS OF BULK AT MOST 1048576: true; the input reads as it did. -/
def latchNamesUptoRow : OpenClaim := { program := "ytloendfkfginjaa", sum := "831e6fde43529503e7e1a64f6214db48379b93d7a0ef95e7e1cac6dd49ea5321", func := "latchstring/latchstringlaw05.LatchNames", spec := "latchNames", apart := false, narrowed := true }
def LatchNamesUptoSaid : Prop := latchNamesUptoRow.holds Try.pinned (OpenSpec.upto latchNamesSpec)

/-- 'latchstringlaw05.LatchScript', WHERE WHAT IT READS IS OF BULK AT MOST 1048576: true; the input reads as it did. -/
def latchScriptUptoRow : OpenClaim := { program := "ytloendfkfginjaa", sum := "831e6fde43529503e7e1a64f6214db48379b93d7a0ef95e7e1cac6dd49ea5321", func := "latchstring/latchstringlaw05.LatchScript", spec := "latchScript", apart := false, narrowed := true }
def LatchScriptUptoSaid : Prop := latchScriptUptoRow.holds Try.pinned (OpenSpec.upto latchScriptSpec)

/-- 'latchstringlaw05.LatchOne', WHERE WHAT IT READS IS OF BULK AT MOST 1048576: true; the input reads as it did. -/
def latchOneUptoRow : OpenClaim := { program := "ytloendfkfginjaa", sum := "831e6fde43529503e7e1a64f6214db48379b93d7a0ef95e7e1cac6dd49ea5321", func := "latchstring/latchstringlaw05.LatchOne", spec := "latchOne", apart := false, narrowed := true }
def LatchOneUptoSaid : Prop := latchOneUptoRow.holds Try.pinned (OpenSpec.upto latchOneSpec)

/-- 'latchstringlaw05.LatchUndo', WHERE WHAT IT READS IS OF BULK AT MOST 1048576: true; the input reads as it did. -/
def latchUndoUptoRow : OpenClaim := { program := "ytloendfkfginjaa", sum := "831e6fde43529503e7e1a64f6214db48379b93d7a0ef95e7e1cac6dd49ea5321", func := "latchstring/latchstringlaw05.LatchUndo", spec := "latchUndo", apart := false, narrowed := true }
def LatchUndoUptoSaid : Prop := latchUndoUptoRow.holds Try.pinned (OpenSpec.upto latchUndoSpec)

/-- 'latchstringlaw05.LatchApart', WHERE WHAT IT READS IS OF BULK AT MOST 1048576: true; the input reads as it did. -/
def latchApartUptoRow : OpenClaim := { program := "ytloendfkfginjaa", sum := "831e6fde43529503e7e1a64f6214db48379b93d7a0ef95e7e1cac6dd49ea5321", func := "latchstring/latchstringlaw05.LatchApart", spec := "latchApart", apart := false, narrowed := true }
def LatchApartUptoSaid : Prop := latchApartUptoRow.holds Try.pinned (OpenSpec.upto latchApartSpec)

end Rows
end Go.Proofs.Ytloendfkfginjaa
