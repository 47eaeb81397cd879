/-
  No cell of these rows narrows 'for every input' (looked for: loops, veiled, ifaces, maps, wideKeys, modest, calm, conditions, laid).
  DERIVED. THE GIVEN ROWS OF THIS SEAT. 5 by the template 'for every input the law returns true; each argument reads behind the call as it read before'; 0 by the template 'total and deterministic' (their statements: YtbgpnjoghfjodaaTotals.lean).
  GIVEN WITH THE SEED: the statements are not yours to turn. If you find one false, say at which input.
  Laid BY PROGRAM, IN A SANDBOX (cutbox-rows.mjs): the forced cells as the released guide's own fill.sh prints them over the translation 5c84281c2fed263e… (all of the seat's roots in one cut). By AI agents, Wed Nov 11 2026. No macro, syntax, notation, axiom, sorry.
-/
import Derived.Test.YtbgpnjoghfjodaaChecked
import GoSem.Claim
import GoSem.ClaimJoined
import GoSem.ClaimMapViews
import Derived.JoinedTies
import Derived.KernelRfl
namespace Go.Proofs.Ytbgpnjoghfjodaa
/- THE CELL 'sum', in the pinned program and in every row, IS THE sha256 OF THE DUMP (.gsa) THAT YtbgpnjoghfjodaaProg.lean LOADS. Nothing in Lean hashes anything: it is a label: what it is worth is what the hold of that sum in a sandbox is worth. -/
noncomputable def Try.pinned : Pinned := { name := "ytbgpnjoghfjodaa", sum := "5c84281c2fed263e589f0c0dc332e3c83303c312edcd8c77ad548b4670cd055b", checked := Try.checked }
namespace Rows
def none {H : Type} : Left H := { results := [], args := [] }

/-- 'latchstringlaw06.ParkerNames': WHATEVER THE INPUT: true; the input reads as it did. -/
def parkerNamesSpec : ChangeSpec := { name := "parkerNames", fn := fun _ => fun
  | [] => { results := [.lit (.bool true)], args := [] }
  | _ => none }
def parkerNamesRow : OpenClaim := { program := "ytbgpnjoghfjodaa", sum := "5c84281c2fed263e589f0c0dc332e3c83303c312edcd8c77ad548b4670cd055b", func := "latchstring/latchstringlaw06.ParkerNames", spec := "parkerNames", apart := false }
def ParkerNamesSaid : Prop := parkerNamesRow.holds Try.pinned (OpenSpec.ofChange parkerNamesSpec)

/-- ITS FALSE NEIGHBOUR: 'it returns false'. Refute it at one input. -/
def parkerNamesWrong : ChangeSpec := { name := "parkerNames", fn := fun _ => fun
  | [] => { results := [.lit (.bool false)], args := [] }
  | _ => none }
def ParkerNamesWrongFalsely : Prop := parkerNamesRow.holds Try.pinned (OpenSpec.ofChange parkerNamesWrong)

/-- 'latchstringlaw06.ParkerScript': WHATEVER THE INPUT: true; the input reads as it did. -/
def parkerScriptSpec : ChangeSpec := { name := "parkerScript", fn := fun _ => fun
  | [d1, d2] => { results := [.lit (.bool true)], args := [d1, d2] }
  | _ => none }
def parkerScriptRow : OpenClaim := { program := "ytbgpnjoghfjodaa", sum := "5c84281c2fed263e589f0c0dc332e3c83303c312edcd8c77ad548b4670cd055b", func := "latchstring/latchstringlaw06.ParkerScript", spec := "parkerScript", apart := false }
def ParkerScriptSaid : Prop := parkerScriptRow.holds Try.pinned (OpenSpec.ofChange parkerScriptSpec)

/-- ITS FALSE NEIGHBOUR: 'it returns false'. Refute it at one input. -/
def parkerScriptWrong : ChangeSpec := { name := "parkerScript", fn := fun _ => fun
  | [d1, d2] => { results := [.lit (.bool false)], args := [d1, d2] }
  | _ => none }
def ParkerScriptWrongFalsely : Prop := parkerScriptRow.holds Try.pinned (OpenSpec.ofChange parkerScriptWrong)

/-- 'latchstringlaw06.ParkerWakes': WHATEVER THE INPUT: true; the input reads as it did. -/
def parkerWakesSpec : ChangeSpec := { name := "parkerWakes", fn := fun _ => fun
  | [d] => { results := [.lit (.bool true)], args := [d] }
  | _ => none }
def parkerWakesRow : OpenClaim := { program := "ytbgpnjoghfjodaa", sum := "5c84281c2fed263e589f0c0dc332e3c83303c312edcd8c77ad548b4670cd055b", func := "latchstring/latchstringlaw06.ParkerWakes", spec := "parkerWakes", apart := false }
def ParkerWakesSaid : Prop := parkerWakesRow.holds Try.pinned (OpenSpec.ofChange parkerWakesSpec)

/-- ITS FALSE NEIGHBOUR: 'it returns false'. Refute it at one input. -/
def parkerWakesWrong : ChangeSpec := { name := "parkerWakes", fn := fun _ => fun
  | [d] => { results := [.lit (.bool false)], args := [d] }
  | _ => none }
def ParkerWakesWrongFalsely : Prop := parkerWakesRow.holds Try.pinned (OpenSpec.ofChange parkerWakesWrong)

/-- 'latchstringlaw06.ParkerApart': WHATEVER THE INPUT: true; the input reads as it did. -/
def parkerApartSpec : ChangeSpec := { name := "parkerApart", fn := fun _ => fun
  | [d1, d2, d3] => { results := [.lit (.bool true)], args := [d1, d2, d3] }
  | _ => none }
def parkerApartRow : OpenClaim := { program := "ytbgpnjoghfjodaa", sum := "5c84281c2fed263e589f0c0dc332e3c83303c312edcd8c77ad548b4670cd055b", func := "latchstring/latchstringlaw06.ParkerApart", spec := "parkerApart", apart := false }
def ParkerApartSaid : Prop := parkerApartRow.holds Try.pinned (OpenSpec.ofChange parkerApartSpec)

/-- ITS FALSE NEIGHBOUR: 'it returns false'. Refute it at one input. -/
def parkerApartWrong : ChangeSpec := { name := "parkerApart", fn := fun _ => fun
  | [d1, d2, d3] => { results := [.lit (.bool false)], args := [d1, d2, d3] }
  | _ => none }
def ParkerApartWrongFalsely : Prop := parkerApartRow.holds Try.pinned (OpenSpec.ofChange parkerApartWrong)

/-- 'latchstringlaw06.ParkerBack': WHATEVER THE INPUT: true; the input reads as it did. -/
def parkerBackSpec : ChangeSpec := { name := "parkerBack", fn := fun _ => fun
  | [d1, d2, d3] => { results := [.lit (.bool true)], args := [d1, d2, d3] }
  | _ => none }
def parkerBackRow : OpenClaim := { program := "ytbgpnjoghfjodaa", sum := "5c84281c2fed263e589f0c0dc332e3c83303c312edcd8c77ad548b4670cd055b", func := "latchstring/latchstringlaw06.ParkerBack", spec := "parkerBack", apart := false }
def ParkerBackSaid : Prop := parkerBackRow.holds Try.pinned (OpenSpec.ofChange parkerBackSpec)

/-- ITS FALSE NEIGHBOUR: 'it returns false'. Refute it at one input. -/
def parkerBackWrong : ChangeSpec := { name := "parkerBack", fn := fun _ => fun
  | [d1, d2, d3] => { results := [.lit (.bool false)], args := [d1, d2, d3] }
  | _ => none }
def ParkerBackWrongFalsely : Prop := parkerBackRow.holds Try.pinned (OpenSpec.ofChange parkerBackWrong)

/- THE SECOND FORM. 'bulk': how many values and letters a reading holds, each counted each time it is reached (what is shared counts as often as it is met; a slice's spare places count too). A statement '..UptoSaid' is the law's where the arguments, and the package variables that the reading takes, are together of bulk at most 1048576: NARROWER than '..Said'. Prove '..Said' where nothing that the law and all that it calls make is longer than what came in: it says more and counts as full. Else prove '..UptoSaid'. A law counts once. -/
mutual
def uptoBulk {H : Type} : DataW H → Nat
  | .lit (.string bytes) => bytes.length + 1
  | .lit _ => 1
  | .nil => 1
  | .ptr d => uptoBulk d + 1
  | .slice elems spare => uptoBulkAll elems + uptoBulkAll spare + 1
  | .agg parts => uptoBulkAll parts + 1
  | .iface _ d => uptoBulk d + 1
  | .map entries => uptoBulkEntries entries + 1
  | .held _ => 1
def uptoBulkAll {H : Type} : List (DataW H) → Nat
  | [] => 0
  | d :: r => uptoBulk d + uptoBulkAll r
def uptoBulkEntries {H : Type} : List (Lit × DataW H) → Nat
  | [] => 0
  | x :: r => uptoBulkEntry x + uptoBulkEntries r
def uptoBulkEntry {H : Type} : Lit × DataW H → Nat
  | (.string bytes, d) => bytes.length + uptoBulk d + 1
  | (_, d) => uptoBulk d + 1
 end
def uptoSmall : (H : Type) → List (DataW H) → Bool := fun _ ds => decide (uptoBulkAll ds ≤ 1048576)
def OpenSpec.upto (s : _root_.Go.ChangeSpec) : _root_.Go.OpenSpec := { _root_.Go.OpenSpec.ofChange s with cond := some uptoSmall }

/-- 'latchstringlaw06.ParkerNames', WHERE WHAT IT READS IS OF BULK AT MOST 1048576: true; the input reads as it did. -/
def parkerNamesUptoRow : OpenClaim := { program := "ytbgpnjoghfjodaa", sum := "5c84281c2fed263e589f0c0dc332e3c83303c312edcd8c77ad548b4670cd055b", func := "latchstring/latchstringlaw06.ParkerNames", spec := "parkerNames", apart := false, narrowed := true }
def ParkerNamesUptoSaid : Prop := parkerNamesUptoRow.holds Try.pinned (OpenSpec.upto parkerNamesSpec)

/-- 'latchstringlaw06.ParkerScript', WHERE WHAT IT READS IS OF BULK AT MOST 1048576: true; the input reads as it did. -/
def parkerScriptUptoRow : OpenClaim := { program := "ytbgpnjoghfjodaa", sum := "5c84281c2fed263e589f0c0dc332e3c83303c312edcd8c77ad548b4670cd055b", func := "latchstring/latchstringlaw06.ParkerScript", spec := "parkerScript", apart := false, narrowed := true }
def ParkerScriptUptoSaid : Prop := parkerScriptUptoRow.holds Try.pinned (OpenSpec.upto parkerScriptSpec)

/-- 'latchstringlaw06.ParkerWakes', WHERE WHAT IT READS IS OF BULK AT MOST 1048576: true; the input reads as it did. -/
def parkerWakesUptoRow : OpenClaim := { program := "ytbgpnjoghfjodaa", sum := "5c84281c2fed263e589f0c0dc332e3c83303c312edcd8c77ad548b4670cd055b", func := "latchstring/latchstringlaw06.ParkerWakes", spec := "parkerWakes", apart := false, narrowed := true }
def ParkerWakesUptoSaid : Prop := parkerWakesUptoRow.holds Try.pinned (OpenSpec.upto parkerWakesSpec)

/-- 'latchstringlaw06.ParkerApart', WHERE WHAT IT READS IS OF BULK AT MOST 1048576: true; the input reads as it did. -/
def parkerApartUptoRow : OpenClaim := { program := "ytbgpnjoghfjodaa", sum := "5c84281c2fed263e589f0c0dc332e3c83303c312edcd8c77ad548b4670cd055b", func := "latchstring/latchstringlaw06.ParkerApart", spec := "parkerApart", apart := false, narrowed := true }
def ParkerApartUptoSaid : Prop := parkerApartUptoRow.holds Try.pinned (OpenSpec.upto parkerApartSpec)

/-- 'latchstringlaw06.ParkerBack', WHERE WHAT IT READS IS OF BULK AT MOST 1048576: true; the input reads as it did. -/
def parkerBackUptoRow : OpenClaim := { program := "ytbgpnjoghfjodaa", sum := "5c84281c2fed263e589f0c0dc332e3c83303c312edcd8c77ad548b4670cd055b", func := "latchstring/latchstringlaw06.ParkerBack", spec := "parkerBack", apart := false, narrowed := true }
def ParkerBackUptoSaid : Prop := parkerBackUptoRow.holds Try.pinned (OpenSpec.upto parkerBackSpec)

end Rows
end Go.Proofs.Ytbgpnjoghfjodaa
