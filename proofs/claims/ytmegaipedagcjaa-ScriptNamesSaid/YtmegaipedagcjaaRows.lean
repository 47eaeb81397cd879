/-
  No cell of these rows narrows 'for every input' (looked for: loops, veiled, ifaces, maps, wideKeys, modest, calm, conditions, laid).
  DERIVED. THE GIVEN ROWS OF THIS SEAT. 5 by the template 'for every input the law returns true; each argument reads behind the call as it read before'; 0 by the template 'total and deterministic' (their statements: YtmegaipedagcjaaTotals.lean).
  GIVEN WITH THE SEED: the statements are not yours to turn. If you find one false, say at which input.
  Laid BY PROGRAM, IN A SANDBOX (cutbox-rows.mjs): the forced cells as the released guide's own fill.sh prints them over the translation 839620d9c1fc760e… (all of the seat's roots in one cut). By AI agents, Wed Nov 11 2026. No macro, syntax, notation, axiom, sorry.
-/
import Derived.Test.YtmegaipedagcjaaChecked
import GoSem.Claim
import GoSem.ClaimJoined
import GoSem.ClaimMapViews
import Derived.JoinedTies
import Derived.KernelRfl
namespace Go.Proofs.Ytmegaipedagcjaa
/- THE CELL 'sum', in the pinned program and in every row, IS THE sha256 OF THE DUMP (.gsa) THAT YtmegaipedagcjaaProg.lean LOADS. Nothing in Lean hashes anything: it is a label: what it is worth is what the hold of that sum in a sandbox is worth. -/
noncomputable def Try.pinned : Pinned := { name := "ytmegaipedagcjaa", sum := "839620d9c1fc760e72a68d53e7357a7ecb4a3dac47f51ab9aabf4afad5d05cd1", checked := Try.checked }
namespace Rows
def none {H : Type} : Left H := { results := [], args := [] }

/-- 'latchstringlaw07.ScriptNames': WHATEVER THE INPUT: true; the input reads as it did. -/
def scriptNamesSpec : ChangeSpec := { name := "scriptNames", fn := fun _ => fun
  | [] => { results := [.lit (.bool true)], args := [] }
  | _ => none }
def scriptNamesRow : OpenClaim := { program := "ytmegaipedagcjaa", sum := "839620d9c1fc760e72a68d53e7357a7ecb4a3dac47f51ab9aabf4afad5d05cd1", func := "latchstring/latchstringlaw07.ScriptNames", spec := "scriptNames", inPlace := ["internal/abi.NoEscape"], unfollowed := true, recurses := true, apart := false }
def ScriptNamesSaid : Prop := scriptNamesRow.holds Try.pinned (OpenSpec.ofChange scriptNamesSpec)

/-- ITS FALSE NEIGHBOUR: 'it returns false'. Refute it at one input. -/
def scriptNamesWrong : ChangeSpec := { name := "scriptNames", fn := fun _ => fun
  | [] => { results := [.lit (.bool false)], args := [] }
  | _ => none }
def ScriptNamesWrongFalsely : Prop := scriptNamesRow.holds Try.pinned (OpenSpec.ofChange scriptNamesWrong)

/-- 'latchstringlaw07.ScriptBack': WHATEVER THE INPUT: true; the input reads as it did. -/
def scriptBackSpec : ChangeSpec := { name := "scriptBack", fn := fun _ => fun
  | [d1, d2] => { results := [.lit (.bool true)], args := [d1, d2] }
  | _ => none }
def scriptBackRow : OpenClaim := { program := "ytmegaipedagcjaa", sum := "839620d9c1fc760e72a68d53e7357a7ecb4a3dac47f51ab9aabf4afad5d05cd1", func := "latchstring/latchstringlaw07.ScriptBack", spec := "scriptBack", inPlace := ["internal/abi.NoEscape"], unfollowed := true, recurses := true, apart := false }
def ScriptBackSaid : Prop := scriptBackRow.holds Try.pinned (OpenSpec.ofChange scriptBackSpec)

/-- ITS FALSE NEIGHBOUR: 'it returns false'. Refute it at one input. -/
def scriptBackWrong : ChangeSpec := { name := "scriptBack", fn := fun _ => fun
  | [d1, d2] => { results := [.lit (.bool false)], args := [d1, d2] }
  | _ => none }
def ScriptBackWrongFalsely : Prop := scriptBackRow.holds Try.pinned (OpenSpec.ofChange scriptBackWrong)

/-- 'latchstringlaw07.ScriptSkips': WHATEVER THE INPUT: true; the input reads as it did. -/
def scriptSkipsSpec : ChangeSpec := { name := "scriptSkips", fn := fun _ => fun
  | [d1, d2, d3, d4] => { results := [.lit (.bool true)], args := [d1, d2, d3, d4] }
  | _ => none }
def scriptSkipsRow : OpenClaim := { program := "ytmegaipedagcjaa", sum := "839620d9c1fc760e72a68d53e7357a7ecb4a3dac47f51ab9aabf4afad5d05cd1", func := "latchstring/latchstringlaw07.ScriptSkips", spec := "scriptSkips", unfollowed := true, recurses := true, apart := false }
def ScriptSkipsSaid : Prop := scriptSkipsRow.holds Try.pinned (OpenSpec.ofChange scriptSkipsSpec)

/-- ITS FALSE NEIGHBOUR: 'it returns false'. Refute it at one input. -/
def scriptSkipsWrong : ChangeSpec := { name := "scriptSkips", fn := fun _ => fun
  | [d1, d2, d3, d4] => { results := [.lit (.bool false)], args := [d1, d2, d3, d4] }
  | _ => none }
def ScriptSkipsWrongFalsely : Prop := scriptSkipsRow.holds Try.pinned (OpenSpec.ofChange scriptSkipsWrong)

/-- 'latchstringlaw07.ScriptOps': WHATEVER THE INPUT: true; the input reads as it did. -/
def scriptOpsSpec : ChangeSpec := { name := "scriptOps", fn := fun _ => fun
  | [d1, d2, d3] => { results := [.lit (.bool true)], args := [d1, d2, d3] }
  | _ => none }
def scriptOpsRow : OpenClaim := { program := "ytmegaipedagcjaa", sum := "839620d9c1fc760e72a68d53e7357a7ecb4a3dac47f51ab9aabf4afad5d05cd1", func := "latchstring/latchstringlaw07.ScriptOps", spec := "scriptOps", unfollowed := true, recurses := true, apart := false }
def ScriptOpsSaid : Prop := scriptOpsRow.holds Try.pinned (OpenSpec.ofChange scriptOpsSpec)

/-- ITS FALSE NEIGHBOUR: 'it returns false'. Refute it at one input. -/
def scriptOpsWrong : ChangeSpec := { name := "scriptOps", fn := fun _ => fun
  | [d1, d2, d3] => { results := [.lit (.bool false)], args := [d1, d2, d3] }
  | _ => none }
def ScriptOpsWrongFalsely : Prop := scriptOpsRow.holds Try.pinned (OpenSpec.ofChange scriptOpsWrong)

/-- 'latchstringlaw07.ScriptPicks': WHATEVER THE INPUT: true; the input reads as it did. -/
def scriptPicksSpec : ChangeSpec := { name := "scriptPicks", fn := fun _ => fun
  | [d1, d2] => { results := [.lit (.bool true)], args := [d1, d2] }
  | _ => none }
def scriptPicksRow : OpenClaim := { program := "ytmegaipedagcjaa", sum := "839620d9c1fc760e72a68d53e7357a7ecb4a3dac47f51ab9aabf4afad5d05cd1", func := "latchstring/latchstringlaw07.ScriptPicks", spec := "scriptPicks", unfollowed := true, recurses := true, apart := false }
def ScriptPicksSaid : Prop := scriptPicksRow.holds Try.pinned (OpenSpec.ofChange scriptPicksSpec)

/-- ITS FALSE NEIGHBOUR: 'it returns false'. Refute it at one input. -/
def scriptPicksWrong : ChangeSpec := { name := "scriptPicks", fn := fun _ => fun
  | [d1, d2] => { results := [.lit (.bool false)], args := [d1, d2] }
  | _ => none }
def ScriptPicksWrongFalsely : Prop := scriptPicksRow.holds Try.pinned (OpenSpec.ofChange scriptPicksWrong)

/- THE SECOND FORM. 'bulk': how many values and letters a reading holds, each counted each time it is reached (what is shared counts as often as it is met; a slice's spare places count too). A statement '..UptoSaid' is the law's where the arguments, and the package variables that the reading takes, are together of bulk at most 1048576: NARROWER than '..Said'. Prove '..Said' where nothing that the law and all that it calls make is longer than what came in: it says more and counts as full. Else prove '..UptoSaid'. A law counts once. -/
mutual
def uptoBulk {H : Type} : DataW H → Nat
  | .lit (.string bytes) => bytes.length + 1
  | .lit _ => 1
  | .nil => 1
  | .ptr d => uptoBulk d + 1
  | .slice elems spare => uptoBulkAll elems + uptoBulkAll spare + 1
  | .agg parts => uptoBulkAll parts + 1
  | .iface _ d => uptoBulk d + 1
  | .map entries => uptoBulkEntries entries + 1
  | .held _ => 1
def uptoBulkAll {H : Type} : List (DataW H) → Nat
  | [] => 0
  | d :: r => uptoBulk d + uptoBulkAll r
def uptoBulkEntries {H : Type} : List (Lit × DataW H) → Nat
  | [] => 0
  | x :: r => uptoBulkEntry x + uptoBulkEntries r
def uptoBulkEntry {H : Type} : Lit × DataW H → Nat
  | (.string bytes, d) => bytes.length + uptoBulk d + 1
  | (_, d) => uptoBulk d + 1
 end
def uptoSmall : (H : Type) → List (DataW H) → Bool := fun _ ds => decide (uptoBulkAll ds ≤ 1048576)
def OpenSpec.upto (s : _root_.Go.ChangeSpec) : _root_.Go.OpenSpec := { _root_.Go.OpenSpec.ofChange s with cond := some uptoSmall }

/-- 'latchstringlaw07.ScriptNames', WHERE WHAT IT READS IS OF BULK AT MOST 1048576: true; the input reads as it did. -/
def scriptNamesUptoRow : OpenClaim := { program := "ytmegaipedagcjaa", sum := "839620d9c1fc760e72a68d53e7357a7ecb4a3dac47f51ab9aabf4afad5d05cd1", func := "latchstring/latchstringlaw07.ScriptNames", spec := "scriptNames", inPlace := ["internal/abi.NoEscape"], unfollowed := true, recurses := true, apart := false, narrowed := true }
def ScriptNamesUptoSaid : Prop := scriptNamesUptoRow.holds Try.pinned (OpenSpec.upto scriptNamesSpec)

/-- 'latchstringlaw07.ScriptBack', WHERE WHAT IT READS IS OF BULK AT MOST 1048576: true; the input reads as it did. -/
def scriptBackUptoRow : OpenClaim := { program := "ytmegaipedagcjaa", sum := "839620d9c1fc760e72a68d53e7357a7ecb4a3dac47f51ab9aabf4afad5d05cd1", func := "latchstring/latchstringlaw07.ScriptBack", spec := "scriptBack", inPlace := ["internal/abi.NoEscape"], unfollowed := true, recurses := true, apart := false, narrowed := true }
def ScriptBackUptoSaid : Prop := scriptBackUptoRow.holds Try.pinned (OpenSpec.upto scriptBackSpec)

/-- 'latchstringlaw07.ScriptSkips', WHERE WHAT IT READS IS OF BULK AT MOST 1048576: true; the input reads as it did. -/
def scriptSkipsUptoRow : OpenClaim := { program := "ytmegaipedagcjaa", sum := "839620d9c1fc760e72a68d53e7357a7ecb4a3dac47f51ab9aabf4afad5d05cd1", func := "latchstring/latchstringlaw07.ScriptSkips", spec := "scriptSkips", unfollowed := true, recurses := true, apart := false, narrowed := true }
def ScriptSkipsUptoSaid : Prop := scriptSkipsUptoRow.holds Try.pinned (OpenSpec.upto scriptSkipsSpec)

/-- 'latchstringlaw07.ScriptOps', WHERE WHAT IT READS IS OF BULK AT MOST 1048576: true; the input reads as it did. -/
def scriptOpsUptoRow : OpenClaim := { program := "ytmegaipedagcjaa", sum := "839620d9c1fc760e72a68d53e7357a7ecb4a3dac47f51ab9aabf4afad5d05cd1", func := "latchstring/latchstringlaw07.ScriptOps", spec := "scriptOps", unfollowed := true, recurses := true, apart := false, narrowed := true }
def ScriptOpsUptoSaid : Prop := scriptOpsUptoRow.holds Try.pinned (OpenSpec.upto scriptOpsSpec)

/-- 'latchstringlaw07.ScriptPicks', WHERE WHAT IT READS IS OF BULK AT MOST 1048576: true; the input reads as it did. -/
def scriptPicksUptoRow : OpenClaim := { program := "ytmegaipedagcjaa", sum := "839620d9c1fc760e72a68d53e7357a7ecb4a3dac47f51ab9aabf4afad5d05cd1", func := "latchstring/latchstringlaw07.ScriptPicks", spec := "scriptPicks", unfollowed := true, recurses := true, apart := false, narrowed := true }
def ScriptPicksUptoSaid : Prop := scriptPicksUptoRow.holds Try.pinned (OpenSpec.upto scriptPicksSpec)

end Rows
end Go.Proofs.Ytmegaipedagcjaa
