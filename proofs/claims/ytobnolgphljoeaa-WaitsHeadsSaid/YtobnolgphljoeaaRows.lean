/-
  No cell of these rows narrows 'for every input' (looked for: loops, veiled, ifaces, maps, wideKeys, modest, calm, conditions, laid).
  DERIVED. THE GIVEN ROWS OF THIS SEAT. 4 by the template 'for every input the law returns true; each argument reads behind the call as it read before'; 0 by the template 'total and deterministic' (their statements: YtobnolgphljoeaaTotals.lean).
  GIVEN WITH THE SEED: the statements are not yours to turn. If you find one false, say at which input.
  Laid BY PROGRAM, IN A SANDBOX (cutbox-rows.mjs): the forced cells as the released guide's own fill.sh prints them over the translation bbf9536e93cb3ee0… (all of the seat's roots in one cut). By AI agents, Wed Nov 11 2026. No macro, syntax, notation, axiom, sorry.
-/
import Derived.Test.YtobnolgphljoeaaChecked
import GoSem.Claim
import GoSem.ClaimJoined
import GoSem.ClaimMapViews
import Derived.JoinedTies
import Derived.KernelRfl
namespace Go.Proofs.Ytobnolgphljoeaa
/- THE CELL 'sum', in the pinned program and in every row, IS THE sha256 OF THE DUMP (.gsa) THAT YtobnolgphljoeaaProg.lean LOADS. Nothing in Lean hashes anything: it is a label: what it is worth is what the hold of that sum in a sandbox is worth. -/
noncomputable def Try.pinned : Pinned := { name := "ytobnolgphljoeaa", sum := "bbf9536e93cb3ee0854658bef3afe31ad45940c223277240d4247406a57730a0", checked := Try.checked }
namespace Rows
def none {H : Type} : Left H := { results := [], args := [] }

/-- 'latchstringlaw13.WaitsCycles': WHATEVER THE INPUT: true; the input reads as it did. -/
def waitsCyclesSpec : ChangeSpec := { name := "waitsCycles", fn := fun _ => fun
  | [d] => { results := [.lit (.bool true)], args := [d] }
  | _ => none }
def waitsCyclesRow : OpenClaim := { program := "ytobnolgphljoeaa", sum := "bbf9536e93cb3ee0854658bef3afe31ad45940c223277240d4247406a57730a0", func := "latchstring/latchstringlaw13.WaitsCycles", spec := "waitsCycles", unfollowed := true, recurses := true, apart := false }
def WaitsCyclesSaid : Prop := waitsCyclesRow.holds Try.pinned (OpenSpec.ofChange waitsCyclesSpec)

/-- ITS FALSE NEIGHBOUR: 'it returns false'. Refute it at one input. -/
def waitsCyclesWrong : ChangeSpec := { name := "waitsCycles", fn := fun _ => fun
  | [d] => { results := [.lit (.bool false)], args := [d] }
  | _ => none }
def WaitsCyclesWrongFalsely : Prop := waitsCyclesRow.holds Try.pinned (OpenSpec.ofChange waitsCyclesWrong)

/-- 'latchstringlaw13.WaitsFree': WHATEVER THE INPUT: true; the input reads as it did. -/
def waitsFreeSpec : ChangeSpec := { name := "waitsFree", fn := fun _ => fun
  | [d] => { results := [.lit (.bool true)], args := [d] }
  | _ => none }
def waitsFreeRow : OpenClaim := { program := "ytobnolgphljoeaa", sum := "bbf9536e93cb3ee0854658bef3afe31ad45940c223277240d4247406a57730a0", func := "latchstring/latchstringlaw13.WaitsFree", spec := "waitsFree", unfollowed := true, recurses := true, apart := false }
def WaitsFreeSaid : Prop := waitsFreeRow.holds Try.pinned (OpenSpec.ofChange waitsFreeSpec)

/-- ITS FALSE NEIGHBOUR: 'it returns false'. Refute it at one input. -/
def waitsFreeWrong : ChangeSpec := { name := "waitsFree", fn := fun _ => fun
  | [d] => { results := [.lit (.bool false)], args := [d] }
  | _ => none }
def WaitsFreeWrongFalsely : Prop := waitsFreeRow.holds Try.pinned (OpenSpec.ofChange waitsFreeWrong)

/-- 'latchstringlaw13.WaitsHeads': WHATEVER THE INPUT: true; the input reads as it did. -/
def waitsHeadsSpec : ChangeSpec := { name := "waitsHeads", fn := fun _ => fun
  | [d] => { results := [.lit (.bool true)], args := [d] }
  | _ => none }
def waitsHeadsRow : OpenClaim := { program := "ytobnolgphljoeaa", sum := "bbf9536e93cb3ee0854658bef3afe31ad45940c223277240d4247406a57730a0", func := "latchstring/latchstringlaw13.WaitsHeads", spec := "waitsHeads", unfollowed := true, recurses := true, apart := false }
def WaitsHeadsSaid : Prop := waitsHeadsRow.holds Try.pinned (OpenSpec.ofChange waitsHeadsSpec)

/-- ITS FALSE NEIGHBOUR: 'it returns false'. Refute it at one input. -/
def waitsHeadsWrong : ChangeSpec := { name := "waitsHeads", fn := fun _ => fun
  | [d] => { results := [.lit (.bool false)], args := [d] }
  | _ => none }
def WaitsHeadsWrongFalsely : Prop := waitsHeadsRow.holds Try.pinned (OpenSpec.ofChange waitsHeadsWrong)

/-- 'latchstringlaw13.WaitsReach': WHATEVER THE INPUT: true; the input reads as it did. -/
def waitsReachSpec : ChangeSpec := { name := "waitsReach", fn := fun _ => fun
  | [d1, d2, d3, d4] => { results := [.lit (.bool true)], args := [d1, d2, d3, d4] }
  | _ => none }
def waitsReachRow : OpenClaim := { program := "ytobnolgphljoeaa", sum := "bbf9536e93cb3ee0854658bef3afe31ad45940c223277240d4247406a57730a0", func := "latchstring/latchstringlaw13.WaitsReach", spec := "waitsReach", unfollowed := true, recurses := true, apart := false }
def WaitsReachSaid : Prop := waitsReachRow.holds Try.pinned (OpenSpec.ofChange waitsReachSpec)

/-- ITS FALSE NEIGHBOUR: 'it returns false'. Refute it at one input. -/
def waitsReachWrong : ChangeSpec := { name := "waitsReach", fn := fun _ => fun
  | [d1, d2, d3, d4] => { results := [.lit (.bool false)], args := [d1, d2, d3, d4] }
  | _ => none }
def WaitsReachWrongFalsely : Prop := waitsReachRow.holds Try.pinned (OpenSpec.ofChange waitsReachWrong)

/- THE SECOND FORM. 'bulk': how many values and letters a reading holds, each counted each time it is reached (what is shared counts as often as it is met; a slice's spare places count too). A statement '..UptoSaid' is the law's where the arguments, and the package variables that the reading takes, are together of bulk at most 1048576: NARROWER than '..Said'. Prove '..Said' where nothing that the law and all that it calls make is longer than what came in: it says more and counts as full. Else prove '..UptoSaid'. A law counts once. -/
mutual
def uptoBulk {H : Type} : DataW H → Nat
  | .lit (.string bytes) => bytes.length + 1
  | .lit _ => 1
  | .nil => 1
  | .ptr d => uptoBulk d + 1
  | .slice elems spare => uptoBulkAll elems + uptoBulkAll spare + 1
  | .agg parts => uptoBulkAll parts + 1
  | .iface _ d => uptoBulk d + 1
  | .map entries => uptoBulkEntries entries + 1
  | .held _ => 1
def uptoBulkAll {H : Type} : List (DataW H) → Nat
  | [] => 0
  | d :: r => uptoBulk d + uptoBulkAll r
def uptoBulkEntries {H : Type} : List (Lit × DataW H) → Nat
  | [] => 0
  | x :: r => uptoBulkEntry x + uptoBulkEntries r
def uptoBulkEntry {H : Type} : Lit × DataW H → Nat
  | (.string bytes, d) => bytes.length + uptoBulk d + 1
  | (_, d) => uptoBulk d + 1
 end
def uptoSmall : (H : Type) → List (DataW H) → Bool := fun _ ds => decide (uptoBulkAll ds ≤ 1048576)
def OpenSpec.upto (s : _root_.Go.ChangeSpec) : _root_.Go.OpenSpec := { _root_.Go.OpenSpec.ofChange s with cond := some uptoSmall }

/-- 'latchstringlaw13.WaitsCycles', WHERE WHAT IT READS IS OF BULK AT MOST 1048576: true; the input reads as it did. -/
def waitsCyclesUptoRow : OpenClaim := { program := "ytobnolgphljoeaa", sum := "bbf9536e93cb3ee0854658bef3afe31ad45940c223277240d4247406a57730a0", func := "latchstring/latchstringlaw13.WaitsCycles", spec := "waitsCycles", unfollowed := true, recurses := true, apart := false, narrowed := true }
def WaitsCyclesUptoSaid : Prop := waitsCyclesUptoRow.holds Try.pinned (OpenSpec.upto waitsCyclesSpec)

/-- 'latchstringlaw13.WaitsFree', WHERE WHAT IT READS IS OF BULK AT MOST 1048576: true; the input reads as it did. -/
def waitsFreeUptoRow : OpenClaim := { program := "ytobnolgphljoeaa", sum := "bbf9536e93cb3ee0854658bef3afe31ad45940c223277240d4247406a57730a0", func := "latchstring/latchstringlaw13.WaitsFree", spec := "waitsFree", unfollowed := true, recurses := true, apart := false, narrowed := true }
def WaitsFreeUptoSaid : Prop := waitsFreeUptoRow.holds Try.pinned (OpenSpec.upto waitsFreeSpec)

/-- 'latchstringlaw13.WaitsHeads', WHERE WHAT IT READS IS OF BULK AT MOST 1048576: true; the input reads as it did. -/
def waitsHeadsUptoRow : OpenClaim := { program := "ytobnolgphljoeaa", sum := "bbf9536e93cb3ee0854658bef3afe31ad45940c223277240d4247406a57730a0", func := "latchstring/latchstringlaw13.WaitsHeads", spec := "waitsHeads", unfollowed := true, recurses := true, apart := false, narrowed := true }
def WaitsHeadsUptoSaid : Prop := waitsHeadsUptoRow.holds Try.pinned (OpenSpec.upto waitsHeadsSpec)

/-- 'latchstringlaw13.WaitsReach', WHERE WHAT IT READS IS OF BULK AT MOST 1048576: true; the input reads as it did. -/
def waitsReachUptoRow : OpenClaim := { program := "ytobnolgphljoeaa", sum := "bbf9536e93cb3ee0854658bef3afe31ad45940c223277240d4247406a57730a0", func := "latchstring/latchstringlaw13.WaitsReach", spec := "waitsReach", unfollowed := true, recurses := true, apart := false, narrowed := true }
def WaitsReachUptoSaid : Prop := waitsReachUptoRow.holds Try.pinned (OpenSpec.upto waitsReachSpec)

end Rows
end Go.Proofs.Ytobnolgphljoeaa
