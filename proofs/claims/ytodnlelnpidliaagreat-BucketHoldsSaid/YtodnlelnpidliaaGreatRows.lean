/-
  No cell of these rows narrows 'for every input' (looked for: loops, veiled, ifaces, maps, wideKeys, modest, calm, conditions, laid).
  DERIVED. THE GIVEN ROWS OF THIS SEAT. 4 by the template 'for every input the law returns true; each argument reads behind the call as it read before'; 0 by the template 'total and deterministic' (their statements: YtodnlelnpidliaaGreatTotals.lean).
  GIVEN WITH THE SEED: the statements are not yours to turn. If you find one false, say at which input.
  Laid BY PROGRAM, IN A SANDBOX (cutbox-rows.mjs): the forced cells as the released guide's own fill.sh prints them over the translation 2da9c473f8906cdc… (all of the seat's roots in one cut). By AI agents, Wed Nov 11 2026. No macro, syntax, notation, axiom, sorry.
-/
import Derived.Test.YtodnlelnpidliaaGreatChecked
import GoSem.Claim
import GoSem.ClaimJoined
import GoSem.ClaimMapViews
import Derived.JoinedTies
import Derived.KernelRfl
namespace Go.Proofs.YtodnlelnpidliaaGreat
/- THE CELL 'sum', in the pinned program and in every row, IS THE sha256 OF THE DUMP (.gsa) THAT YtodnlelnpidliaaGreatProg.lean LOADS. Nothing in Lean hashes anything: it is a label: what it is worth is what the hold of that sum in a sandbox is worth. -/
noncomputable def Tryz.pinned : Pinned := { name := "ytodnlelnpidliaagreat", sum := "2da9c473f8906cdcf3b3e4e6bc047ee5623b9e3c9751a417a009b77f5a91c545", checked := Tryz.checked }
namespace Rows
def none {H : Type} : Left H := { results := [], args := [] }

/-- 'latchstringlaw11.BucketScript': WHATEVER THE INPUT: true; the input reads as it did. -/
def bucketScriptSpec : ChangeSpec := { name := "bucketScript", fn := fun _ => fun
  | [d1, d2, d3] => { results := [.lit (.bool true)], args := [d1, d2, d3] }
  | _ => none }
def bucketScriptRow : OpenClaim := { program := "ytodnlelnpidliaagreat", sum := "2da9c473f8906cdcf3b3e4e6bc047ee5623b9e3c9751a417a009b77f5a91c545", func := "latchstring/latchstringlaw11.BucketScript", spec := "bucketScript", unfollowed := true, recurses := true, plainKeys := false, apart := false }
def BucketScriptSaid : Prop := bucketScriptRow.holds Tryz.pinned (OpenSpec.ofChange bucketScriptSpec)

/-- ITS FALSE NEIGHBOUR: 'it returns false'. Refute it at one input. -/
def bucketScriptWrong : ChangeSpec := { name := "bucketScript", fn := fun _ => fun
  | [d1, d2, d3] => { results := [.lit (.bool false)], args := [d1, d2, d3] }
  | _ => none }
def BucketScriptWrongFalsely : Prop := bucketScriptRow.holds Tryz.pinned (OpenSpec.ofChange bucketScriptWrong)

/-- 'latchstringlaw11.BucketHolds': WHATEVER THE INPUT: true; the input reads as it did. -/
def bucketHoldsSpec : ChangeSpec := { name := "bucketHolds", fn := fun _ => fun
  | [d1, d2, d3] => { results := [.lit (.bool true)], args := [d1, d2, d3] }
  | _ => none }
def bucketHoldsRow : OpenClaim := { program := "ytodnlelnpidliaagreat", sum := "2da9c473f8906cdcf3b3e4e6bc047ee5623b9e3c9751a417a009b77f5a91c545", func := "latchstring/latchstringlaw11.BucketHolds", spec := "bucketHolds", unfollowed := true, recurses := true, plainKeys := false, apart := false }
def BucketHoldsSaid : Prop := bucketHoldsRow.holds Tryz.pinned (OpenSpec.ofChange bucketHoldsSpec)

/-- ITS FALSE NEIGHBOUR: 'it returns false'. Refute it at one input. -/
def bucketHoldsWrong : ChangeSpec := { name := "bucketHolds", fn := fun _ => fun
  | [d1, d2, d3] => { results := [.lit (.bool false)], args := [d1, d2, d3] }
  | _ => none }
def BucketHoldsWrongFalsely : Prop := bucketHoldsRow.holds Tryz.pinned (OpenSpec.ofChange bucketHoldsWrong)

/-- 'latchstringlaw11.BucketFull': WHATEVER THE INPUT: true; the input reads as it did. -/
def bucketFullSpec : ChangeSpec := { name := "bucketFull", fn := fun _ => fun
  | [d1, d2, d3, d4] => { results := [.lit (.bool true)], args := [d1, d2, d3, d4] }
  | _ => none }
def bucketFullRow : OpenClaim := { program := "ytodnlelnpidliaagreat", sum := "2da9c473f8906cdcf3b3e4e6bc047ee5623b9e3c9751a417a009b77f5a91c545", func := "latchstring/latchstringlaw11.BucketFull", spec := "bucketFull", unfollowed := true, recurses := true, plainKeys := false, apart := false }
def BucketFullSaid : Prop := bucketFullRow.holds Tryz.pinned (OpenSpec.ofChange bucketFullSpec)

/-- ITS FALSE NEIGHBOUR: 'it returns false'. Refute it at one input. -/
def bucketFullWrong : ChangeSpec := { name := "bucketFull", fn := fun _ => fun
  | [d1, d2, d3, d4] => { results := [.lit (.bool false)], args := [d1, d2, d3, d4] }
  | _ => none }
def BucketFullWrongFalsely : Prop := bucketFullRow.holds Tryz.pinned (OpenSpec.ofChange bucketFullWrong)

/-- 'latchstringlaw11.BucketHands': WHATEVER THE INPUT: true; the input reads as it did. -/
def bucketHandsSpec : ChangeSpec := { name := "bucketHands", fn := fun _ => fun
  | [d1, d2, d3, d4, d5] => { results := [.lit (.bool true)], args := [d1, d2, d3, d4, d5] }
  | _ => none }
def bucketHandsRow : OpenClaim := { program := "ytodnlelnpidliaagreat", sum := "2da9c473f8906cdcf3b3e4e6bc047ee5623b9e3c9751a417a009b77f5a91c545", func := "latchstring/latchstringlaw11.BucketHands", spec := "bucketHands", unfollowed := true, recurses := true, plainKeys := false, apart := false }
def BucketHandsSaid : Prop := bucketHandsRow.holds Tryz.pinned (OpenSpec.ofChange bucketHandsSpec)

/-- ITS FALSE NEIGHBOUR: 'it returns false'. Refute it at one input. -/
def bucketHandsWrong : ChangeSpec := { name := "bucketHands", fn := fun _ => fun
  | [d1, d2, d3, d4, d5] => { results := [.lit (.bool false)], args := [d1, d2, d3, d4, d5] }
  | _ => none }
def BucketHandsWrongFalsely : Prop := bucketHandsRow.holds Tryz.pinned (OpenSpec.ofChange bucketHandsWrong)

/- THE SECOND FORM. 'bulk': how many values and letters a reading holds, each counted each time it is reached (what is shared counts as often as it is met; a slice's spare places count too). A statement '..UptoSaid' is the law's where the arguments, and the package variables that the reading takes, are together of bulk at most 1048576: NARROWER than '..Said'. Prove '..Said' where nothing that the law and all that it calls make is longer than what came in: it says more and counts as full. Else prove '..UptoSaid'. A law counts once. -/
mutual
def uptoBulk {H : Type} : DataW H → Nat
  | .lit (.string bytes) => bytes.length + 1
  | .lit _ => 1
  | .nil => 1
  | .ptr d => uptoBulk d + 1
  | .slice elems spare => uptoBulkAll elems + uptoBulkAll spare + 1
  | .agg parts => uptoBulkAll parts + 1
  | .iface _ d => uptoBulk d + 1
  | .map entries => uptoBulkEntries entries + 1
  | .held _ => 1
def uptoBulkAll {H : Type} : List (DataW H) → Nat
  | [] => 0
  | d :: r => uptoBulk d + uptoBulkAll r
def uptoBulkEntries {H : Type} : List (Lit × DataW H) → Nat
  | [] => 0
  | x :: r => uptoBulkEntry x + uptoBulkEntries r
def uptoBulkEntry {H : Type} : Lit × DataW H → Nat
  | (.string bytes, d) => bytes.length + uptoBulk d + 1
  | (_, d) => uptoBulk d + 1
 end
def uptoSmall : (H : Type) → List (DataW H) → Bool := fun _ ds => decide (uptoBulkAll ds ≤ 1048576)
def OpenSpec.upto (s : _root_.Go.ChangeSpec) : _root_.Go.OpenSpec := { _root_.Go.OpenSpec.ofChange s with cond := some uptoSmall }

/-- 'latchstringlaw11.BucketScript', WHERE WHAT IT READS IS OF BULK AT MOST 1048576: true; the input reads as it did. -/
def bucketScriptUptoRow : OpenClaim := { program := "ytodnlelnpidliaagreat", sum := "2da9c473f8906cdcf3b3e4e6bc047ee5623b9e3c9751a417a009b77f5a91c545", func := "latchstring/latchstringlaw11.BucketScript", spec := "bucketScript", unfollowed := true, recurses := true, plainKeys := false, apart := false, narrowed := true }
def BucketScriptUptoSaid : Prop := bucketScriptUptoRow.holds Tryz.pinned (OpenSpec.upto bucketScriptSpec)

/-- 'latchstringlaw11.BucketHolds', WHERE WHAT IT READS IS OF BULK AT MOST 1048576: true; the input reads as it did. -/
def bucketHoldsUptoRow : OpenClaim := { program := "ytodnlelnpidliaagreat", sum := "2da9c473f8906cdcf3b3e4e6bc047ee5623b9e3c9751a417a009b77f5a91c545", func := "latchstring/latchstringlaw11.BucketHolds", spec := "bucketHolds", unfollowed := true, recurses := true, plainKeys := false, apart := false, narrowed := true }
def BucketHoldsUptoSaid : Prop := bucketHoldsUptoRow.holds Tryz.pinned (OpenSpec.upto bucketHoldsSpec)

/-- 'latchstringlaw11.BucketFull', WHERE WHAT IT READS IS OF BULK AT MOST 1048576: true; the input reads as it did. -/
def bucketFullUptoRow : OpenClaim := { program := "ytodnlelnpidliaagreat", sum := "2da9c473f8906cdcf3b3e4e6bc047ee5623b9e3c9751a417a009b77f5a91c545", func := "latchstring/latchstringlaw11.BucketFull", spec := "bucketFull", unfollowed := true, recurses := true, plainKeys := false, apart := false, narrowed := true }
def BucketFullUptoSaid : Prop := bucketFullUptoRow.holds Tryz.pinned (OpenSpec.upto bucketFullSpec)

/-- 'latchstringlaw11.BucketHands', WHERE WHAT IT READS IS OF BULK AT MOST 1048576: true; the input reads as it did. -/
def bucketHandsUptoRow : OpenClaim := { program := "ytodnlelnpidliaagreat", sum := "2da9c473f8906cdcf3b3e4e6bc047ee5623b9e3c9751a417a009b77f5a91c545", func := "latchstring/latchstringlaw11.BucketHands", spec := "bucketHands", unfollowed := true, recurses := true, plainKeys := false, apart := false, narrowed := true }
def BucketHandsUptoSaid : Prop := bucketHandsUptoRow.holds Tryz.pinned (OpenSpec.upto bucketHandsSpec)

end Rows
end Go.Proofs.YtodnlelnpidliaaGreat
