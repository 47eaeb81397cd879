/- Texts merged: ModeA -/
import Derived.Test.YtfemopcichmlmaaGreatRRRBucketFullB1
import Derived.Test.YtfemopcichmlmaaGreatRRRRows
import Derived.WalkKit
import Derived.ProofKit
import Derived.OpenShut
import Derived.ShutString
import Derived.Deep.WholeRow
import Derived.Outline

/- Contracts of the functions of package mode: for every mode by its number, what the call returns; the world has at most new blocks. No conditions but those typed. -/
section
namespace Go.Proofs.YtfemopcichmlmaaGreatRRR
open Go.ChangeShapes Go.WideShapes Go.ChangeAt Go.RowKit

theorem known_yes (m : Int) (w : World) (h0 : 0 ≤ m) (h1 : m < 7) :
    Calls Tryz.prog 66 #[.int .i64 m] w fun e w' => e = .returned (.bool true) ∧ w = w' := by
  go_enter Tryz.func66, Tryz.ntmps66
  go_wp2
  go_ret
  exact ⟨rfl, rfl⟩

theorem known_no (m : Int) (w : World) (h : m < 0 ∨ 7 ≤ m) :
    Calls Tryz.prog 66 #[.int .i64 m] w fun e w' => e = .returned (.bool false) ∧ w = w' := by
  rcases h with h | h
  · go_enter Tryz.func66, Tryz.ntmps66
    go_wp2
    go_ret
    exact ⟨rfl, rfl⟩
  · have h0 : 0 ≤ m := by omega
    have hd : decide (m < 7) = false := by simp; omega
    go_enter Tryz.func66, Tryz.ntmps66
    go_wp2
    go_ret
    exact ⟨rfl, rfl⟩

/-! ### The tables -/
/-- The suprema, as numbers, row by row. -/
def supL : List Int := [0,1,2,3,4,5,6, 1,1,2,3,4,5,6, 2,2,2,4,4,6,6, 3,3,4,3,4,5,6, 4,4,4,4,4,6,6, 5,5,6,5,6,5,6, 6,6,6,6,6,6,6]
def supTab : Array Value := (supL.map (Value.int .i64)).toArray
def supT (a b : Int) : Int := supL.getD (a.toNat * 7 + b.toNat) 0
theorem supTab_at (a b : Int) (ha : 0 ≤ a) (ha' : a < 7) (hb : 0 ≤ b) (hb' : b < 7) : supTab[a.toNat * 7 + b.toNat]? = some (.int .i64 (supT a b)) := by
  have h : a.toNat * 7 + b.toNat < supL.length := by show _ < 49; omega
  unfold supTab supT
  simp [List.getElem?_eq_getElem h, List.getD]
theorem supInfo : (Tryz.prog.info? 140).map (·.size) = some 49 := by kernel_rfl
theorem supOne : supTab.all (·.oneCell') = true := by kernel_rfl

/-- Who is compatible with whom, row by row. -/
def cmpL : List Bool := [true,true,true,true,true,true,true, true,true,true,true,true,true,false, true,true,true,false,false,false,false, true,true,false,true,false,true,false, true,true,false,false,false,false,false, true,true,false,true,false,false,false, true,false,false,false,false,false,false]
def cmpTab : Array Value := (cmpL.map Value.bool).toArray
def cmpT (a b : Int) : Bool := cmpL.getD (a.toNat * 7 + b.toNat) false
theorem cmpTab_at (a b : Int) (ha : 0 ≤ a) (ha' : a < 7) (hb : 0 ≤ b) (hb' : b < 7) : cmpTab[a.toNat * 7 + b.toNat]? = some (.bool (cmpT a b)) := by
  have h : a.toNat * 7 + b.toNat < cmpL.length := by show _ < 49; omega
  unfold cmpTab cmpT
  simp [List.getElem?_eq_getElem h, List.getD]
theorem cmpInfo : (Tryz.prog.info? 161).map (·.size) = some 49 := by kernel_rfl
theorem cmpOne : cmpTab.all (·.oneCell') = true := by kernel_rfl

set_option maxHeartbeats 400000 in
theorem sup_in (a b : Int) (w : World) (ha : 0 ≤ a) (ha' : a < 7) (hb : 0 ≤ b) (hb' : b < 7) :
    Calls Tryz.prog 59 #[.int .i64 a, .int .i64 b] w fun e w' => e = .returned (.int .i64 (supT a b)) ∧ Nw w w' := by
  have hT := supTab_at a b ha ha' hb hb'
  go_enter Tryz.func59, Tryz.ntmps59
  go_wp2_with (first | (go_at_call 66; refine (known_yes _ _ (by omega) (by omega)).mono ?_; rintro e w' ⟨rfl, rfl⟩) | (refine wpList_store_row rfl 140 _ _ rfl _ supTab rfl rfl 140 _ (heap_alloc_last _ _) supInfo rfl supOne ?_; rw [World.setRow_alloc_new]))
  go_ret
  exact ⟨rfl, (Nw.refl _).alloc _⟩

set_option maxHeartbeats 400000 in
theorem cmp_in (a b : Int) (w : World) (ha : 0 ≤ a) (ha' : a < 7) (hb : 0 ≤ b) (hb' : b < 7) :
    Calls Tryz.prog 82 #[.int .i64 a, .int .i64 b] w fun e w' => e = .returned (.bool (cmpT a b)) ∧ Nw w w' := by
  have hT := cmpTab_at a b ha ha' hb hb'
  go_enter Tryz.func82, Tryz.ntmps82
  go_wp2_with (first | (go_at_call 66; refine (known_yes _ _ (by omega) (by omega)).mono ?_; rintro e w' ⟨rfl, rfl⟩) | (refine wpList_store_row rfl 161 _ _ rfl _ cmpTab rfl rfl 161 _ (heap_alloc_last _ _) cmpInfo rfl cmpOne ?_; rw [World.setRow_alloc_new]))
  go_ret
  exact ⟨rfl, (Nw.refl _).alloc _⟩
end Go.Proofs.YtfemopcichmlmaaGreatRRR
end
