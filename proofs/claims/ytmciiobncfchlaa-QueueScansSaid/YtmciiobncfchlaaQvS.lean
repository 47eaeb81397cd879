
/- SortStableFunc as far as it is wanted: what it makes of a list, and when. -/
import Derived.Test.YtmciiobncfchlaaQvN
namespace Go.Proofs.Ytmciiobncfchlaa
open Go.RowKit
set_option linter.unusedVariables false      -- a contract need not use every name

def StOk (c : Int → Int → Int) (l : List Int) : Prop := l.length ≤ 20
def stR (c : Int → Int → Int) (l : List Int) : List Int := sortS c l
theorem stOk_20 (c : Int → Int → Int) (l : List Int) (h : l.length ≤ 20) : StOk c l := h
theorem stR_perm (c : Int → Int → Int) (l : List Int) : (stR c l).Perm l := sortS_perm c l
theorem stR_sorted (c : Int → Int → Int) (M : Int → Prop) (tr : ∀ x y z, M x → M y → M z → c x y < 0 → c y z < 0 → c x z < 0) (tot : ∀ x y, M x → M y → x ≠ y → c x y < 0 ∨ c y x < 0) (S : List Int) (hS : ∀ x ∈ S, M x) (hn : S.Nodup) (h : StOk c S) : (stR c S).Pairwise (fun x y => c x y < 0) := sortS_sorted c M tr tot S hS hn
theorem dStable (f : Value) (c : Int → Int → Int) (P : Int → Prop) (v : Value) (l : List Int) (w : World) (gi : Nat) (hl : StOk c l) (h : IS w v l) (hP : ∀ x ∈ l, P x) (hf : Cmps w f gi c P) (hgi : ∀ g, v.ownBlock = some g → g = gi) :
    Calls Try.prog 89 #[v, f] w fun e w' => e = .returned (.tuple #[]) ∧ IS w' v (stR c l) ∧ Tch (fun k => v.ownBlock = some k) w w' := stableF20 f c P v l w gi hl h hP hf hgi
end Go.Proofs.Ytmciiobncfchlaa
