/- Texts merged: QvS -/
import Derived.Test.YtodnlelnpidliaaGreatBucketHoldsB19

/- SortStableFunc as far as it is wanted: what it makes of a list, and when: at most 20; or at most 40, where the two parts sorted stand in order. -/
section
namespace Go.Proofs.YtodnlelnpidliaaGreat
open Go.RowKit
set_option linter.unusedVariables false      -- a contract need not use every name

theorem Cmps.later {w w1 : World} {f : Value} {gi : Nat} {c : Int → Int → Int} {P : Int → Prop} (h : Cmps w f gi c P) (hT : Tch (fun k => k = gi) w w1) : Cmps w1 f gi c P := by
  obtain ⟨g, lb, e, eg, hc⟩ := h
  exact ⟨g, lb, e, eg, fun x y w2 hx hy h2 => hc x y w2 hx hy (hT.trans h2)⟩
end Go.Proofs.YtodnlelnpidliaaGreat
end
