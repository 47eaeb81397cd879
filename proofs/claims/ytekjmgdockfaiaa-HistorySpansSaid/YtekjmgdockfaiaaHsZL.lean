
/- HistorySpans: the law. -/
import Derived.Test.YtekjmgdockfaiaaHsY
import Derived.Test.YtekjmgdockfaiaaHsZ
namespace Go.Proofs.Ytekjmgdockfaiaa.historySpans
open Go.RowKit
/-- HistorySpans returns true. -/
theorem law_any (v : Value) (l : List Ev) (w : World) (h : EvAt w v l) (hfit : ∀ e ∈ l, fitE e) (hcap : ∀ a n c, v = .slice a n c → n ≤ c) : Calls Try.prog 3 #[v] w fun e w' => e = .returned (.bool true) ∧ Nw w w' := by
  obtain ⟨a, c, rfl, hr⟩ := h
  by_cases hl : l.length ≤ 60
  · by_cases hx : (trk l 0 []).2.2 = 0
    · exact walk a c l w hl (hcap _ _ _ rfl) hfit ⟨a, c, rfl, hr⟩ hx
    · exact walk_bad a c l w hl (hcap _ _ _ rfl) hfit ⟨a, c, rfl, hr⟩ hx
  · exact walk_long a _ c w (by omega)
end Go.Proofs.Ytekjmgdockfaiaa.historySpans
