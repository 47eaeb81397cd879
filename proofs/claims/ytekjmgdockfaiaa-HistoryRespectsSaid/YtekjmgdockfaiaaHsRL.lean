
/- HistoryRespects: the law. -/
import Derived.Test.YtekjmgdockfaiaaHsR
namespace Go.Proofs.Ytekjmgdockfaiaa.historyRespects
open Go.RowKit
/-- HistoryRespects returns true. -/
theorem law_any (v : Value) (l : List Ev) (x y : Int) (w : World) (h : EvAt w v l) (hfit : ∀ e ∈ l, fitE e) : Calls Try.prog 4 #[v, .int .i64 x, .int .i64 y] w fun e w' => e = .returned (.bool true) ∧ Nw w w' := by
  by_cases hl : l.length ≤ 60
  · exact walk v l x y w hl hfit h
  · obtain ⟨a, c, rfl, _⟩ := h
    exact walk_long a _ c x y w (by omega)
end Go.Proofs.Ytekjmgdockfaiaa.historyRespects
