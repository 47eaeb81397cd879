
/- The free numbers of a pool, as the heap has them: plain facts. -/
import Derived.Test.YtckbjgcelpmffaaPoM
import Derived.Test.YtckbjgcelpmffaaPhM
namespace Go.Proofs.Ytckbjgcelpmffaa
set_option linter.unusedVariables false

def castL (l : List Nat) : List Int := l.map fun n : Nat => (n : Int)
def frI (L : List Bool) : List Int := castL (frl L)
theorem castL_srt {l : List Nat} (h : l.Pairwise (· < ·)) : ISrt (castL l) := by
  unfold ISrt castL
  rw [List.pairwise_map]
  exact h.imp fun {a b} hab => by rw [itle_iff]; omega
theorem frI_srt (L : List Bool) : ISrt (frI L) := castL_srt (frl_asc L)
theorem asc_nodup {l : List Nat} (h : l.Pairwise (· < ·)) : l.Nodup := h.imp fun {a b} hab => Nat.ne_of_lt hab
theorem frI_len (L : List Bool) : (frI L).length + liv L = L.length := by
  unfold frI castL
  rw [List.length_map]
  exact frl_len L
theorem frI_give {L : List Bool} {p : Nat} (h : p < L.length) (e : L[p] = true) : iins (p : Int) (frI L) = frI (L.set p false) := by
  refine isrt_uniq (iins_srt _ _ (frI_srt L)) (frI_srt _) ((iins_perm _ _).trans ?_)
  obtain ⟨h1, h2⟩ := frl_give h e
  have hp : (p :: frl L).Perm (frl (L.set p false)) := by
    refine (List.perm_ext_iff_of_nodup (List.nodup_cons.2 ⟨h1, asc_nodup (frl_asc L)⟩) (asc_nodup (frl_asc _))).2 fun x => ?_
    rw [List.mem_cons, h2 x]
  exact hp.map _
theorem frI_new (n : Nat) : frI (List.replicate n false) = castL (List.range n) := by unfold frI; rw [frl_new]
theorem range_ins (k : Nat) : iins (k : Int) (castL (List.range k)) = castL (List.range (k + 1)) := by
  refine isrt_uniq (iins_srt _ _ (castL_srt List.pairwise_lt_range)) (castL_srt List.pairwise_lt_range) ((iins_perm _ _).trans ?_)
  have hp : (k :: List.range k).Perm (List.range (k + 1)) := by
    rw [List.range_succ]
    exact (List.perm_append_comm (l₁ := List.range k) (l₂ := [k])).symm
  exact hp.map _
theorem frI_take {L : List Bool} (h : fre L < L.length) : frI L = (fre L : Int) :: frI (tkL L) := by
  unfold frI
  rw [frl_take h]
  rfl
theorem frI_none {L : List Bool} (h : fre L = L.length) : frI L = [] := by unfold frI; rw [frl_none h]; rfl
theorem castL_range_len (n : Nat) : (castL (List.range n)).length = n := by simp [castL]
end Go.Proofs.Ytckbjgcelpmffaa
