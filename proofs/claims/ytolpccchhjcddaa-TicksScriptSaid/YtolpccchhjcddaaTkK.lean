
/- place, Set, Drop. -/
import Derived.Test.YtolpccchhjcddaaTkJ
namespace Go.Proofs.Ytolpccchhjcddaa
open Go.RowKit Go.Shelf

def keyB (a b : Int) (x : Tm) : Bool := x.2.1 == a && x.2.2 == b
theorem keyB_iff (a b : Int) (x : Tm) : keyB a b x = true ↔ x.2 = (a, b) := by
  obtain ⟨x0, x1, x2⟩ := x
  simp [keyB]
def idxI (a b : Int) (l : List Tm) : Int := if l.findIdx (keyB a b) < l.length then (l.findIdx (keyB a b) : Int) else -1
theorem idx_end (a b : Int) (l : List Tm) (h : ∀ i, i < l.length → keyB a b (at' l i) = false) : idxI a b l = -1 := by
  unfold idxI
  rw [if_neg]
  intro hlt
  have := List.findIdx_getElem (w := hlt)
  rw [← at_lt l hlt, h _ hlt] at this
  cases this
theorem idx_at (a b : Int) (l : List Tm) (k : Nat) (hk : k < l.length) (h : ∀ i, i < k → keyB a b (at' l i) = false) (hy : keyB a b (at' l k) = true) : idxI a b l = (k : Int) := by
  have e : l.findIdx (keyB a b) = k := by
    refine (List.findIdx_eq hk).2 ⟨by rw [← at_lt l hk]; exact hy, fun j hj => ?_⟩
    have := h j hj
    rw [at_lt l (by omega)] at this
    exact this
  unfold idxI
  rw [e, if_pos hk]
theorem idx_cases (a b : Int) (l : List Tm) : (idxI a b l = -1 ∧ l.any (keyB a b) = false) ∨ ∃ k, idxI a b l = (k : Nat) ∧ k < l.length ∧ keyB a b (at' l k) = true ∧ l.any (keyB a b) = true := by
  by_cases h : l.findIdx (keyB a b) < l.length
  · right
    have hy := List.findIdx_getElem (w := h)
    refine ⟨_, if_pos h, h, by rw [at_lt l h]; exact hy, ?_⟩
    exact List.any_eq_true.2 ⟨_, List.getElem_mem h, hy⟩
  · left
    refine ⟨if_neg h, ?_⟩
    rw [List.any_eq_false]
    intro x hx hy
    exact h (List.findIdx_lt_length_of_exists ⟨x, hx, hy⟩)

theorem match_any (bw bm : Nat) (a b : Int) (x : Tm) (w : World) (h1 : w.cell? ⟨bw, 0, none⟩ = some (.int .i64 a)) (h2 : w.cell? ⟨bm, 0, none⟩ = some (.int .i64 b)) :
    Calls Try.prog 36 #[agT x, .pointer (some ⟨bw, 0, none⟩), .pointer (some ⟨bm, 0, none⟩)] w fun e w' => e = .returned (.bool (keyB a b x)) ∧ Nw w w' := by
  obtain ⟨x0, x1, x2⟩ := x
  have l1 := World.block_lt_of_cell? _ _ h1
  have l2 := World.block_lt_of_cell? _ _ h2
  simp only at l1 l2
  unfold agT keyB
  simp only
  by_cases e1 : x1 = a
  · by_cases e2 : x2 = b
    · subst e1
      subst e2
      rw [beq_self_eq_true, beq_self_eq_true]
      go_enter Try.func36, Try.ntmps36
      go_wp2
      go_ret
      exact ⟨rfl, (Nw.refl _).alloc _⟩
    · subst e1
      have e2' : (x2 == b) = false := by simpa using e2
      rw [beq_self_eq_true, e2']
      go_enter Try.func36, Try.ntmps36
      go_wp2
      go_ret
      exact ⟨rfl, (Nw.refl _).alloc _⟩
  · have e1' : (x1 == a) = false := by simpa using e1
    rw [e1', Bool.false_and]
    go_enter Try.func36, Try.ntmps36
    go_wp2
    go_ret
    exact ⟨rfl, (Nw.refl _).alloc _⟩

theorem e_match : ∀ args w, (callFunc 36 args).run Try.prog w = .ok (.enter 36 args) w := enters_of Try.func36 (by kernel_rfl) rfl
set_option maxHeartbeats 1000000 in
theorem indexf_row (g cap : Nat) (l : List Tm) (bw bm : Nat) (a b : Int) (w : World) (h : TRow w g cap l) (h1 : w.cell? ⟨bw, 0, none⟩ = some (.int .i64 a)) (h2 : w.cell? ⟨bm, 0, none⟩ = some (.int .i64 b)) :
    Calls Try.prog 35 #[.slice (some ⟨g, 0, none⟩) l.length cap, .func (.func 36) #[] #[.pointer (some ⟨bw, 0, none⟩), .pointer (some ⟨bm, 0, none⟩)]] w
      fun e w' => e = .returned (.int .i64 (idxI a b l)) ∧ Nw w w' := by
  have hm := Nat.le_trans h.cap_le.1 h.cap_le.2
  unfold maxLen at hm
  have H := Lib.hid (And.intro h (And.intro h1 h2))
  have l1 := World.block_lt_of_cell? _ _ h1
  have l2 := World.block_lt_of_cell? _ _ h2
  simp only at l1 l2
  clear h h1 h2
  have em := e_match
  go_enter Try.func35, Try.ntmps35
  go_wp2
  go_loopw [8] (fun vi wr => ∃ k : Nat, vi = .int .i64 k ∧ k ≤ l.length ∧ Hid (∀ i, i < k → keyB a b (at' l i) = false) ∧ Nw w wr) (fun vi _ => l.length - (intOf vi).toNat)
  case atStart => exact ⟨0, rfl, Nat.zero_le _, fun i hi => absurd hi (by omega), Nw.refl _⟩
  case round =>
    obtain ⟨k, rfl, hk, HK, hG⟩ := hrel
    by_cases hlt : k < l.length
    · obtain ⟨c0, c1, c2⟩ := (H.out.1.kept (hG.block g H.out.1.lt)).cells k hlt
      have HM := Lib.hid (match_any bw bm a b (at' l k) wr ((hG.cell l1).trans H.out.2.1) ((hG.cell l2).trans H.out.2.2))
      have HG := Lib.hid hG
      clear hG
      cases hy : keyB a b (at' l k) with
      | true =>
        rw [hy] at HM
        have HI := Lib.hid (idx_at a b l k hlt HK.out hy)
        clear hy
        go_wp2_with fail
        refine HM.out.mono ?_
        rintro e w1 ⟨rfl, hg1⟩
        have HG1 := Lib.hid (HG.out.trans hg1)
        clear hg1 c0 c1 c2
        go_wp2
        go_ret
        exact ⟨by rw [HI.out]; rfl, HG1.out⟩
      | false =>
        rw [hy] at HM
        have HK1 := Lib.hid (show ∀ i, i < k + 1 → keyB a b (at' l i) = false from fun i hi => by
          rcases Nat.lt_succ_iff_lt_or_eq.1 hi with h | rfl
          · exact HK.out i h
          · exact hy)
        clear hy
        go_wp2_with fail
        refine HM.out.mono ?_
        rintro e w1 ⟨rfl, hg1⟩
        have HG1 := Lib.hid (HG.out.trans hg1)
        clear hg1 c0 c1 c2
        go_wp2
        go_roundw
        case rel => exact ⟨k + 1, by go_num, by omega, HK1, HG1.out⟩
        case measure => simp [intOf]; omega
    · obtain rfl : k = l.length := by omega
      have HI := Lib.hid (idx_end a b l HK.out)
      go_wp2
      go_ret
      exact ⟨by rw [HI.out]; rfl, hG⟩
theorem indexf_nil (bw bm : Nat) (a b : Int) (w : World) :
    Calls Try.prog 35 #[.slice none 0 0, .func (.func 36) #[] #[.pointer (some ⟨bw, 0, none⟩), .pointer (some ⟨bm, 0, none⟩)]] w
      fun e w' => e = .returned (.int .i64 (idxI a b [])) ∧ Nw w w' := by
  have HI := Lib.hid (idx_end a b [] (fun i hi => absurd hi (by simp)))
  go_enter Try.func35, Try.ntmps35
  go_wp2
  refine wp_loop_rounds 1 ?_
  repeat (rw [rounds_succ]; go_wp2)
  go_ret
  exact ⟨by rw [HI.out]; rfl, Nw.refl _⟩
theorem place_any (hb ho : Nat) (v : Value) (l : List Tm) (a b : Int) (w : World) (h : Hv w hb ho v l) :
    Calls Try.prog 27 #[v, .int .i64 a, .int .i64 b] w fun e w' => e = .returned (.int .i64 (idxI a b l)) ∧ Nw w w' := by
  have HX : Hid (∀ w', Nw w w' → w'.cell? ⟨w.heap.size, 0, none⟩ = some (.int .i64 a) → w'.cell? ⟨w.heap.size + 1, 0, none⟩ = some (.int .i64 b) →
      Calls Try.prog 35 #[v, .func (.func 36) #[] #[.pointer (some ⟨w.heap.size, 0, none⟩), .pointer (some ⟨w.heap.size + 1, 0, none⟩)]] w'
        fun e w' => e = .returned (.int .i64 (idxI a b l)) ∧ Nw w w') := fun w' k c1 c2 => by
    rcases (h.nw k).form with ⟨rfl, rfl⟩ | ⟨g, cap, rfl, hp⟩
    · exact (indexf_nil _ _ a b w').mono fun _ _ ⟨x, y⟩ => ⟨x, k.trans y⟩
    · exact (indexf_row g cap l _ _ a b w' hp.row c1 c2).mono fun _ _ ⟨x, y⟩ => ⟨x, k.trans y⟩
  clear h
  generalize idxI a b l = I at *
  go_enter Try.func27, Try.ntmps27
  go_wp2_with fail
  refine (HX.out _ (((Nw.refl _).alloc _).alloc _) (by simp [go_sem]) (by simp [go_sem])).mono ?_
  rintro e w1 ⟨rfl, hg⟩
  go_wp2
  go_ret
  exact ⟨rfl, hg⟩
end Go.Proofs.Ytolpccchhjcddaa
