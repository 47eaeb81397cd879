
/- A script of the call's own is one that can be read; the start and the end of Read. -/
import Derived.Test.YtmegaipedagcjaaScJ
import Derived.Test.YtmegaipedagcjaaScD
import Derived.Test.YtmegaipedagcjaaScQ
namespace Go.Proofs.Ytmegaipedagcjaa
open Go.RowKit

theorem flat_get {α : Type} (f : α → List Value) (m : Nat) (hf : ∀ x, (f x).length = m) (l : List α) : ∀ (k : Nat) (hk : k < l.length) (j : Nat), j < m → (l.flatMap f)[k * m + j]? = (f l[k])[j]? := by
  induction l with
  | nil => intro k hk; simp at hk
  | cons x l ih =>
    intro k hk j hj
    rw [List.flatMap_cons]
    cases k with
    | zero => rw [Nat.zero_mul, Nat.zero_add, List.getElem?_append_left (by rw [hf]; exact hj)]; rfl
    | succ k =>
      rw [List.getElem?_append_right (by rw [hf, Nat.succ_mul]; omega), hf, show (k + 1) * m + j - m = k * m + j by rw [Nat.succ_mul]; omega, ih k (by simpa using hk) j hj]
      rfl
theorem ORow.at' {w : World} {g0 : Nat} {v : Value} {l : List Od} (h : ORow w g0 v l) : OpsAt w v l := by
  rcases own_form h with ⟨rfl, q⟩ | ⟨g, cap, rfl⟩
  · exact ⟨none, 0, by rw [q], .inl (List.length_eq_zero_iff.1 q)⟩
  · refine ⟨_, cap, rfl, .inr ⟨g, 0, rfl, (World.ownsRow.lt h g rfl).2, fun k hk => ?_⟩⟩
    have key : ∀ j, j < 6 → w.cell? ⟨g, k * 6 + j, none⟩ = (orow l[k])[j]? := fun j hj => by
      rw [World.ownsRow.cellAt h (k * 6 + j) (by omega)]
      exact flat_get orow 6 (fun _ => rfl) l k hk j hj
    simp only [Nat.zero_add]
    exact ⟨key 0 (by omega), key 1 (by omega), key 2 (by omega), key 3 (by omega), key 4 (by omega), key 5 (by omega)⟩
theorem PRow.at' {w : World} {g0 : Nat} {v : Value} {l : List (Int × Int)} (h : PRow w g0 v l) : PksAt w v l := by
  rcases own_form h with ⟨rfl, q⟩ | ⟨g, cap, rfl⟩
  · exact ⟨none, 0, by rw [q], .inl (List.length_eq_zero_iff.1 q)⟩
  · refine ⟨_, cap, rfl, .inr ⟨g, 0, rfl, (World.ownsRow.lt h g rfl).2, fun k hk => ?_⟩⟩
    have key : ∀ j, j < 2 → w.cell? ⟨g, k * 2 + j, none⟩ = (prow l[k])[j]? := fun j hj => by
      rw [World.ownsRow.cellAt h (k * 2 + j) (by omega)]
      exact flat_get prow 2 (fun _ => rfl) l k hk j hj
    simp only [Nat.zero_add]
    exact ⟨key 0 (by omega), key 1 (by omega)⟩
theorem OwnS.at' {w : World} {g0 B : Nat} {vt vp : Value} {us : List Value} {s : PS} (h : OwnS w g0 B vt vp us s) : ScAt w vt vp s := by
  refine ⟨?_, h.rp.at'⟩
  have hl := h.len
  rcases own_form h.rt with ⟨hv, q⟩ | ⟨g, cap, hv⟩
  · refine ⟨none, 0, by rw [hv, ← hl, q], .inl (List.length_eq_zero_iff.1 (by rw [← hl, q]))⟩
  · have hrt := h.rt
    rw [hv] at hrt
    refine ⟨_, cap, by rw [hv, hl], .inr ⟨g, 0, rfl, (World.ownsRow.lt hrt g rfl).2, fun k hk => ?_⟩⟩
    have hku : k < us.length := by rw [hl]; exact hk
    refine ⟨us.getD k nilV, ?_, ?_⟩
    · rw [Nat.zero_add, World.ownsRow.cellAt hrt k (by omega)]
      simp [List.getD, hku]
    · have := (h.ro k hku).at'
      have e : s.th.getD k [] = s.th[k] := by simp [List.getD, hk]
      rw [e] at this
      exact this
/-- Nothing but one block has changed, which is neither the script's nor one of its rows. -/
theorem OwnS.other {w w' : World} {g0 B : Nat} {vt vp : Value} {us : List Value} {s : PS} {k : Nat} (h : OwnS w g0 B vt vp us s) (hg : w.grownBy w' (some k)) (hB : k ≠ B)
    (ho : ∀ c, w.heap[k]? ≠ some (.cells c 41 (0, 0)) ∧ w.heap[k]? ≠ some (.cells c 37 (0, 0)) ∧ w.heap[k]? ≠ some (.cells c 59 (0, 0))) : OwnS w' g0 B vt vp us s := by
  refine ⟨h.base, (hg.block B h.lt (fun q => hB (Option.some.inj q).symm)).trans h.box, own_keep h.rt hg (fun g q r => ?_), h.len, fun i hi => own_keep (h.ro i hi) hg (fun g q r => ?_), own_keep h.rp hg (fun g q r => ?_), h.inj⟩
  · obtain ⟨c, hc⟩ := own_heap h.rt q
    rw [← Option.some.inj r] at hc
    exact (ho c).1 hc
  · obtain ⟨c, hc⟩ := own_heap (h.ro i hi) q
    rw [← Option.some.inj r] at hc
    exact (ho c).2.1 hc
  · obtain ⟨c, hc⟩ := own_heap h.rp q
    rw [← Option.some.inj r] at hc
    exact (ho c).2.2 hc
theorem put_grown (w : World) (l : Nat) (o : Obj) : w.grownBy (w.putObj l o) (some l) := ⟨rfl, rfl, rfl, by simp, fun k _ hk => World.putObj_heap_other (fun e => hk (by rw [e]))⟩
theorem OwnS.put {w : World} {g0 B : Nat} {vt vp : Value} {us : List Value} {s : PS} {l : Nat} {o : Obj} (o' : Obj) (h : OwnS w g0 B vt vp us s) (hl : w.heap[l]? = some o) (ho : o.isCells = false) : OwnS (w.putObj l o') g0 B vt vp us s := by
  have key : ∀ c t fr, w.heap[l]? ≠ some (.cells c t fr) := fun c t fr e => by rw [hl] at e; cases e; cases ho
  exact h.other (put_grown w l o') (fun e => key _ _ _ (e ▸ h.box)) (fun c => ⟨key _ _ _, key _ _ _, key _ _ _⟩)
theorem Own.put {w : World} {g0 B : Nat} {s : PS} {l : Nat} {o : Obj} (o' : Obj) (h : Own w g0 B s) (hl : w.heap[l]? = some o) (ho : o.isCells = false) : Own (w.putObj l o') g0 B s := by
  obtain ⟨vt, vp, us, h⟩ := h
  exact ⟨_, _, _, h.put o' hl ho⟩
theorem own_start (w w1 : World) (c : Cp) (hw : w.heap.size ≤ w1.heap.size) : Own (w1.alloc (.cells #[nilV, nilV, .int .i64 c.1, .int .i64 c.2.1, .int .i64 c.2.2.1, .int .i64 c.2.2.2] 28)) w.heap.size w1.heap.size ⟨[], [], c⟩ :=
  ⟨nilV, nilV, [], hw, heap_alloc_last _ _, World.ownsRow_nil _ _ _ _, rfl, fun i hi => by simp at hi, World.ownsRow_nil _ _ _ _, fun i j g hi => by simp at hi⟩
theorem caps_any (w : World) : Calls Try.prog 25 #[] w fun e w' => e = .returned (.agg #[.int .i64 4, .int .i64 32, .int .i64 64, .int .i64 2]) ∧ Nw w w' := by
  go_enter Try.func25, Try.ntmps25
  go_wp2
  exact bodyPost_ret (v := .agg #[.int .i64 4, .int .i64 32, .int .i64 64, .int .i64 2]) (by simp [results, Try.results25, go_sem]) rfl ⟨rfl, (Nw.refl _).alloc _⟩
end Go.Proofs.Ytmegaipedagcjaa
