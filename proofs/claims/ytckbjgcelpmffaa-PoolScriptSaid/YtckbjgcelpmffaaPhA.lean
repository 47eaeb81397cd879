
/- Numbers in a row of the call's own, as a heap has them: Len, Less, Swap, and how they are reached through the interface value. -/
import Derived.Test.YtckbjgcelpmffaaPhM
import Derived.Test.YtckbjgcelpmffaaInts
import Derived.Shelf.Abstract
namespace Go.Proofs.Ytckbjgcelpmffaa
open Go.RowKit Go.Shelf

/-- The block g holds the numbers, with room for cap. -/
abbrev ITRow (w : World) (g cap : Nat) (l : List Int) : Prop := IS w (.slice (some ⟨g, 0, none⟩) l.length cap) l
theorem itcells {w : World} {g cap : Nat} {l : List Int} (h : ITRow w g cap l) (i : Nat) (hi : i < l.length) : w.cell? ⟨g, i, none⟩ = some (.int .i64 (iat l i)) := IS.cell h i hi
theorem itcap_le {w : World} {g cap : Nat} {l : List Int} (h : ITRow w g cap l) : l.length ≤ cap ∧ cap ≤ maxLen := by
  rcases h.2 with ⟨h', _⟩ | ⟨g', cap', cur, h', _, _, h1, h2, _⟩
  · simp at h'
  · simp only [Value.slice.injEq] at h'
    obtain ⟨_, _, rfl⟩ := h'
    exact ⟨h1, h2⟩
theorem itkept {w w' : World} {g cap : Nat} {l : List Int} (h : ITRow w g cap l) (e : w'.heap[g]? = w.heap[g]?) : ITRow w' g cap l := by
  refine ⟨h.1, ?_⟩
  rcases h.2 with ⟨h', _⟩ | ⟨g', cap', cur, h', hb, hg, rest⟩
  · simp at h'
  · have h2 := h'
    simp only [Value.slice.injEq, Option.some.injEq, Addr.mk.injEq, and_true, true_and] at h2
    obtain ⟨rfl, rfl⟩ := h2
    exact .inr ⟨g, cap, cur, h', hb, e.trans hg, rest⟩
theorem itset {w : World} {g cap : Nat} {l : List Int} (h : ITRow w g cap l) (i : Nat) (x : Int) : ITRow (w.setCell ⟨g, i, none⟩ (.int .i64 x)) g cap (l.set i x) := by
  have := IS.set h i x
  unfold ITRow
  rw [List.length_set]
  exact this
theorem ittch {S : Nat → Prop} {w w' : World} {g cap : Nat} {l : List Int} (h : ITRow w g cap l) (k : Tch S w w') (hn : ¬ S g) : ITRow w' g cap l := itkept h (k.block g (IS.glt h) hn)

theorem ilen_any (a : Option Addr) (n c : Nat) (w : World) : Calls Try.prog 27 #[.slice a n c] w fun e w' => e = .returned (.int .i64 n) ∧ w = w' := by
  go_enter Try.func27, Try.ntmps27
  go_wp2
  go_ret
  exact ⟨rfl, rfl⟩
theorem iless_any (g cap : Nat) (l : List Int) (i j : Nat) (hi : i < l.length) (hj : j < l.length) (w : World) (h : ITRow w g cap l) :
    Calls Try.prog 50 #[.slice (some ⟨g, 0, none⟩) l.length cap, .int .i64 i, .int .i64 j] w fun e w' => e = .returned (.bool (itlt (iat l i) (iat l j))) ∧ Nw w w' := by
  have hm := Nat.le_trans (itcap_le h).1 (itcap_le h).2
  unfold maxLen at hm
  have a0 := itcells h i hi
  have b0 := itcells h j hj
  generalize l.length = N at *
  unfold itlt
  generalize iat l i = A at *
  generalize iat l j = B at *
  clear h
  go_enter Try.func50, Try.ntmps50
  go_wp2
  go_quiet (fail)
  go_wp2
  go_ret
  exact ⟨rfl, (Nw.refl w).drewN _⟩
theorem itwo (w : World) (g a b : Nat) (va vb : Value) : Tch (fun k => k = g) w ((w.setCell ⟨g, a, none⟩ va).setCell ⟨g, b, none⟩ vb).drew :=
  Tch.drew (Tch.set (p := ⟨g, b, none⟩) (Tch.set (p := ⟨g, a, none⟩) (Tch.refl (fun k => k = g) w) (.inl rfl) va) (.inl rfl) vb)
set_option maxHeartbeats 1000000 in
theorem iswap_any (g cap : Nat) (l : List Int) (i j : Nat) (hi : i < l.length) (hj : j < l.length) (w : World) (h : ITRow w g cap l) :
    Calls Try.prog 52 #[.slice (some ⟨g, 0, none⟩) l.length cap, .int .i64 i, .int .i64 j] w fun e w' => e = .returned (.tuple #[]) ∧ ITRow w' g cap (iswp l i j) ∧ Tch (fun k => k = g) w w' := by
  have hm := Nat.le_trans (itcap_le h).1 (itcap_le h).2
  unfold maxLen at hm
  have a0 := itcells h i hi
  have b0 := itcells h j hj
  have hg := IS.glt h
  have fz := IS.frozen h
  have HR : Hid (ITRow ((w.setCell ⟨g, i, none⟩ (.int .i64 (iat l j))).setCell ⟨g, j, none⟩ (.int .i64 (iat l i))) g cap (iswp l i j)) := itset (itset h i (iat l j)) j (iat l i)
  generalize l.length = N at *
  generalize iat l i = A at *
  generalize iat l j = B at *
  clear h
  by_cases e : i = j
  · subst e
    obtain rfl : A = B := by rw [a0] at b0; simpa using b0
    go_enter Try.func52, Try.ntmps52
    go_wp2
    go_region
    go_wp2
    go_end0
    exact ⟨rfl, itkept HR.out rfl, itwo _ _ _ _ _ _⟩
  · have e' : ¬ j = i := fun q => e q.symm
    go_enter Try.func52, Try.ntmps52
    go_wp2
    go_region
    go_wp2
    go_end0
    exact ⟨rfl, itkept HR.out rfl, itwo _ _ _ _ _ _⟩

/-! ### The methods through the interface value -/
theorem imt_len : ((Try.prog.info? 51).map fun i => ((i.methods.find? (·.name == "Len")).map fun m => (m.path, m.func))) = some (some (#[⟨47, 0, true⟩], some (27, false))) := by kernel_rfl
theorem imt_less : ((Try.prog.info? 51).map fun i => ((i.methods.find? (·.name == "Less")).map fun m => (m.path, m.func))) = some (some (#[⟨47, 0, true⟩], some (50, false))) := by kernel_rfl
theorem imt_swap : ((Try.prog.info? 51).map fun i => ((i.methods.find? (·.name == "Swap")).map fun m => (m.path, m.func))) = some (some (#[⟨47, 0, true⟩], some (52, false))) := by kernel_rfl
theorem imt_push : ((Try.prog.info? 51).map fun i => ((i.methods.find? (·.name == "Push")).map fun m => (m.path, m.func))) = some (some (#[], some (54, true))) := by kernel_rfl
theorem imt_pop : ((Try.prog.info? 51).map fun i => ((i.methods.find? (·.name == "Pop")).map fun m => (m.path, m.func))) = some (some (#[], some (53, true))) := by kernel_rfl
theorem imeth_val (name : String) (f : Nat) (h : ((Try.prog.info? 51).map fun i => ((i.methods.find? (·.name == name)).map fun m => (m.path, m.func))) = some (some (#[⟨47, 0, true⟩], some (f, false))))
    (w : World) (b o : Nat) (v : Value) (hc : w.cell? ⟨b, o, none⟩ = some v) (n : Nat) : Sem.run Try.prog (method (n + 1) 51 (.pointer (some ⟨b, o, none⟩)) name) w = .ok (f, v) w := by
  obtain ⟨i, hi, h⟩ := Option.map_eq_some_iff.1 h
  obtain ⟨m, hm, h⟩ := Option.map_eq_some_iff.1 h
  simp only [Prod.mk.injEq] at h
  obtain ⟨hp, hf⟩ := h
  have hu := Try.underlying51
  have hu2 := Try.underlying47
  have hu3 := Try.underlying45
  simp [method, typeInfo, hi, hm, hp, hf, follow, receiverAt, Place.get, fieldPlace, go_sem, hc, hu, hu2, hu3]
theorem imeth_ptr (name : String) (f : Nat) (h : ((Try.prog.info? 51).map fun i => ((i.methods.find? (·.name == name)).map fun m => (m.path, m.func))) = some (some (#[], some (f, true))))
    (w : World) (v : Value) (n : Nat) : Sem.run Try.prog (method (n + 1) 51 v name) w = .ok (f, v) w := by
  obtain ⟨i, hi, h⟩ := Option.map_eq_some_iff.1 h
  obtain ⟨m, hm, h⟩ := Option.map_eq_some_iff.1 h
  simp only [Prod.mk.injEq] at h
  obtain ⟨hp, hf⟩ := h
  have hu := Try.underlying51
  simp [method, typeInfo, hi, hm, hp, hf, follow, receiverAt, Place.get, go_sem]
theorem im_len (w : World) (b o : Nat) (v : Value) (hc : w.cell? ⟨b, o, none⟩ = some v) : ∀ n, Sem.run Try.prog (method (n + 1) 51 (.pointer (some ⟨b, o, none⟩)) "Len") w = .ok (27, v) w := imeth_val _ _ imt_len w b o v hc
theorem im_less (w : World) (b o : Nat) (v : Value) (hc : w.cell? ⟨b, o, none⟩ = some v) : ∀ n, Sem.run Try.prog (method (n + 1) 51 (.pointer (some ⟨b, o, none⟩)) "Less") w = .ok (50, v) w := imeth_val _ _ imt_less w b o v hc
theorem im_swap (w : World) (b o : Nat) (v : Value) (hc : w.cell? ⟨b, o, none⟩ = some v) : ∀ n, Sem.run Try.prog (method (n + 1) 51 (.pointer (some ⟨b, o, none⟩)) "Swap") w = .ok (52, v) w := imeth_val _ _ imt_swap w b o v hc
theorem im_push (w : World) (v : Value) : ∀ n, Sem.run Try.prog (method (n + 1) 51 v "Push") w = .ok (54, v) w := imeth_ptr _ _ imt_push w v
theorem im_pop (w : World) (v : Value) : ∀ n, Sem.run Try.prog (method (n + 1) 51 v "Pop") w = .ok (53, v) w := imeth_ptr _ _ imt_pop w v
theorem ie_len : ∀ args w, (callFunc 27 args).run Try.prog w = .ok (.enter 27 args) w := enters_of Try.func27 (by kernel_rfl) rfl
theorem ie_less : ∀ args w, (callFunc 50 args).run Try.prog w = .ok (.enter 50 args) w := enters_of Try.func50 (by kernel_rfl) rfl
theorem ie_swap : ∀ args w, (callFunc 52 args).run Try.prog w = .ok (.enter 52 args) w := enters_of Try.func52 (by kernel_rfl) rfl
theorem ie_push : ∀ args w, (callFunc 54 args).run Try.prog w = .ok (.enter 54 args) w := enters_of Try.func54 (by kernel_rfl) rfl
theorem ie_pop : ∀ args w, (callFunc 53 args).run Try.prog w = .ok (.enter 53 args) w := enters_of Try.func53 (by kernel_rfl) rfl
end Go.Proofs.Ytckbjgcelpmffaa
