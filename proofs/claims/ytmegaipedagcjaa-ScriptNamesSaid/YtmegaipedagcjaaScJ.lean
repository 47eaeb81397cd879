
/- createThreads; what an operation, a pick and caps do to a script of the call's own. -/
import Derived.Test.YtmegaipedagcjaaScI
import Derived.Test.YtmegaipedagcjaaScC
namespace Go.Proofs.Ytmegaipedagcjaa
open Go.RowKit

theorem wpList_append_run {P : Program} {w : World} {ops : Array Oper} {rest : List Oper} {o : Oper} {a : Act} {Q : Exit → Act → World → Prop}
    (hg : o.guard = none) (s x : Operand) (t : TypeId) (hop : o.op = Op.call { callee := Callee.builtin Builtin.append, args := #[s, x], argTypes := #[t, t] })
    (v u v' : Value) (w' : World) (hs : a.eval s = v) (hx : a.eval x = u) (hr : (Builtin.append_ #[t, t] o.type #[v, u]).run P w = .ok v' w') (h : wpList P ops Q rest (a.put o.dst v') w') : wpList P ops Q (o :: rest) a w := by
  refine wpList_plain hg fun K hK' => ?_
  unfold Oper.wp execOp
  simp only [hop, resolve, invoke, builtin, Sem.run_bind, Sem.run_pure, Result.andThen_ok, List.map_toArray, List.map_cons, List.map_nil, hs, hx, hr]
  exact hK' _ _ h
theorem step_append {P : Program} {ops : Array Oper} {o : Oper} {a : Act} {w : World} {K : Act → World → Prop} {Q : Exit → Act → World → Prop} {E : Prop} (hgd : o.guard = none) (s x : Operand) (t : TypeId)
    (ho : o.op = .call { callee := .builtin .append, args := #[s, x], argTypes := #[t, t] }) (v u v' : Value) (w' : World) (hs : a.eval s = v) (hx : a.eval x = u) (hr : (Builtin.append_ #[t, t] o.type #[v, u]).run P w = .ok v' w')
    (h : K (a.put o.dst v') w') : if Region.wanted o (yielded ops a.tmps) = true then Oper.wp P o a w K Q else E := by
  have hw : Region.wanted o (yielded ops a.tmps) = true := by simp [Region.wanted, hgd]
  rw [if_pos hw]
  unfold Oper.wp execOp
  simp only [ho, resolve, invoke, builtin, Sem.run_bind, Sem.run_pure, Result.andThen_ok, List.map_toArray, List.map_cons, List.map_nil, hs, hx, hr]
  exact h
section
variable {w w' : World} {g0 B : Nat} {vt vp : Value} {us : List Value} {s : PS}
theorem getD_set_eq {α : Type} (l : List α) (i : Nat) (x d : α) (h : i < l.length) : (l.set i x).getD i d = x := by simp [List.getD_eq_getElem?_getD, h]
theorem getD_set_ne' {α : Type} (l : List α) (i j : Nat) (x d : α) (h : i ≠ j) : (l.set i x).getD j d = l.getD j d := by simp [List.getD_eq_getElem?_getD, h]
theorem orows_app (a b : List Od) : orows (a ++ b) = orows a ++ orows b := by simp [orows]
theorem prows_app (a b : List (Int × Int)) : prows (a ++ b) = prows a ++ prows b := by simp [prows]
theorem orow_cells (w : World) (o : Od) : ∀ j u, (orow o)[j]? = some u → (w.alloc (.cells #[.int .i64 o.1, .int .i64 o.2.1, .int .i64 o.2.2.1, .int .i64 o.2.2.2.1, .int .i64 o.2.2.2.2.1, .int .i64 o.2.2.2.2.2] 37)).drew.cell? ((⟨w.heap.size, 0, none⟩ : Addr).add j) = some u := by
  intro j u hu
  match j, hu with
  | 0, hu => simp [orow] at hu; subst hu; simp [go_sem]
  | 1, hu => simp [orow] at hu; subst hu; simp [go_sem]
  | 2, hu => simp [orow] at hu; subst hu; simp [go_sem]
  | 3, hu => simp [orow] at hu; subst hu; simp [go_sem]
  | 4, hu => simp [orow] at hu; subst hu; simp [go_sem]
  | 5, hu => simp [orow] at hu; subst hu; simp [go_sem]
  | j + 6, hu => simp [orow] at hu
/-- An operation more in thread t. -/
theorem OwnS.addOp (h : OwnS w g0 B vt vp us s) (t : Nat) (ht : t < us.length) (o : Od) (hsm : (s.th.getD t []).length ≤ 1000) {gt ct : Nat} (hv : vt = .slice (some ⟨gt, 0, none⟩) us.length ct) {W : World}
    (hW : (w.alloc (.cells #[.int .i64 o.1, .int .i64 o.2.1, .int .i64 o.2.2.1, .int .i64 o.2.2.2.1, .int .i64 o.2.2.2.2.1, .int .i64 o.2.2.2.2.2] 37)).drew = W) :
    ∃ v' w1, (Builtin.append_ #[41, 41] 41 #[us.getD t nilV, .slice (some ⟨w.heap.size, 0, none⟩) 1 1]).run Try.prog W = .ok v' w1 ∧
      OwnS (w1.setCell ⟨gt, t, none⟩ v') g0 B vt vp (us.set t v') ⟨s.th.set t (s.th.getD t [] ++ [o]), s.pk, s.cp⟩ ∧ Below g0 w (w1.setCell ⟨gt, t, none⟩ v') ∧ w1.cell? ⟨gt, t, none⟩ = some (us.getD t nilV) ∧ w1.frozen? ⟨gt, t, none⟩ = false ∧ (∃ g cap, v' = .slice (some ⟨g, 0, none⟩) ((s.th.getD t []).length + 1) cap) ∧ Kept B w (w1.setCell ⟨gt, t, none⟩ v') ∧ w1.cell? ⟨B, 0, none⟩ = some vt := by
  obtain ⟨i0, hi, hz0, hz1, hz2⟩ := info_parts infoO
  have hc := orow_cells w o
  rw [hW] at hc
  have hn : Nw w W := by rw [← hW]; exact ((Nw.refl w).alloc _).drew1
  have ha := h.nw hn
  have hsz : W.heap.size = w.heap.size + 1 := by rw [← hW]; simp
  obtain ⟨v', w1, hrun, ho, hg, hp⟩ := run_append_fresh (P := Try.prog) W g0 41 41 37 i0 _ 6 48 Try.underlying41 hi hz0 hz1 hz2 rfl (by decide) (us.getD t nilV) (s.th.getD t []).length _ (ha.ro t ht)
    ⟨w.heap.size, 0, none⟩ 1 1 (orow o) rfl hc (by
      intro u hu
      simp [orow] at hu
      rcases hu with rfl | rfl | rfl | rfl | rfl | rfl <;> rfl) (by unfold maxLen; omega) (by omega) (by have := h.base; have := h.lt; omega)
  have ho' : ORow w1 g0 v' (s.th.getD t [] ++ [o]) := by
    unfold ORow
    rw [List.length_append, orows_app]
    simpa [orows] using ho
  have hbx : (us.getD t nilV).ownBlock ≠ some B := fun q => own_box (ha.ro t ht) q ha.box (by decide) rfl
  have hb1 : w1.heap[B]? = _ := (hg.block B ha.lt (fun q => hbx q.symm)).trans ha.box
  have hvo : vt.ownBlock = some gt := by rw [hv]; rfl
  have hrt1 : TRow w1 g0 vt us := own_keep ha.rt hg (fun g q r => own_apart ha.rt (ha.ro t ht) (by decide) q r)
  have hst := set_grown w1 ⟨gt, t, none⟩ v'
  obtain ⟨cg, hcg⟩ := own_heap hrt1 hvo
  have hgB : gt ≠ B := own_box hrt1 hvo hb1 (by decide)
  have hth : t < s.th.length := by rw [← h.len]; exact ht
  have hrt1' := hrt1
  rw [hv] at hrt1'
  have hcell : w1.cell? ⟨gt, t, none⟩ = some (us.getD t nilV) := (World.ownsRow.cellAt hrt1' t (by omega)).trans (by simp [List.getD, ht])
  have hrp1 : PRow w1 g0 vp s.pk := own_keep ha.rp hg (fun g q r => own_apart ha.rp (ha.ro t ht) (by decide) q r)
  refine ⟨v', w1, hrun, ⟨h.base, ?_, ?_, by simp [h.len], ?_, own_keep hrp1 hst (fun g q r => own_box hrp1 q hcg (by decide) (by simpa using r.symm)), ?_⟩, ?_, hcell, heap_fz hcg, ?_, ((Kept.nw hn).trans (Kept.grown hg (fun g q => by obtain ⟨c, hc⟩ := own_heap (ha.ro t ht) q; exact .inr ⟨c, .inr (.inl hc)⟩))).trans (Kept.grown hst (fun g q => by simp at q; subst q; exact .inr ⟨cg, .inl hcg⟩)), heap_cell hb1⟩
  · exact (Below.heap_setCell _ _ _ _ (fun q => hgB q.symm)).trans hb1
  · have := (World.ownsRow.stored hrt1' t v').1
    rw [hv]
    unfold TRow
    rw [List.length_set]
    exact this
  · intro i hi
    rw [List.length_set] at hi
    show ORow _ _ _ ((s.th.set t (s.th.getD t [] ++ [o])).getD i [])
    by_cases q : t = i
    · subst q
      rw [getD_set_eq _ _ _ _ ht, getD_set_eq _ _ _ _ hth]
      exact own_keep ho' hst (fun g a r => own_box ho' a hcg (by decide) (by simpa using r.symm))
    · rw [getD_set_ne' _ _ _ _ _ q, getD_set_ne' _ _ _ _ _ q]
      have h1 : ORow w1 g0 (us.getD i nilV) (s.th.getD i []) := own_keep (ha.ro i hi) hg (fun g a r => q (h.inj t i g ht hi r a))
      exact own_keep h1 hst (fun g a r => own_box h1 a hcg (by decide) (by simpa using r.symm))
  · have key : ∀ j g, j < us.length → t ≠ j → v'.ownBlock = some g → (us.getD j nilV).ownBlock = some g → False := fun j g hj hne a b => by
      rcases hp with r | r
      · rw [r] at a; exact hne (h.inj t j g ht hj a b)
      · rw [r] at a
        have := own_lt (h.ro j hj) b
        simp at a
        omega
    intro i j g hi hj
    rw [List.length_set] at hi hj
    by_cases q : t = i
    · by_cases q2 : t = j
      · intro _ _; omega
      · subst q
        rw [getD_set_eq _ _ _ _ ht, getD_set_ne' _ _ _ _ _ q2]
        intro a b; exact (key j g hj q2 a b).elim
    · by_cases q2 : t = j
      · subst q2
        rw [getD_set_eq _ _ _ _ ht, getD_set_ne' _ _ _ _ _ q]
        intro a b; exact (key i g hi q b a).elim
      · rw [getD_set_ne' _ _ _ _ _ q, getD_set_ne' _ _ _ _ _ q2]
        exact h.inj i j g hi hj
  · have hb := h.base
    have hl := h.lt
    refine Below.setCell ?_ (own_ge hrt1 hvo) _
    exact Below.grown (Below.mono hn (by omega)) hg (by omega) (fun k hk => own_ge (ha.ro t ht) hk)
  · rcases own_form ho' with ⟨_, q⟩ | ⟨g, cap, rfl⟩
    · simp at q
    · exact ⟨g, cap, by simp⟩
theorem prow_cells (w : World) (p : Int × Int) : ∀ j u, (prow p)[j]? = some u → (w.alloc (.cells #[.int .i64 p.1, .int .i64 p.2] 59)).drew.cell? ((⟨w.heap.size, 0, none⟩ : Addr).add j) = some u := by
  intro j u hu
  match j, hu with
  | 0, hu => simp [prow] at hu; subst hu; simp [go_sem]
  | 1, hu => simp [prow] at hu; subst hu; simp [go_sem]
  | j + 2, hu => simp [prow] at hu
/-- A pick more. -/
theorem OwnS.addPick (h : OwnS w g0 B vt vp us s) (p : Int × Int) (hsm : s.pk.length ≤ 10000) {W : World} (hW : (w.alloc (.cells #[.int .i64 p.1, .int .i64 p.2] 59)).drew = W) :
    ∃ vp' w1, (Builtin.append_ #[24, 24] 24 #[vp, .slice (some ⟨w.heap.size, 0, none⟩) 1 1]).run Try.prog W = .ok vp' w1 ∧
      OwnS (w1.setCell ⟨B, 1, none⟩ vp') g0 B vt vp' us ⟨s.th, s.pk ++ [p], s.cp⟩ ∧ Below g0 w (w1.setCell ⟨B, 1, none⟩ vp') ∧ w1.cell? ⟨B, 1, none⟩ = some vp ∧ w1.frozen? ⟨B, 1, none⟩ = false ∧ (∃ g cap, vp' = .slice (some ⟨g, 0, none⟩) (s.pk.length + 1) cap) ∧ Kept B w (w1.setCell ⟨B, 1, none⟩ vp') := by
  obtain ⟨i0, hi, hz0, hz1, hz2⟩ := info_parts infoP
  have hc := prow_cells w p
  rw [hW] at hc
  have hn : Nw w W := by rw [← hW]; exact ((Nw.refl w).alloc _).drew1
  have ha := h.nw hn
  have hsz : W.heap.size = w.heap.size + 1 := by rw [← hW]; simp
  obtain ⟨vp', w1, hrun, ho, hg, hp⟩ := run_append_fresh (P := Try.prog) W g0 24 24 59 i0 _ 2 16 Try.underlying24 hi hz0 hz1 hz2 rfl (by decide) vp s.pk.length _ ha.rp
    ⟨w.heap.size, 0, none⟩ 1 1 (prow p) rfl hc (by
      intro u hu
      simp [prow] at hu
      rcases hu with rfl | rfl <;> rfl) (by unfold maxLen; omega) (by omega) (by have := h.base; have := h.lt; omega)
  have ho' : PRow w1 g0 vp' (s.pk ++ [p]) := by
    unfold PRow
    rw [List.length_append, prows_app]
    simpa [prows] using ho
  have hbx : vp.ownBlock ≠ some B := fun q => own_box ha.rp q ha.box (by decide) rfl
  have hb1 : w1.heap[B]? = _ := (hg.block B ha.lt (fun q => hbx q.symm)).trans ha.box
  have hst := set_grown w1 ⟨B, 1, none⟩ vp'
  have hrt1 : TRow w1 g0 vt us := own_keep ha.rt hg (fun g q r => own_apart ha.rt ha.rp (by decide) q r)
  have hro : ∀ i, i < us.length → ORow w1 g0 (us.getD i nilV) (s.th.getD i []) := fun i hi => own_keep (ha.ro i hi) hg (fun g q r => own_apart (ha.ro i hi) ha.rp (by decide) q r)
  refine ⟨vp', w1, hrun, ⟨h.base, ?_, own_keep hrt1 hst (fun g q r => own_box hrt1 q hb1 (by decide) (by simpa using r.symm)), h.len, fun i hi => own_keep (hro i hi) hst (fun g q r => own_box (hro i hi) q hb1 (by decide) (by simpa using r.symm)), own_keep ho' hst (fun g q r => own_box ho' q hb1 (by decide) (by simpa using r.symm)), h.inj⟩, ?_, ?_, heap_fz hb1, ?_, ((Kept.nw hn).trans (Kept.grown hg (fun g q => by obtain ⟨c, hc⟩ := own_heap ha.rp q; exact .inr ⟨c, .inr (.inr hc)⟩))).trans (Kept.grown hst (fun g q => by simp at q; exact .inl q.symm))⟩
  · rw [set_heap vp' hb1]; rfl
  · have hb := h.base
    have hl := h.lt
    exact Below.setCell (Below.grown (Below.mono hn (by omega)) hg (by omega) (fun k hk => own_ge ha.rp hk)) hb _
  · rw [heap_cell hb1]; rfl
  · rcases own_form ho' with ⟨_, q⟩ | ⟨g, cap, rfl⟩
    · simp at q
    · exact ⟨g, cap, by simp⟩
/-- Other caps. -/
theorem OwnS.setCaps (h : OwnS w g0 B vt vp us s) (c : Cp) : OwnS ((((w.setCell ⟨B, 2, none⟩ (.int .i64 c.1)).setCell ⟨B, 3, none⟩ (.int .i64 c.2.1)).setCell ⟨B, 4, none⟩ (.int .i64 c.2.2.1)).setCell ⟨B, 5, none⟩ (.int .i64 c.2.2.2)) g0 B vt vp us ⟨s.th, s.pk, c⟩ ∧ Kept B w ((((w.setCell ⟨B, 2, none⟩ (.int .i64 c.1)).setCell ⟨B, 3, none⟩ (.int .i64 c.2.1)).setCell ⟨B, 4, none⟩ (.int .i64 c.2.2.1)).setCell ⟨B, 5, none⟩ (.int .i64 c.2.2.2)) := by
  have hg : w.grownBy ((((w.setCell ⟨B, 2, none⟩ (.int .i64 c.1)).setCell ⟨B, 3, none⟩ (.int .i64 c.2.1)).setCell ⟨B, 4, none⟩ (.int .i64 c.2.2.1)).setCell ⟨B, 5, none⟩ (.int .i64 c.2.2.2)) (some B) :=
    ⟨rfl, rfl, rfl, by simp [World.setCell], fun k _ hk => by
      have hk' : k ≠ B := fun q => hk (by rw [q])
      rw [Below.heap_setCell _ _ _ _ hk', Below.heap_setCell _ _ _ _ hk', Below.heap_setCell _ _ _ _ hk', Below.heap_setCell _ _ _ _ hk']⟩
  refine ⟨⟨h.base, ?_, own_keep h.rt hg (fun g q r => own_box h.rt q h.box (by decide) (by simpa using r.symm)), h.len, fun i hi => own_keep (h.ro i hi) hg (fun g q r => own_box (h.ro i hi) q h.box (by decide) (by simpa using r.symm)), own_keep h.rp hg (fun g q r => own_box h.rp q h.box (by decide) (by simpa using r.symm)), h.inj⟩, Kept.grown hg (fun g q => by simp at q; exact .inl q.symm)⟩
  rw [set_heap _ (set_heap _ (set_heap _ (set_heap _ h.box)))]
  rfl
end

def lenAt (w : World) (B : Nat) : Nat := match w.cell? ⟨B, 0, none⟩ with
  | some (.slice _ n _) => n
  | _ => 0
theorem OwnS.lenAt {w : World} {g0 B : Nat} {vt vp : Value} {us : List Value} {s : PS} (h : OwnS w g0 B vt vp us s) : lenAt w B = s.th.length := by
  rw [← h.len]
  unfold Go.Proofs.Ytmegaipedagcjaa.lenAt
  rw [h.c0]
  rcases own_form h.rt with ⟨rfl, q⟩ | ⟨g, cap, rfl⟩
  · rw [q]
  · rfl
set_option maxRecDepth 100000 in
set_option maxHeartbeats 2000000 in
/-- createThreads(s, n): at least n threads. -/
theorem createThreads_any (g0 B n : Nat) (s : PS) (w : World) (hn : n ≤ 100) (hs : s.th.length ≤ 100) (h : Own w g0 B s) : Calls Try.prog 35 #[.pointer (some ⟨B, 0, none⟩), .int .i64 n] w fun e w' =>
    e = .returned (.tuple #[]) ∧ Own w' g0 B ⟨grow n s.th, s.pk, s.cp⟩ ∧ Below g0 w w' ∧ KeptT B w w' := by
  go_enter Try.func35, Try.ntmps35
  go_wp2
  go_loopw [] (fun wr => ∃ j, (j = 0 ∨ s.th.length + j ≤ n) ∧ Own wr g0 B ⟨s.th ++ List.replicate j [], s.pk, s.cp⟩ ∧ Below g0 w wr ∧ KeptT B w wr) (fun wr => n - lenAt wr B)
  case atStart => exact ⟨0, .inl rfl, by simpa using h, Below.refl _ _, Lib.OthersKept.refl _ _ _⟩
  case round =>
    obtain ⟨j, hj, ⟨vt, vp, us, hO⟩, hG, hK⟩ := hrel
    have hlen := hO.len
    have hla := hO.lenAt
    simp only [List.length_append, List.length_replicate] at hlen hla
    obtain ⟨vt', w1, hrun, hO', hB', hc', hf', ⟨g', cap', rfl⟩, hk'⟩ := hO.addThread (by omega)
    have hc := hO.c0
    have hlt := hO.lt
    have hF := hO.lenAt
    obtain ⟨at', ct, rfl⟩ : ∃ a c, vt = .slice a us.length c := by
      rcases own_form hO.rt with ⟨rfl, q⟩ | ⟨g, cap, rfl⟩
      · exact ⟨none, 0, by rw [q]⟩
      · exact ⟨_, _, rfl⟩
    have HO := Lib.hid hO
    have HR := Lib.hid hrun
    have HO' := Lib.hid (And.intro hO' (And.intro hB' hk'))
    have hla2 := Lib.hid hla
    have HL := Lib.hid hlen
    have hsm : us.length ≤ 1000 := by omega
    clear hO hrun hO' hB' hk' hF hla hlen
    by_cases hlt2 : us.length < n
    · have d0 : decide ((us.length : Int) < (n : Int)) = true := by simpa using hlt2
      go_wp2_with (at_builtin; refine wpList_append_run rfl (.tmp 15) (.tmp 16) 23 rfl _ _ _ _ rfl rfl HR.out ?_)
      go_roundw
      case rel => exact ⟨j + 1, .inr (by have := HL.out; omega), by have := HO'.out.1; rw [List.replicate_succ', ← List.append_assoc]; exact ⟨_, _, _, this⟩, hG.trans HO'.out.2.1, hK.trans HO'.out.2.2⟩
      case measure =>
        have := HO'.out.1.lenAt
        simp at this
        have := HL.out
        rw [‹Go.Proofs.Ytmegaipedagcjaa.lenAt _ _ = _›, hla2.out]; omega
    · have d0 : decide ((us.length : Int) < (n : Int)) = false := by simpa using hlt2
      have hgr : grow n s.th = s.th ++ List.replicate j [] := by
        unfold grow
        rcases hj with rfl | hj
        · rw [show n - s.th.length = 0 by have := HL.out; omega]
        · rw [show n - s.th.length = j by have := HL.out; omega]
      go_wp2
      go_end0
      exact ⟨rfl, ⟨_, _, _, HO.out⟩, hG, hK⟩
end Go.Proofs.Ytmegaipedagcjaa
