
/- The heap's own Push and Pop. -/
import Derived.Test.YtckbjgcelpmffaaPhF
import Derived.RangeFuncBox
import Derived.Deep.RegionLaw
namespace Go.Proofs.Ytckbjgcelpmffaa
open Go.RowKit Go.Shelf

def itrow (x : Int) : List Value := [.int .i64 x]
/-- A slice of numbers in memory, nil let in, and the header that holds it. -/
structure IHv (w : World) (hb ho : Nat) (v : Value) (l : List Int) : Prop where
  hd : w.cell? ⟨hb, ho, none⟩ = some v
  hf : w.frozen? ⟨hb, ho, none⟩ = false
  row : IS w v l
  ne : v.ownBlock ≠ some hb
theorem IHv.lt {w : World} {hb ho : Nat} {v : Value} {l : List Int} (h : IHv w hb ho v l) : hb < w.heap.size := World.block_lt_of_cell? _ ⟨hb, ho, none⟩ h.hd
theorem IHpAt.v {w : World} {hb ho g cap : Nat} {l : List Int} (h : IHpAt w hb ho g cap l) : IHv w hb ho (.slice (some ⟨g, 0, none⟩) l.length cap) l :=
  ⟨h.hd, h.hf, h.row, fun e => h.ne (by simp [Value.ownBlock] at e; exact e.symm)⟩
theorem IHv.form {w : World} {hb ho : Nat} {v : Value} {l : List Int} (h : IHv w hb ho v l) : (v = .slice none 0 0 ∧ l = []) ∨ ∃ g cap, v = .slice (some ⟨g, 0, none⟩) l.length cap ∧ IHpAt w hb ho g cap l := by
  rcases h.row.2 with ⟨rfl, h0⟩ | ⟨g, cap, cur, rfl, _⟩
  · exact .inl ⟨rfl, List.length_eq_zero_iff.1 h0⟩
  · exact .inr ⟨g, cap, rfl, h.hd, h.hf, h.row, fun e => h.ne (by simp [Value.ownBlock, e])⟩
theorem IHv.tch {S : Nat → Prop} {w w' : World} {hb ho : Nat} {v : Value} {l : List Int} (h : IHv w hb ho v l) (k : Tch S w w') (h1 : ¬ S hb) (h2 : ∀ g, v.ownBlock = some g → ¬ S g) : IHv w' hb ho v l := by
  rcases h.form with ⟨rfl, rfl⟩ | ⟨g, cap, rfl, hp⟩
  · exact ⟨(k.cell h.lt h1).trans h.hd, (k.froz h.lt h1).trans h.hf, World.ownsRow_nil _ _ _ _, h.ne⟩
  · exact (hp.tch k h1 (h2 g rfl)).v
theorem IHv.nw {w w' : World} {hb ho : Nat} {v : Value} {l : List Int} (h : IHv w hb ho v l) (k : Nw w w') : IHv w' hb ho v l := h.tch (Tch.nw (S := fun _ => False) k) (fun e => e) (fun _ _ e => e)
/-- The blocks of a slice behind its header. -/
def IOf (hb : Nat) (v : Value) : Nat → Prop := fun k => k = hb ∨ v.ownBlock = some k

def IPushM (w : World) (hb ho : Nat) (v : Value) (l : List Int) (w' : World) : Prop :=
  ∃ g' cap', IHpAt w' hb ho g' cap' l ∧ (some g' = v.ownBlock ∨ w.heap.size ≤ g') ∧ Tch (IOf hb v) w w' ∧ ISide hb ho w w'

/-- What append makes of a slice of numbers: at a world that has one box more than w. -/
theorem iappend_at (t ty : TypeId) (ht : Try.prog.underlying t = some (.slice 3)) (w W : World) (hb ho : Nat) (v : Value) (l : List Int) (x : Int) (h : IHv w hb ho v l) (hsm : l.length ≤ 1000000)
    (nwW : Nw w W) (hsz : W.heap.size = w.heap.size + 1) (c : ∀ j u, (itrow x)[j]? = some u → W.cell? ((⟨w.heap.size, 0, none⟩ : Addr).add j) = some u) :
    ∃ g' cap' w1, (Builtin.append_ #[t, t] ty #[v, .slice (some ⟨w.heap.size, 0, none⟩) 1 1]).run Try.prog W = .ok (.slice (some ⟨g', 0, none⟩) (l.length + 1) cap') w1 ∧
      w1.cell? ⟨hb, ho, none⟩ = some v ∧ w1.frozen? ⟨hb, ho, none⟩ = false ∧ IPushM w hb ho v (l ++ [x]) (w1.setCell ⟨hb, ho, none⟩ (.slice (some ⟨g', 0, none⟩) (l.length + 1) cap')) := by
  have hlt := h.lt
  have hv := h.nw nwW
  obtain ⟨i0, hi, hz0, hz1, hz2⟩ := info_parts infoI
  obtain ⟨v', w1, hr, ho1, hg1, hp1⟩ := run_append_fresh (P := Try.prog) W 0 t ty 3 i0 _ 1 8 ht hi hz0 hz1 hz2 rfl (by decide) v l.length (l.map (Value.int .i64)) hv.row
    ⟨w.heap.size, 0, none⟩ 1 1 (itrow x) rfl c (by simp [itrow, Value.oneCell']) (by unfold maxLen; omega) (by omega) (Nat.zero_le _)
  obtain ⟨g', cap', rfl⟩ := ownsRow_succ ho1
  have hne : some hb ≠ v.ownBlock := fun e => h.ne e.symm
  have hg'ne : hb ≠ g' := by
    intro e
    subst e
    rcases hp1 with e | e
    · exact hne e
    · simp [Value.ownBlock] at e; omega
  have hcell := hg1.cell hv.hd hne
  have hfroz : w1.frozen? ⟨hb, ho, none⟩ = false := (World.frozen?_of_block (hg1.block hb (by omega) hne)).trans hv.hf
  refine ⟨g', cap', w1, hr, hcell, hfroz, g', cap', ⟨?_, ?_, ?_, hg'ne⟩, ?_, ?_, ?_⟩
  · rw [List.length_append]; exact World.cell?_setCell_same _ _ _ hcell
  · rw [World.frozen?_setCell]; exact hfroz
  · have hrow : ITRow w1 g' cap' (l ++ [x]) := by
      unfold ITRow IS
      rw [List.length_append, List.map_append]
      exact ho1
    exact itkept hrow (Below.heap_setCell _ _ _ _ (fun e => hg'ne e.symm))
  · rcases hp1 with e | e
    · exact .inl e
    · refine .inr ?_
      simp [Value.ownBlock] at e; omega
  · have t1 : Tch (IOf hb v) w w1 := (Tch.nw nwW).grown hg1 (fun k e => .inl (.inr e))
    exact t1.set (.inl (.inl rfl)) _
  · refine ISide.trans (b := w1) (ISide.trans (b := W) (ISide.tch (Tch.nw (S := fun _ => False) nwW) hlt (fun e => e)) ?_) (ISide.set w1 _)
    exact fun o _ => ⟨World.cell?_of_block (hg1.block hb (by omega) hne), World.frozen?_of_block (hg1.block hb (by omega) hne)⟩

theorem ibox_cells (w : World) (x : Int) (T : TypeId) : ∀ j u, (itrow x)[j]? = some u → (w.alloc (.cells #[.int .i64 x] T)).cell? ((⟨w.heap.size, 0, none⟩ : Addr).add j) = some u := by
  intro j u hu
  match j, hu with
  | 0, hu => simp [itrow] at hu; subst hu; simp [go_sem]
  | j + 1, hu => simp [itrow] at hu
theorem iappend_t (t ty : TypeId) (ht : Try.prog.underlying t = some (.slice 3)) (w W : World) (hb ho : Nat) (v : Value) (l : List Int) (x : Int) (h : IHv w hb ho v l) (hsm : l.length ≤ 1000000)
    (hW : (w.alloc (.cells #[.int .i64 x] 3)).drew = W) :
    ∃ g' cap' w1, (Builtin.append_ #[t, t] ty #[v, .slice (some ⟨w.heap.size, 0, none⟩) 1 1]).run Try.prog W = .ok (.slice (some ⟨g', 0, none⟩) (l.length + 1) cap') w1 ∧
      w1.cell? ⟨hb, ho, none⟩ = some v ∧ w1.frozen? ⟨hb, ho, none⟩ = false ∧ IPushM w hb ho v (l ++ [x]) (w1.setCell ⟨hb, ho, none⟩ (.slice (some ⟨g', 0, none⟩) (l.length + 1) cap')) := by
  subst hW
  exact iappend_at t ty ht w _ hb ho v l x h hsm (((Nw.refl w).alloc _).drewN 1) (by simp) (ibox_cells w x _)

theorem istep_append {P : Program} {ops : Array Oper} {o : Oper} {a : Act} {w : World} {K : Act → World → Prop} {Q : Exit → Act → World → Prop} {E : Prop} (hgd : o.guard = none) (s x : Operand) (t : TypeId)
    (ho : o.op = .call { callee := .builtin .append, args := #[s, x], argTypes := #[t, t] }) (v u v' : Value) (w' : World) (hs : a.eval s = v) (hx : a.eval x = u) (hr : (Builtin.append_ #[t, t] o.type #[v, u]).run P w = .ok v' w')
    (h : K (a.put o.dst v') w') : if Region.wanted o (yielded ops a.tmps) = true then Oper.wp P o a w K Q else E := by
  have hw : Region.wanted o (yielded ops a.tmps) = true := by simp [Region.wanted, hgd]
  rw [if_pos hw]
  unfold Oper.wp execOp
  simp only [ho, resolve, invoke, builtin, Sem.run_bind, Sem.run_pure, Result.andThen_ok, List.map_toArray, List.map_cons, List.map_nil, hs, hx, hr]
  exact h
theorem iassert_t (y : Value) (w : World) : Sem.run Try.prog (Instr.typeAssert (.iface 3 y) 20 3 false) w = .ok y w := by
  have hu := Try.underlying3
  simp [Instr.typeAssert, go_sem, hu]
set_option maxHeartbeats 1000000 in
theorem ipushM_any (hb ho : Nat) (v : Value) (l : List Int) (x : Int) (w : World) (h : IHv w hb ho v l) (hsm : l.length ≤ 1000000) :
    Calls Try.prog 54 #[.pointer (some ⟨hb, ho, none⟩), .iface 3 (.int .i64 x)] w fun e w' => e = .returned (.tuple #[]) ∧ IPushM w hb ho v (l ++ [x]) w' := by
  obtain ⟨W, hW⟩ : ∃ W, (w.alloc (.cells #[.int .i64 x] 3)).drew = W := ⟨_, rfl⟩
  obtain ⟨g', cap', w1, hr, hc, hf, hp⟩ := iappend_t 45 45 Try.underlying45 w W hb ho v l x h hsm hW
  have HP := Lib.hid hp
  have hd := h.hd
  have hlt := h.lt
  have vf := h.form
  clear hp h
  have ta := iassert_t
  generalize l.length = N at *
  have HA := Lib.hid hr
  clear hr
  subst hW
  rcases vf with ⟨rfl, _⟩ | ⟨g, cap, rfl, _⟩
  all_goals
    go_enter Try.func54, Try.ntmps54
    go_wp2
    go_region_law (refine istep_append rfl (.tmp 8) (.tmp 11) 45 rfl _ _ _ _ rfl rfl HA.out ?_)
    go_wp2
  all_goals
    go_end0
    exact ⟨rfl, HP.out⟩

theorem ipopM_world {w : World} {hb ho g cap : Nat} {l : List Int} {x : Int} (h : IHpAt w hb ho g cap (l ++ [x])) :
    IHpAt (w.setCell ⟨hb, ho, none⟩ (.slice (some ⟨g, 0, none⟩) l.length cap)) hb ho g cap l ∧ Tch (fun k => k = hb) w (w.setCell ⟨hb, ho, none⟩ (.slice (some ⟨g, 0, none⟩) l.length cap)) ∧ ISide hb ho w (w.setCell ⟨hb, ho, none⟩ (.slice (some ⟨g, 0, none⟩) l.length cap)) := by
  have h1 : IHpAt (w.setCell ⟨hb, ho, none⟩ (.slice (some ⟨g, 0, none⟩) l.length cap)) hb ho g cap l := by
    refine ⟨World.cell?_setCell_same _ _ _ h.hd, by rw [World.frozen?_setCell]; exact h.hf, ?_, h.ne⟩
    have hr := h.row
    unfold ITRow at hr
    unfold IS at hr
    rw [List.length_append, List.map_append] at hr
    have hp := ownsRow_pop (xs := l.map (Value.int .i64)) (last := [x].map (Value.int .i64)) (by simp) hr
    exact itkept (w := w) hp (Below.heap_setCell _ _ _ _ (fun e => h.ne e.symm))
  exact ⟨h1, Tch.set (S := fun k => k = hb) (p := ⟨hb, ho, none⟩) (Tch.refl _ w) (.inl rfl) _, ISide.set w _⟩
set_option maxHeartbeats 1000000 in
theorem ipopM_any (hb ho g cap : Nat) (l : List Int) (x : Int) (w : World) (h : IHpAt w hb ho g cap (l ++ [x])) :
    Calls Try.prog 53 #[.pointer (some ⟨hb, ho, none⟩)] w fun e w' => e = .returned (.iface 3 (.int .i64 x)) ∧ IHpAt w' hb ho g cap l ∧ Tch (fun k => k = hb) w w' ∧ ISide hb ho w w' := by
  have HW := Lib.hid (ipopM_world h)
  have hm := Nat.le_trans (itcap_le h.row).1 (itcap_le h.row).2
  unfold maxLen at hm
  have hcap := (itcap_le h.row).1
  have c0 := itcells h.row l.length (by simp)
  have hx : iat (l ++ [x]) l.length = x := by simp [iat, List.getD]
  rw [hx] at c0
  have hd := h.hd
  have hf := h.hf
  have hlt := h.lt
  rw [List.length_append] at hd hm hcap
  simp only [List.length_cons, List.length_nil, Nat.zero_add] at hd hm hcap
  generalize l.length = N at *
  clear h hx
  go_enter Try.func53, Try.ntmps53
  go_wp2
  go_ret
  exact ⟨rfl, HW.out⟩
end Go.Proofs.Ytckbjgcelpmffaa
