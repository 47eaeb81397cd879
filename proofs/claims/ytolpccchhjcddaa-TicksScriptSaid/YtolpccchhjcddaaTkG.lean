
/- The heap's own Push and Pop. -/
import Derived.Test.YtolpccchhjcddaaTkF
import Derived.RangeFuncBox
import Derived.Deep.RegionLaw
namespace Go.Proofs.Ytolpccchhjcddaa
open Go.RowKit Go.Shelf

def agT (x : Tm) : Value := .agg #[.int .i64 x.1, .int .i64 x.2.1, .int .i64 x.2.2]
/-- A slice of timers in memory, nil let in, and the header that holds it. -/
structure Hv (w : World) (hb ho : Nat) (v : Value) (l : List Tm) : Prop where
  hd : w.cell? ⟨hb, ho, none⟩ = some v
  hf : w.frozen? ⟨hb, ho, none⟩ = false
  row : w.ownsRow 0 28 3 v l.length (trows l)
  ne : v.ownBlock ≠ some hb
theorem Hv.lt {w : World} {hb ho : Nat} {v : Value} {l : List Tm} (h : Hv w hb ho v l) : hb < w.heap.size := World.block_lt_of_cell? _ ⟨hb, ho, none⟩ h.hd
theorem HpAt.v {w : World} {hb ho g cap : Nat} {l : List Tm} (h : HpAt w hb ho g cap l) : Hv w hb ho (.slice (some ⟨g, 0, none⟩) l.length cap) l :=
  ⟨h.hd, h.hf, h.row, fun e => h.ne (by simp [Value.ownBlock] at e; exact e.symm)⟩
theorem Hv.form {w : World} {hb ho : Nat} {v : Value} {l : List Tm} (h : Hv w hb ho v l) : (v = .slice none 0 0 ∧ l = []) ∨ ∃ g cap, v = .slice (some ⟨g, 0, none⟩) l.length cap ∧ HpAt w hb ho g cap l := by
  rcases h.row.2 with ⟨rfl, h0⟩ | ⟨g, cap, cur, rfl, _⟩
  · exact .inl ⟨rfl, List.length_eq_zero_iff.1 h0⟩
  · exact .inr ⟨g, cap, rfl, h.hd, h.hf, h.row, fun e => h.ne (by simp [Value.ownBlock, e])⟩
theorem Hv.tch {S : Nat → Prop} {w w' : World} {hb ho : Nat} {v : Value} {l : List Tm} (h : Hv w hb ho v l) (k : Tch S w w') (h1 : ¬ S hb) (h2 : ∀ g, v.ownBlock = some g → ¬ S g) : Hv w' hb ho v l := by
  rcases h.form with ⟨rfl, rfl⟩ | ⟨g, cap, rfl, hp⟩
  · exact ⟨(k.cell h.lt h1).trans h.hd, (k.froz h.lt h1).trans h.hf, World.ownsRow_nil _ _ _ _, h.ne⟩
  · exact (hp.tch k h1 (h2 g rfl)).v
theorem Hv.nw {w w' : World} {hb ho : Nat} {v : Value} {l : List Tm} (h : Hv w hb ho v l) (k : Nw w w') : Hv w' hb ho v l := h.tch (Tch.nw (S := fun _ => False) k) (fun e => e) (fun _ _ e => e)
/-- The blocks of a slice behind its header. -/
def Of (hb : Nat) (v : Value) : Nat → Prop := fun k => k = hb ∨ v.ownBlock = some k

theorem infoT : (Try.prog.info? 28).map (fun i => (i.zero, i.size, i.bytes)) = some (some (.agg #[.int .i64 0, .int .i64 0, .int .i64 0]), 3, 24) := by kernel_rfl

def PushM (w : World) (hb ho : Nat) (v : Value) (l : List Tm) (w' : World) : Prop :=
  ∃ g' cap', HpAt w' hb ho g' cap' l ∧ (some g' = v.ownBlock ∨ w.heap.size ≤ g') ∧ Tch (Of hb v) w w' ∧ Side hb ho w w'

/-- What append makes of a slice of timers: at a world that has one box more than w. -/
theorem append_at (t ty : TypeId) (ht : Try.prog.underlying t = some (.slice 28)) (w W : World) (hb ho : Nat) (v : Value) (l : List Tm) (x : Tm) (h : Hv w hb ho v l) (hsm : l.length ≤ 1000000)
    (nwW : Nw w W) (hsz : W.heap.size = w.heap.size + 1) (c : ∀ j u, (trow x)[j]? = some u → W.cell? ((⟨w.heap.size, 0, none⟩ : Addr).add j) = some u) :
    ∃ g' cap' w1, (Builtin.append_ #[t, t] ty #[v, .slice (some ⟨w.heap.size, 0, none⟩) 1 1]).run Try.prog W = .ok (.slice (some ⟨g', 0, none⟩) (l.length + 1) cap') w1 ∧
      w1.cell? ⟨hb, ho, none⟩ = some v ∧ w1.frozen? ⟨hb, ho, none⟩ = false ∧ PushM w hb ho v (l ++ [x]) (w1.setCell ⟨hb, ho, none⟩ (.slice (some ⟨g', 0, none⟩) (l.length + 1) cap')) := by
  have hlt := h.lt
  have hv := h.nw nwW
  obtain ⟨i0, hi, hz0, hz1, hz2⟩ := info_parts infoT
  obtain ⟨v', w1, hr, ho1, hg1, hp1⟩ := run_append_fresh (P := Try.prog) W 0 t ty 28 i0 _ 3 24 ht hi hz0 hz1 hz2 rfl (by decide) v l.length (trows l) hv.row
    ⟨w.heap.size, 0, none⟩ 1 1 (trow x) rfl c (by simp [trow, Value.oneCell']) (by unfold maxLen; omega) (by omega) (Nat.zero_le _)
  obtain ⟨g', cap', rfl⟩ := ownsRow_succ ho1
  have hne : some hb ≠ v.ownBlock := fun e => h.ne e.symm
  have hg'ne : hb ≠ g' := by
    intro e
    subst e
    rcases hp1 with e | e
    · exact hne e
    · simp [Value.ownBlock] at e; omega
  have hcell := hg1.cell hv.hd hne
  have hfroz : w1.frozen? ⟨hb, ho, none⟩ = false := (World.frozen?_of_block (hg1.block hb (by omega) hne)).trans hv.hf
  refine ⟨g', cap', w1, hr, hcell, hfroz, g', cap', ⟨?_, ?_, ?_, hg'ne⟩, ?_, ?_, ?_⟩
  · rw [List.length_append]; exact World.cell?_setCell_same _ _ _ hcell
  · rw [World.frozen?_setCell]; exact hfroz
  · have hrow : TRow w1 g' cap' (l ++ [x]) := by
      unfold TRow
      rw [List.length_append, trows_app]
      simpa [trows] using ho1
    exact hrow.kept (Below.heap_setCell _ _ _ _ (fun e => hg'ne e.symm))
  · rcases hp1 with e | e
    · exact .inl e
    · refine .inr ?_
      simp [Value.ownBlock] at e; omega
  · have t1 : Tch (Of hb v) w w1 := (Tch.nw nwW).grown hg1 (fun k e => .inl (.inr e))
    exact t1.set (.inl (.inl rfl)) _
  · refine Side.trans (b := w1) (Side.trans (b := W) (Side.tch (Tch.nw (S := fun _ => False) nwW) hlt (fun e => e)) ?_) (Side.set w1 _)
    exact fun o _ => ⟨World.cell?_of_block (hg1.block hb (by omega) hne), World.frozen?_of_block (hg1.block hb (by omega) hne)⟩

theorem box_cells (w : World) (x : Tm) (T : TypeId) : ∀ j u, (trow x)[j]? = some u → (w.alloc (.cells #[.int .i64 x.1, .int .i64 x.2.1, .int .i64 x.2.2] T)).cell? ((⟨w.heap.size, 0, none⟩ : Addr).add j) = some u := by
  intro j u hu
  match j, hu with
  | 0, hu => simp [trow] at hu; subst hu; simp [go_sem]
  | 1, hu => simp [trow] at hu; subst hu; simp [go_sem]
  | 2, hu => simp [trow] at hu; subst hu; simp [go_sem]
  | j + 3, hu => simp [trow] at hu
theorem append_t (t ty : TypeId) (ht : Try.prog.underlying t = some (.slice 28)) (w W : World) (hb ho : Nat) (v : Value) (l : List Tm) (x : Tm) (h : Hv w hb ho v l) (hsm : l.length ≤ 1000000)
    (hW : (w.alloc (.cells #[.int .i64 x.1, .int .i64 x.2.1, .int .i64 x.2.2] 28)).drew = W) :
    ∃ g' cap' w1, (Builtin.append_ #[t, t] ty #[v, .slice (some ⟨w.heap.size, 0, none⟩) 1 1]).run Try.prog W = .ok (.slice (some ⟨g', 0, none⟩) (l.length + 1) cap') w1 ∧
      w1.cell? ⟨hb, ho, none⟩ = some v ∧ w1.frozen? ⟨hb, ho, none⟩ = false ∧ PushM w hb ho v (l ++ [x]) (w1.setCell ⟨hb, ho, none⟩ (.slice (some ⟨g', 0, none⟩) (l.length + 1) cap')) := by
  subst hW
  exact append_at t ty ht w _ hb ho v l x h hsm (((Nw.refl w).alloc _).drewN 1) (by simp) (box_cells w x _)

theorem step_append {P : Program} {ops : Array Oper} {o : Oper} {a : Act} {w : World} {K : Act → World → Prop} {Q : Exit → Act → World → Prop} {E : Prop} (hgd : o.guard = none) (s x : Operand) (t : TypeId)
    (ho : o.op = .call { callee := .builtin .append, args := #[s, x], argTypes := #[t, t] }) (v u v' : Value) (w' : World) (hs : a.eval s = v) (hx : a.eval x = u) (hr : (Builtin.append_ #[t, t] o.type #[v, u]).run P w = .ok v' w')
    (h : K (a.put o.dst v') w') : if Region.wanted o (yielded ops a.tmps) = true then Oper.wp P o a w K Q else E := by
  have hw : Region.wanted o (yielded ops a.tmps) = true := by simp [Region.wanted, hgd]
  rw [if_pos hw]
  unfold Oper.wp execOp
  simp only [ho, resolve, invoke, builtin, Sem.run_bind, Sem.run_pure, Result.andThen_ok, List.map_toArray, List.map_cons, List.map_nil, hs, hx, hr]
  exact h
theorem assert_t (y : Value) (w : World) : Sem.run Try.prog (Instr.typeAssert (.iface 28 y) 20 28 false) w = .ok y w := by
  have hu := Try.underlying28
  simp [Instr.typeAssert, go_sem, hu]
set_option maxHeartbeats 1000000 in
theorem pushM_any (hb ho : Nat) (v : Value) (l : List Tm) (x : Tm) (w : World) (h : Hv w hb ho v l) (hsm : l.length ≤ 1000000) :
    Calls Try.prog 69 #[.pointer (some ⟨hb, ho, none⟩), .iface 28 (agT x)] w fun e w' => e = .returned (.tuple #[]) ∧ PushM w hb ho v (l ++ [x]) w' := by
  obtain ⟨W, hW⟩ : ∃ W, (w.alloc (.cells #[.int .i64 x.1, .int .i64 x.2.1, .int .i64 x.2.2] 28)).drew = W := ⟨_, rfl⟩
  obtain ⟨g', cap', w1, hr, hc, hf, hp⟩ := append_t 55 55 Try.underlying55 w W hb ho v l x h hsm hW
  have HP := Lib.hid hp
  have hd := h.hd
  have hlt := h.lt
  have vf := h.form
  clear hp h
  have ta := assert_t
  unfold agT
  generalize l.length = N at *
  obtain ⟨x0, x1, x2⟩ := x
  simp only at hW
  have HA := Lib.hid hr
  clear hr
  subst hW
  rcases vf with ⟨rfl, _⟩ | ⟨g, cap, rfl, _⟩
  all_goals
    go_enter Try.func69, Try.ntmps69
    go_wp2
    go_region_law (refine step_append rfl (.tmp 7) (.tmp 10) 55 rfl _ _ _ _ rfl rfl HA.out ?_)
    go_wp2
  all_goals
    go_end0
    exact ⟨rfl, HP.out⟩

theorem popM_world {w : World} {hb ho g cap : Nat} {l : List Tm} {x : Tm} (h : HpAt w hb ho g cap (l ++ [x])) (o : Obj) :
    HpAt ((w.setCell ⟨hb, ho, none⟩ (.slice (some ⟨g, 0, none⟩) l.length cap)).alloc o) hb ho g cap l ∧ Tch (fun k => k = hb) w ((w.setCell ⟨hb, ho, none⟩ (.slice (some ⟨g, 0, none⟩) l.length cap)).alloc o) ∧ Side hb ho w ((w.setCell ⟨hb, ho, none⟩ (.slice (some ⟨g, 0, none⟩) l.length cap)).alloc o) := by
  have h1 : HpAt (w.setCell ⟨hb, ho, none⟩ (.slice (some ⟨g, 0, none⟩) l.length cap)) hb ho g cap l := by
    refine ⟨World.cell?_setCell_same _ _ _ h.hd, by rw [World.frozen?_setCell]; exact h.hf, ?_, h.ne⟩
    have hr := h.row
    unfold TRow at hr
    rw [List.length_append, trows_app] at hr
    have hp := ownsRow_pop (xs := trows l) (last := trows [x]) (trows_len l) hr
    exact TRow.kept (w := w) hp (Below.heap_setCell _ _ _ _ (fun e => h.ne e.symm))
  exact ⟨h1.nw ((Nw.refl _).alloc o), (Tch.set (S := fun k => k = hb) (p := ⟨hb, ho, none⟩) (Tch.refl _ w) (.inl rfl) _).alloc o,
    (Side.set w _).trans (Side.tch (Tch.nw (S := fun _ => False) ((Nw.refl _).alloc o)) h1.lt (fun e => e))⟩
set_option maxHeartbeats 1000000 in
theorem popM_any (hb ho g cap : Nat) (l : List Tm) (x : Tm) (w : World) (h : HpAt w hb ho g cap (l ++ [x])) :
    Calls Try.prog 68 #[.pointer (some ⟨hb, ho, none⟩)] w fun e w' => e = .returned (.iface 28 (agT x)) ∧ HpAt w' hb ho g cap l ∧ Tch (fun k => k = hb) w w' ∧ Side hb ho w w' := by
  have HW := Lib.hid (fun o => popM_world h o)
  have hm := Nat.le_trans h.row.cap_le.1 h.row.cap_le.2
  unfold maxLen at hm
  have hcap := h.row.cap_le.1
  obtain ⟨c0, c1, c2⟩ := h.row.cells l.length (by simp)
  have hx : at' (l ++ [x]) l.length = x := by simp [at', List.getD]
  rw [hx] at c0 c1 c2
  have hd := h.hd
  have hf := h.hf
  have hlt := h.lt
  rw [List.length_append] at hd hm hcap
  simp only [List.length_cons, List.length_nil, Nat.zero_add] at hd hm hcap
  unfold agT
  generalize l.length = N at *
  obtain ⟨x0, x1, x2⟩ := x
  simp only at c0 c1 c2 ⊢
  clear h hx
  go_enter Try.func68, Try.ntmps68
  go_wp2
  go_ret
  exact ⟨rfl, HW.out _⟩
end Go.Proofs.Ytolpccchhjcddaa
