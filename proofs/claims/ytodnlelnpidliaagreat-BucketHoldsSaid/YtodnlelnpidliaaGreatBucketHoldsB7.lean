/- Texts merged: PhG, PhH, PoA, PoB -/
import Derived.Test.YtodnlelnpidliaaGreatBucketHoldsB6
import Derived.RangeFuncBox
import Derived.Deep.RegionLaw
import Derived.LaidEqlPtr

/- The heap's own Push and Pop. -/
section
namespace Go.Proofs.YtodnlelnpidliaaGreat
open Go.RowKit Go.Shelf

def itrow (x : Int) : List Value := [.int .i64 x]
/-- A slice of numbers in memory, nil let in, and the header that holds it. -/
structure IHv (w : World) (hb ho : Nat) (v : Value) (l : List Int) : Prop where
  hd : w.cell? ⟨hb, ho, none⟩ = some v
  hf : w.frozen? ⟨hb, ho, none⟩ = false
  row : IS w v l
  ne : v.ownBlock ≠ some hb
theorem IHv.lt {w : World} {hb ho : Nat} {v : Value} {l : List Int} (h : IHv w hb ho v l) : hb < w.heap.size := World.block_lt_of_cell? _ ⟨hb, ho, none⟩ h.hd
theorem IHpAt.v {w : World} {hb ho g cap : Nat} {l : List Int} (h : IHpAt w hb ho g cap l) : IHv w hb ho (.slice (some ⟨g, 0, none⟩) l.length cap) l :=
  ⟨h.hd, h.hf, h.row, fun e => h.ne (by simp [Value.ownBlock] at e; exact e.symm)⟩
theorem IHv.form {w : World} {hb ho : Nat} {v : Value} {l : List Int} (h : IHv w hb ho v l) : (v = .slice none 0 0 ∧ l = []) ∨ ∃ g cap, v = .slice (some ⟨g, 0, none⟩) l.length cap ∧ IHpAt w hb ho g cap l := by
  rcases h.row.2 with ⟨rfl, h0⟩ | ⟨g, cap, cur, rfl, _⟩
  · exact .inl ⟨rfl, List.length_eq_zero_iff.1 h0⟩
  · exact .inr ⟨g, cap, rfl, h.hd, h.hf, h.row, fun e => h.ne (by simp [Value.ownBlock, e])⟩
theorem IHv.tch {S : Nat → Prop} {w w' : World} {hb ho : Nat} {v : Value} {l : List Int} (h : IHv w hb ho v l) (k : Tch S w w') (h1 : ¬ S hb) (h2 : ∀ g, v.ownBlock = some g → ¬ S g) : IHv w' hb ho v l := by
  rcases h.form with ⟨rfl, rfl⟩ | ⟨g, cap, rfl, hp⟩
  · exact ⟨(k.cell h.lt h1).trans h.hd, (k.froz h.lt h1).trans h.hf, World.ownsRow_nil _ _ _ _, h.ne⟩
  · exact (hp.tch k h1 (h2 g rfl)).v
theorem IHv.nw {w w' : World} {hb ho : Nat} {v : Value} {l : List Int} (h : IHv w hb ho v l) (k : Nw w w') : IHv w' hb ho v l := h.tch (Tch.nw (S := fun _ => False) k) (fun e => e) (fun _ _ e => e)
/-- The blocks of a slice behind its header. -/
def IOf (hb : Nat) (v : Value) : Nat → Prop := fun k => k = hb ∨ v.ownBlock = some k

def IPushM (w : World) (hb ho : Nat) (v : Value) (l : List Int) (w' : World) : Prop :=
  ∃ g' cap', IHpAt w' hb ho g' cap' l ∧ (some g' = v.ownBlock ∨ w.heap.size ≤ g') ∧ Tch (IOf hb v) w w' ∧ ISide hb ho w w'

/-- What append makes of a slice of numbers: at a world that has one box more than w. -/
theorem iappend_at (t ty : TypeId) (ht : Tryz.prog.underlying t = some (.slice 3)) (w W : World) (hb ho : Nat) (v : Value) (l : List Int) (x : Int) (h : IHv w hb ho v l) (hsm : l.length ≤ 1000000)
    (nwW : Nw w W) (hsz : W.heap.size = w.heap.size + 1) (c : ∀ j u, (itrow x)[j]? = some u → W.cell? ((⟨w.heap.size, 0, none⟩ : Addr).add j) = some u) :
    ∃ g' cap' w1, (Builtin.append_ #[t, t] ty #[v, .slice (some ⟨w.heap.size, 0, none⟩) 1 1]).run Tryz.prog W = .ok (.slice (some ⟨g', 0, none⟩) (l.length + 1) cap') w1 ∧
      w1.cell? ⟨hb, ho, none⟩ = some v ∧ w1.frozen? ⟨hb, ho, none⟩ = false ∧ IPushM w hb ho v (l ++ [x]) (w1.setCell ⟨hb, ho, none⟩ (.slice (some ⟨g', 0, none⟩) (l.length + 1) cap')) := by
  have hlt := h.lt
  have hv := h.nw nwW
  obtain ⟨i0, hi, hz0, hz1, hz2⟩ := info_parts infoI
  obtain ⟨v', w1, hr, ho1, hg1, hp1⟩ := run_append_fresh (P := Tryz.prog) W 0 t ty 3 i0 _ 1 8 ht hi hz0 hz1 hz2 rfl (by decide) v l.length (l.map (Value.int .i64)) hv.row
    ⟨w.heap.size, 0, none⟩ 1 1 (itrow x) rfl c (by simp [itrow, Value.oneCell']) (by unfold maxLen; omega) (by omega) (Nat.zero_le _)
  obtain ⟨g', cap', rfl⟩ := ownsRow_succ ho1
  have hne : some hb ≠ v.ownBlock := fun e => h.ne e.symm
  have hg'ne : hb ≠ g' := by
    intro e
    subst e
    rcases hp1 with e | e
    · exact hne e
    · simp [Value.ownBlock] at e; omega
  have hcell := hg1.cell hv.hd hne
  have hfroz : w1.frozen? ⟨hb, ho, none⟩ = false := (World.frozen?_of_block (hg1.block hb (by omega) hne)).trans hv.hf
  refine ⟨g', cap', w1, hr, hcell, hfroz, g', cap', ⟨?_, ?_, ?_, hg'ne⟩, ?_, ?_, ?_⟩
  · rw [List.length_append]; exact World.cell?_setCell_same _ _ _ hcell
  · rw [World.frozen?_setCell]; exact hfroz
  · have hrow : ITRow w1 g' cap' (l ++ [x]) := by
      unfold ITRow IS
      rw [List.length_append, List.map_append]
      exact ho1
    exact itkept hrow (Below.heap_setCell _ _ _ _ (fun e => hg'ne e.symm))
  · rcases hp1 with e | e
    · exact .inl e
    · refine .inr ?_
      simp [Value.ownBlock] at e; omega
  · have t1 : Tch (IOf hb v) w w1 := (Tch.nw nwW).grown hg1 (fun k e => .inl (.inr e))
    exact t1.set (.inl (.inl rfl)) _
  · refine ISide.trans (b := w1) (ISide.trans (b := W) (ISide.tch (Tch.nw (S := fun _ => False) nwW) hlt (fun e => e)) ?_) (ISide.set w1 _)
    exact fun o _ => ⟨World.cell?_of_block (hg1.block hb (by omega) hne), World.frozen?_of_block (hg1.block hb (by omega) hne)⟩

theorem ibox_cells (w : World) (x : Int) (T : TypeId) : ∀ j u, (itrow x)[j]? = some u → (w.alloc (.cells #[.int .i64 x] T)).cell? ((⟨w.heap.size, 0, none⟩ : Addr).add j) = some u := by
  intro j u hu
  match j, hu with
  | 0, hu => simp [itrow] at hu; subst hu; simp [go_sem]
  | j + 1, hu => simp [itrow] at hu
theorem iappend_t (t ty : TypeId) (ht : Tryz.prog.underlying t = some (.slice 3)) (w W : World) (hb ho : Nat) (v : Value) (l : List Int) (x : Int) (h : IHv w hb ho v l) (hsm : l.length ≤ 1000000)
    (hW : (w.alloc (.cells #[.int .i64 x] 3)).drew = W) :
    ∃ g' cap' w1, (Builtin.append_ #[t, t] ty #[v, .slice (some ⟨w.heap.size, 0, none⟩) 1 1]).run Tryz.prog W = .ok (.slice (some ⟨g', 0, none⟩) (l.length + 1) cap') w1 ∧
      w1.cell? ⟨hb, ho, none⟩ = some v ∧ w1.frozen? ⟨hb, ho, none⟩ = false ∧ IPushM w hb ho v (l ++ [x]) (w1.setCell ⟨hb, ho, none⟩ (.slice (some ⟨g', 0, none⟩) (l.length + 1) cap')) := by
  subst hW
  exact iappend_at t ty ht w _ hb ho v l x h hsm (((Nw.refl w).alloc _).drewN 1) (by simp) (ibox_cells w x _)

theorem istep_append {P : Program} {ops : Array Oper} {o : Oper} {a : Act} {w : World} {K : Act → World → Prop} {Q : Exit → Act → World → Prop} {E : Prop} (hgd : o.guard = none) (s x : Operand) (t : TypeId)
    (ho : o.op = .call { callee := .builtin .append, args := #[s, x], argTypes := #[t, t] }) (v u v' : Value) (w' : World) (hs : a.eval s = v) (hx : a.eval x = u) (hr : (Builtin.append_ #[t, t] o.type #[v, u]).run P w = .ok v' w')
    (h : K (a.put o.dst v') w') : if Region.wanted o (yielded ops a.tmps) = true then Oper.wp P o a w K Q else E := by
  have hw : Region.wanted o (yielded ops a.tmps) = true := by simp [Region.wanted, hgd]
  rw [if_pos hw]
  unfold Oper.wp execOp
  simp only [ho, resolve, invoke, builtin, Sem.run_bind, Sem.run_pure, Result.andThen_ok, List.map_toArray, List.map_cons, List.map_nil, hs, hx, hr]
  exact h
theorem iassert_t (y : Value) (w : World) : Sem.run Tryz.prog (Instr.typeAssert (.iface 3 y) 20 3 false) w = .ok y w := by
  have hu := Tryz.underlying3
  simp [Instr.typeAssert, go_sem]
set_option maxHeartbeats 1000000 in
theorem ipushM_any (hb ho : Nat) (v : Value) (l : List Int) (x : Int) (w : World) (h : IHv w hb ho v l) (hsm : l.length ≤ 1000000) :
    Calls Tryz.prog 180 #[.pointer (some ⟨hb, ho, none⟩), .iface 3 (.int .i64 x)] w fun e w' => e = .returned (.tuple #[]) ∧ IPushM w hb ho v (l ++ [x]) w' := by
  obtain ⟨W, hW⟩ : ∃ W, (w.alloc (.cells #[.int .i64 x] 3)).drew = W := ⟨_, rfl⟩
  obtain ⟨g', cap', w1, hr, hc, hf, hp⟩ := iappend_t 90 90 Tryz.underlying90 w W hb ho v l x h hsm hW
  have HP := Lib.hid hp
  have hd := h.hd
  have hlt := h.lt
  have vf := h.form
  clear hp h
  have ta := iassert_t
  generalize l.length = N at *
  have HA := Lib.hid hr
  clear hr
  subst hW
  rcases vf with ⟨rfl, _⟩ | ⟨g, cap, rfl, _⟩
  all_goals
    go_enter Tryz.func180, Tryz.ntmps180
    go_wp2
    go_region_law (refine istep_append rfl (.tmp 8) (.tmp 11) 90 rfl _ _ _ _ rfl rfl HA.out ?_)
    go_wp2
  all_goals
    go_end0
    exact ⟨rfl, HP.out⟩

theorem ipopM_world {w : World} {hb ho g cap : Nat} {l : List Int} {x : Int} (h : IHpAt w hb ho g cap (l ++ [x])) :
    IHpAt (w.setCell ⟨hb, ho, none⟩ (.slice (some ⟨g, 0, none⟩) l.length cap)) hb ho g cap l ∧ Tch (fun k => k = hb) w (w.setCell ⟨hb, ho, none⟩ (.slice (some ⟨g, 0, none⟩) l.length cap)) ∧ ISide hb ho w (w.setCell ⟨hb, ho, none⟩ (.slice (some ⟨g, 0, none⟩) l.length cap)) := by
  have h1 : IHpAt (w.setCell ⟨hb, ho, none⟩ (.slice (some ⟨g, 0, none⟩) l.length cap)) hb ho g cap l := by
    refine ⟨World.cell?_setCell_same _ _ _ h.hd, by rw [World.frozen?_setCell]; exact h.hf, ?_, h.ne⟩
    have hr := h.row
    unfold ITRow at hr
    unfold IS at hr
    rw [List.length_append, List.map_append] at hr
    have hp := ownsRow_pop (xs := l.map (Value.int .i64)) (last := [x].map (Value.int .i64)) (by simp) hr
    exact itkept (w := w) hp (Below.heap_setCell _ _ _ _ (fun e => h.ne e.symm))
  exact ⟨h1, Tch.set (S := fun k => k = hb) (p := ⟨hb, ho, none⟩) (Tch.refl _ w) (.inl rfl) _, ISide.set w _⟩
set_option maxHeartbeats 1000000 in
theorem ipopM_any (hb ho g cap : Nat) (l : List Int) (x : Int) (w : World) (h : IHpAt w hb ho g cap (l ++ [x])) :
    Calls Tryz.prog 179 #[.pointer (some ⟨hb, ho, none⟩)] w fun e w' => e = .returned (.iface 3 (.int .i64 x)) ∧ IHpAt w' hb ho g cap l ∧ Tch (fun k => k = hb) w w' ∧ ISide hb ho w w' := by
  have HW := Lib.hid (ipopM_world h)
  have hm := Nat.le_trans (itcap_le h.row).1 (itcap_le h.row).2
  unfold maxLen at hm
  have hcap := (itcap_le h.row).1
  have c0 := itcells h.row l.length (by simp)
  have hx : iat (l ++ [x]) l.length = x := by simp [iat, List.getD]
  rw [hx] at c0
  have hd := h.hd
  have hf := h.hf
  have hlt := h.lt
  rw [List.length_append] at hd hm hcap
  simp only [List.length_cons, List.length_nil, Nat.zero_add] at hd hm hcap
  generalize l.length = N at *
  clear h hx
  go_enter Tryz.func179, Tryz.ntmps179
  go_wp2
  go_ret
  exact ⟨rfl, HW.out⟩
end Go.Proofs.YtodnlelnpidliaaGreat
end

/- container/heap's Push, Pop and Remove. -/
section
namespace Go.Proofs.YtodnlelnpidliaaGreat
open Go.RowKit Go.Shelf

def IPushH (w : World) (hb ho : Nat) (v : Value) (s : List Int) (w' : World) : Prop :=
  ∃ g' cap' l', IHpAt w' hb ho g' cap' l' ∧ IHs l' s ∧ (some g' = v.ownBlock ∨ w.heap.size ≤ g') ∧ Tch (IOf hb v) w w' ∧ ISide hb ho w w'
set_option maxHeartbeats 1000000 in
theorem ihpush_any (hb ho : Nat) (v : Value) (l s : List Int) (x : Int) (w : World) (h : IHv w hb ho v l) (hs : IHs l s) (hsm : l.length ≤ 100000) :
    Calls Tryz.prog 72 #[.iface 119 (.pointer (some ⟨hb, ho, none⟩)), .iface 3 (.int .i64 x)] w fun e w' => e = .returned (.tuple #[]) ∧ IPushH w hb ho v (iins x s) w' := by
  have HP := Lib.hid (ipushM_any hb ho v l x w h (by omega))
  have HS := Lib.hid (And.intro h hs)
  have mP := im_push
  have eP := ie_push
  have eN := ie_len
  clear h hs
  go_enter Tryz.func72, Tryz.ntmps72
  go_wp2_with fail
  refine HP.out.mono ?_
  rintro e w1 ⟨rfl, hw1⟩
  have H1 := Lib.hid hw1
  obtain ⟨g', cap', hp, hor, ht, hsd⟩ := hw1
  have hd := hp.hd
  have mN := im_len w1 _ _ _ hd
  have HU := Lib.hid (fun j hj => iup_any hb ho g' cap' (l ++ [x]) (l.length + 1) j hj (by simp) w1 hp)
  have HX := Lib.hid (ihp_app x HS.out.2.1)
  have HH := Lib.hid (And.intro hor (And.intro ht (And.intro hsd hp)))
  clear hp hor ht hsd H1 HP mP
  rw [List.length_append] at mN hd
  simp only [List.length_cons, List.length_nil, Nat.zero_add] at mN hd
  go_wp2_with fail
  refine (ilen_any _ _ _ _).mono ?_
  rintro e w2 ⟨rfl, rfl⟩
  clear mN hd
  go_wp2_with fail
  refine (HU.out l.length (by omega) HX.out.1 HX.out.2.1 HX.out.2.2).mono ?_
  rintro e w2 ⟨rfl, hw2⟩
  have H2 := Lib.hid hw2
  clear hw2
  go_wp2
  go_end0
  obtain ⟨l', p1, _, p3, p4, p5⟩ := H2.out
  obtain ⟨hor, ht, hsd, hp⟩ := HH.out
  have hl : l'.length = l.length + 1 := by rw [p1.length_eq]; simp
  refine ⟨rfl, g', cap', l', p4, ⟨by rw [hl]; exact p3, ?_, iins_srt x s HS.out.2.2.2⟩, hor, ht.trans' p5 (fun i hi e => ?_), hsd.trans (ISide.tch p5 hp.lt hp.ne)⟩
  · exact p1.trans ((List.perm_append_comm).trans ((HS.out.2.2.1.cons x).trans (iins_perm x s).symm))
  · subst e
    rcases hor with e | e
    · exact .inr e.symm
    · omega

def IPopH (w : World) (hb ho g cap : Nat) (s : List Int) (w' : World) : Prop :=
  ∃ l', IHpAt w' hb ho g cap l' ∧ IHs l' s ∧ Tch (fun k => k = hb ∨ k = g) w w' ∧ ISide hb ho w w'
set_option maxHeartbeats 1000000 in
theorem ihpop_any (hb ho g cap : Nat) (l s : List Int) (a : Int) (w : World) (h : IHpAt w hb ho g cap l) (hs : IHs l (a :: s)) (hsm : l.length ≤ 100000) :
    Calls Tryz.prog 98 #[.iface 119 (.pointer (some ⟨hb, ho, none⟩))] w fun e w' => e = .returned (.iface 3 (.int .i64 a)) ∧ IPopH w hb ho g cap s w' := by
  obtain ⟨n, hn⟩ : ∃ n, l.length = n + 1 := ⟨s.length, by rw [hs.len]; rfl⟩
  have HS := Lib.hid (And.intro h hs)
  have hd := h.hd
  have mN := im_len w _ _ _ hd
  have mS := im_swap w _ _ _ hd
  have HW := Lib.hid (iswap_any g cap l 0 n (by omega) (by omega) w h.row)
  rw [hn] at mN mS hd HW
  have mO := im_pop
  have eO := ie_pop
  have eN := ie_len
  have eS := ie_swap
  clear h hs
  go_enter Tryz.func98, Tryz.ntmps98
  go_wp2_with fail
  refine (ilen_any _ _ _ _).mono ?_
  rintro e w2 ⟨rfl, rfl⟩
  clear mN
  go_wp2_with fail
  refine HW.out.mono ?_
  rintro e w1 ⟨rfl, hr1, ht1⟩
  have hat := iat_swp l (i := 0) (j := n) (by omega) (by omega)
  have h1 := HS.out.1.turned ht1 hr1 (iswp_len _ _ _)
  have hH := HS.out.2.1
  have HE := Lib.hid (idown_any hb ho g cap (iswp l 0 n) n 0 (by rw [iswp_len]; omega) (by rw [iswp_len]; omega) (by omega) w1 h1
    (fun k h0 hk hne hpa => by rw [hat, isw_o _ (by omega) (by omega), isw_o _ (by omega) (by omega)]; exact hH k h0 (by omega))
    (fun h0 => absurd h0 (by omega)))
  have H1 := Lib.hid (And.intro ht1 hat)
  clear hr1 ht1 hat h1 mS hd hH
  go_wp2_with fail
  refine HE.out.mono ?_
  rintro e w2 hw2
  have H2 : Hid _ := hw2
  obtain ⟨b, l', rfl, p1, p2, p3, p4, p5⟩ := hw2
  have hl' : l'.length = n + 1 := by rw [p1.length_eq, iswp_len, hn]
  have hp : IHp (iat l') n := by
    rcases p5 with ⟨_, q⟩ | ⟨_, rfl, q⟩
    · exact q
    · intro k h0 hk
      by_cases e : (k - 1) / 2 = 0
      · rw [e]; exact q k h0 hk e
      · rw [H1.out.2, isw_o _ (by omega) (by omega), isw_o _ (by omega) (by omega)]; exact HS.out.2.1 k h0 (by omega)
  have hx : iat l' n = a := by
    rw [p2 n (Nat.le_refl _), H1.out.2, isw_r]; exact HS.out.2.head
  obtain ⟨el, hs'⟩ := HS.out.2.cut (p1.trans (iswp_perm l (by omega) (by omega))) hl' hx hp (.refl _) (List.pairwise_cons.1 HS.out.2.2.2).2
  rw [el] at p3
  have HO := Lib.hid (ipopM_any hb ho g cap (l'.take n) a w2 p3)
  have H3 := Lib.hid (And.intro hs' p4)
  clear p1 p2 p3 p4 p5 hp hx el hs' H2 hl'
  go_wp2_with fail
  refine HO.out.mono ?_
  rintro e w3 ⟨rfl, q1, q2⟩
  have H4 := Lib.hid (And.intro q1 q2)
  clear q1 q2
  go_wp2
  go_ret
  refine ⟨rfl, l'.take n, H4.out.1, H3.out.1, ?_, ?_⟩
  · exact ((H1.out.1.trans H3.out.2).mono (fun _ _ e => Or.inr e)).trans (H4.out.2.1.mono (fun _ _ e => Or.inl e))
  · exact (ISide.tch (H1.out.1.trans H3.out.2) HS.out.1.lt HS.out.1.ne).trans H4.out.2.2
end Go.Proofs.YtodnlelnpidliaaGreat
end

/- A pool in memory; made, Most, Has, Live. -/
section
namespace Go.Proofs.YtodnlelnpidliaaGreat
open Go.RowKit

/-- A pool: the truths of its numbers, the heap of those that are free. -/
structure Po (w : World) (p g : Nat) (v : Value) (l : List Int) (L : List Bool) : Prop where
  self : w.cell? ⟨p, 0, none⟩ = some (.pointer (some ⟨p, 0, none⟩))
  row : w.cell? ⟨p, 1, none⟩ = some (.slice (some ⟨g, 0, none⟩) L.length L.length)
  cells : ∀ i, i < L.length → w.cell? ⟨g, i, none⟩ = some (.bool (L.getD i false)) ∧ w.frozen? ⟨g, i, none⟩ = false
  gl : g < w.heap.size
  hv : IHv w p 2 v l
  hs : IHs l (frI L)
  gp : g ≠ p
  gv : v.ownBlock ≠ some g
  sz : L.length ≤ 128
/-- The places that a pool may write. -/
def PoF (p g : Nat) (v : Value) : Nat → Prop := fun k => k = p ∨ k = g ∨ v.ownBlock = some k
theorem Po.lt {w : World} {p g : Nat} {v : Value} {l : List Int} {L : List Bool} (h : Po w p g v l L) : p < w.heap.size := h.hv.lt
theorem Po.own {w : World} {p g : Nat} {v : Value} {l : List Int} {L : List Bool} (h : Po w p g v l L) : ∀ k, PoF p g v k → k < w.heap.size := by
  rintro k (rfl | rfl | e)
  · exact h.lt
  · exact h.gl
  · exact IS.lt h.hv.row e
theorem Po.tch {S : Nat → Prop} {w w' : World} {p g : Nat} {v : Value} {l : List Int} {L : List Bool} (h : Po w p g v l L) (k : Tch S w w') (hS : ∀ k, PoF p g v k → ¬ S k) : Po w' p g v l L :=
  ⟨(k.cell h.lt (hS _ (.inl rfl))).trans h.self, (k.cell h.lt (hS _ (.inl rfl))).trans h.row, fun i hi => ⟨(k.cell h.gl (hS _ (.inr (.inl rfl)))).trans (h.cells i hi).1, (k.froz h.gl (hS _ (.inr (.inl rfl)))).trans (h.cells i hi).2⟩,
    Nat.lt_of_lt_of_le h.gl k.size, h.hv.tch k (hS _ (.inl rfl)) (fun b e => hS b (.inr (.inr e))), h.hs, h.gp, h.gv, h.sz⟩
theorem Po.nw {w w' : World} {p g : Nat} {v : Value} {l : List Int} {L : List Bool} (h : Po w p g v l L) (k : Nw w w') : Po w' p g v l L := h.tch (Tch.nw (S := fun _ => False) k) (fun _ _ e => e)
theorem Po.llen {w : World} {p g : Nat} {v : Value} {l : List Int} {L : List Bool} (h : Po w p g v l L) : l.length + liv L = L.length := by rw [h.hs.len]; exact frI_len L
/-- The same with the blocks alone named. -/
def Pol (w : World) (p : Nat) (L : List Bool) (F : Nat → Prop) : Prop := ∃ g v l, Po w p g v l L ∧ F = PoF p g v
theorem Pol.own {w : World} {p : Nat} {L : List Bool} {F : Nat → Prop} (h : Pol w p L F) : ∀ k, F k → k < w.heap.size := by
  obtain ⟨g, v, l, h, rfl⟩ := h; exact h.own
theorem Pol.tch {S : Nat → Prop} {w w' : World} {p : Nat} {L : List Bool} {F : Nat → Prop} (h : Pol w p L F) (k : Tch S w w') (hS : ∀ k, F k → ¬ S k) : Pol w' p L F := by
  obtain ⟨g, v, l, h, rfl⟩ := h; exact ⟨g, v, l, h.tch k hS, rfl⟩
theorem Pol.nw {w w' : World} {p : Nat} {L : List Bool} {F : Nat → Prop} (h : Pol w p L F) (k : Nw w w') : Pol w' p L F := by
  obtain ⟨g, v, l, h, rfl⟩ := h; exact ⟨g, v, l, h.nw k, rfl⟩
theorem Pol.sz {w : World} {p : Nat} {L : List Bool} {F : Nat → Prop} (h : Pol w p L F) : L.length ≤ 128 := by obtain ⟨g, v, l, h, rfl⟩ := h; exact h.sz
/-- A step of a pool: what it becomes, and what else may change. -/
def PolTo (w : World) (p : Nat) (F : Nat → Prop) (L : List Bool) (w' : World) : Prop := ∃ F', Pol w' p L F' ∧ (∀ k, F' k → F k ∨ w.heap.size ≤ k) ∧ Tch F w w'
theorem Pol.to {w w' : World} {p : Nat} {L : List Bool} {F : Nat → Prop} (h : Pol w p L F) (k : Nw w w') : PolTo w p F L w' := ⟨F, h.nw k, fun _ e => .inl e, Tch.nw k⟩

/-! ### made -/
theorem infoPool : (Tryz.prog.info? 94).isSome = true := by kernel_rfl
theorem peql_self (a : Addr) (w : World) : Sem.run Tryz.prog (binOp .eql 26 (.pointer (some a)) (.pointer (some a))) w = .ok (.bool true) w := by
  obtain ⟨j, hj⟩ := Option.isSome_iff_exists.1 infoPool
  exact run_eql_ptr_same w a Tryz.underlying26 hj
theorem pmade_yes (p : Nat) (w : World) (h : w.cell? ⟨p, 0, none⟩ = some (.pointer (some ⟨p, 0, none⟩))) : Calls Tryz.prog 48 #[.pointer (some ⟨p, 0, none⟩)] w fun e w' => e = .returned (.bool true) ∧ w = w' := by
  have he := peql_self
  go_enter Tryz.func48, Tryz.ntmps48
  go_wp2
  go_ret
  exact ⟨rfl, rfl⟩

/-! ### Most, Has, Live -/
theorem most_at {p g : Nat} {v : Value} {l : List Int} {L : List Bool} {w : World} (h : Po w p g v l L) : Calls Tryz.prog 30 #[.pointer (some ⟨p, 0, none⟩)] w fun e w' => e = .returned (.int .i64 L.length) ∧ w = w' := by
  have HM := Lib.hid (pmade_yes p w h.self)
  have hr := h.row
  clear h
  go_enter Tryz.func30, Tryz.ntmps30
  go_wp2_with (go_at_call 48; refine HM.out.mono ?_; rintro e w' ⟨rfl, rfl⟩)
  go_ret
  exact ⟨rfl, rfl⟩
theorem has_at {p g : Nat} {v : Value} {l : List Int} {L : List Bool} {w : World} (h : Po w p g v l L) (n : Int) : Calls Tryz.prog 27 #[.pointer (some ⟨p, 0, none⟩), .int .i64 n] w fun e w' => e = .returned (.bool (hsL L n)) ∧ w = w' := by
  have HM := Lib.hid (most_at h)
  have hr := h.row
  have hsz := h.sz
  have hg := h.gl
  by_cases hn : 0 ≤ n
  · obtain ⟨i, rfl⟩ := Int.eq_ofNat_of_zero_le hn
    by_cases hi : i < L.length
    · have hc := (h.cells i hi).1
      have e : hsL L i = L.getD i false := by simp [hsL]
      rw [e]
      generalize L.getD i false = b at *
      generalize L.length = N at *
      clear h e hn
      go_enter Tryz.func27, Tryz.ntmps27
      go_wp2_with (go_at_call 30; refine HM.out.mono ?_; rintro e w' ⟨rfl, rfl⟩)
      go_ret
      exact ⟨rfl, rfl⟩
    · have e : hsL L i = false := by simp [hsL, List.getElem?_eq_none (show L.length ≤ i by omega)]
      rw [e]
      generalize L.length = N at *
      have hd : decide (i < N) = false := by simpa using hi
      clear h e hn hi
      go_enter Tryz.func27, Tryz.ntmps27
      go_wp2_with (go_at_call 30; refine HM.out.mono ?_; rintro e w' ⟨rfl, rfl⟩)
      go_ret
      exact ⟨rfl, rfl⟩
  · have e : hsL L n = false := by simp [hsL, hn]
    rw [e]
    clear h e hr
    generalize L.length = N at *
    go_enter Tryz.func27, Tryz.ntmps27
    go_wp2
    go_ret
    exact ⟨rfl, rfl⟩
theorem ilen_q (a : Option Addr) (n c : Nat) (w : World) : Calls Tryz.prog 49 #[.slice a n c] w fun e w' => e = .returned (.int .i64 n) ∧ w' = w := (ilen_any a n c w).mono fun _ _ ⟨a, b⟩ => ⟨a, b.symm⟩
theorem live_at {p g : Nat} {v : Value} {l : List Int} {L : List Bool} {w : World} (h : Po w p g v l L) : Calls Tryz.prog 18 #[.pointer (some ⟨p, 0, none⟩)] w fun e w' => e = .returned (.int .i64 (liv L)) ∧ Nw w w' := by
  have HM := Lib.hid (pmade_yes p w h.self)
  have hr := h.row
  have hsz := h.sz
  have hl := h.llen
  have hd := h.hv.hd
  have hw : IntKind.i64.wrap ((L.length : Int) - (l.length : Int)) = (liv L : Int) := by rw [IntKind.wrap_i64] <;> omega
  have hlt : l.length ≤ 128 := by omega
  have hvf := h.hv.form
  clear h
  generalize L.length = N at *
  generalize hM : l.length = M at *
  generalize liv L = K at *
  have HL := Lib.hid hl
  clear hl
  rcases hvf with ⟨rfl, rfl⟩ | ⟨g2, cap, rfl, _⟩
  · obtain rfl : 0 = M := hM
    obtain rfl : K = N := by have := HL.out; omega
    clear hw
    go_enter Tryz.func18, Tryz.ntmps18
    go_wp2_with (go_at_call 48; refine HM.out.mono ?_; rintro e w' ⟨rfl, rfl⟩)
    go_quiet ((go_at_call 49; exact Calls.quiet_of_same (ilen_q _ _ _ _)))
    go_wp2
    go_ret
    exact ⟨rfl, (Nw.refl w).drewN _⟩
  · go_enter Tryz.func18, Tryz.ntmps18
    go_wp2_with (go_at_call 48; refine HM.out.mono ?_; rintro e w' ⟨rfl, rfl⟩)
    go_quiet ((go_at_call 49; exact Calls.quiet_of_same (ilen_q _ _ _ _)))
    go_wp2
    go_ret
    exact ⟨rfl, (Nw.refl w).drewN _⟩
end Go.Proofs.YtodnlelnpidliaaGreat
end

/- A pool: Take, Give. -/
section
namespace Go.Proofs.YtodnlelnpidliaaGreat
open Go.RowKit
set_option linter.unusedVariables false

/-- Take's and Give's answers. -/
def tkR (L : List Bool) : Int × Int := if fre L < L.length then (fre L, 0) else (0, 8)
def gvR (L : List Bool) (n : Int) : Int := if hsL L n = true then 0 else 5
theorem tkL_full {L : List Bool} (h : ¬ fre L < L.length) : tkL L = L := if_neg h
theorem gvL_bad {L : List Bool} {n : Int} (h : hsL L n = false) : gvL L n = L := by
  unfold gvL
  rw [if_neg]
  rintro ⟨a, b⟩
  simp only [hsL, a, b, decide_true, Bool.and_self] at h
  cases h
theorem hsL_at {L : List Bool} {n : Int} (h : hsL L n = true) : ∃ i : Nat, n = i ∧ ∃ hi : i < L.length, L[i] = true := by
  unfold hsL at h
  simp only [Bool.and_eq_true, decide_eq_true_eq] at h
  obtain ⟨a, b⟩ := h
  obtain ⟨i, rfl⟩ := Int.eq_ofNat_of_zero_le a
  exact ⟨i, rfl, getD_lt (by simpa using b)⟩
theorem hsL_nat {L : List Bool} {i : Nat} (h : i < L.length) : hsL L i = L[i] := by simp [hsL, h]

theorem take_full {p g : Nat} {v : Value} {l : List Int} {L : List Bool} {w : World} (h : Po w p g v l L) (q : ¬ fre L < L.length) : Calls Tryz.prog 66 #[.pointer (some ⟨p, 0, none⟩)] w fun e w' => e = .returned (.tuple #[.int .i64 0, .int .i64 8]) ∧ w = w' := by
  have HM := Lib.hid (pmade_yes p w h.self)
  have hl : l.length = 0 := by
    rw [h.hs.len, frI_none (by have := fre_le L; omega)]; rfl
  have hd := h.hv.hd
  have hvf := h.hv.form
  clear h q
  rcases hvf with ⟨rfl, _⟩ | ⟨g2, cap, rfl, _⟩
  · go_enter Tryz.func66, Tryz.ntmps66
    go_wp2_with (first | (go_at_call 48; refine HM.out.mono ?_; rintro e w' ⟨rfl, rfl⟩) | (go_at_call 49; refine (ilen_any _ _ _ _).mono ?_; rintro e w' ⟨rfl, rfl⟩))
    exact bodyPost_ret (v := .tuple #[.int .i64 0, .int .i64 8]) (by simp [results, Tryz.results66, go_sem]) rfl ⟨rfl, rfl⟩
  · rw [hl] at hd
    go_enter Tryz.func66, Tryz.ntmps66
    go_wp2_with (first | (go_at_call 48; refine HM.out.mono ?_; rintro e w' ⟨rfl, rfl⟩) | (go_at_call 49; refine (ilen_any _ _ _ _).mono ?_; rintro e w' ⟨rfl, rfl⟩))
    exact bodyPost_ret (v := .tuple #[.int .i64 0, .int .i64 8]) (by simp [results, Tryz.results66, go_sem]) rfl ⟨rfl, rfl⟩
theorem passert_int (y : Value) (w : World) : Sem.run Tryz.prog (Instr.typeAssert (.iface 3 y) 20 3 false) w = .ok y w := iassert_t y w
/-- What Pop leaves, and the store behind it. -/
theorem Po.popped {p g g2 cap : Nat} {l : List Int} {L : List Bool} {w w1 : World} (h : Po w p g (.slice (some ⟨g2, 0, none⟩) l.length cap) l L) (q : fre L < L.length) (hp : IPopH w p 2 g2 cap (frI (tkL L)) w1) :
    PolTo w p (PoF p g (.slice (some ⟨g2, 0, none⟩) l.length cap)) (tkL L) (w1.setCell ⟨g, fre L, none⟩ (.bool true)) ∧ w1.cell? ⟨p, 1, none⟩ = some (.slice (some ⟨g, 0, none⟩) L.length L.length) ∧ w1.cell? ⟨g, fre L, none⟩ = some (.bool false) ∧ w1.frozen? ⟨g, fre L, none⟩ = false ∧ g < w1.heap.size := by
  obtain ⟨l', hp, hs, ht, hsd⟩ := hp
  have hg2 : g ≠ g2 := fun e => h.gv (by simp [Value.ownBlock, e])
  have hgS : ¬ (g = p ∨ g = g2) := fun e => e.elim h.gp hg2
  have hsz := ht.size
  have hgl := h.gl
  have hfr := fre_free L q
  have c1 := (hsd 1 (by omega)).1.trans h.row
  have cg := fun i hi => And.intro ((ht.cell (o := i) hgl hgS).trans (h.cells i hi).1) ((ht.froz (o := i) hgl hgS).trans (h.cells i hi).2)
  have t2 := setCell_at w1 ⟨g, fre L, none⟩ (.bool true)
  refine ⟨⟨PoF p g (.slice (some ⟨g2, 0, none⟩) l'.length cap), ⟨g, _, l', ?_, rfl⟩, ?_, ?_⟩, c1, ?_, (cg _ q).2, by omega⟩
  · have hv := hp.v.tch t2 (fun e => h.gp e.symm) (fun b e => by simp [Value.ownBlock] at e; subst e; exact fun e => hg2 e.symm)
    refine ⟨?_, ?_, fun i hi => ?_, by simp; omega, hv, hs, h.gp, by simpa [Value.ownBlock] using (fun e => hg2 e.symm), by rw [tkL_len]; exact h.sz⟩
    · rw [t2.cell hp.lt (fun e => h.gp e.symm)]
      exact (hsd 0 (by omega)).1.trans h.self
    · rw [t2.cell hp.lt (fun e => h.gp e.symm), tkL_len]
      exact c1
    · rw [tkL_len] at hi
      refine ⟨?_, by rw [World.frozen?_setCell]; exact (cg i hi).2⟩
      unfold tkL
      rw [if_pos q]
      by_cases e : fre L = i
      · subst e
        rw [getD_at (by simpa using hi), List.getElem_set_self]
        exact World.cell?_setCell_same _ _ _ (cg _ hi).1
      · rw [getD_at (by simpa using hi), List.getElem_set_ne e, ← getD_at hi]
        exact (World.cell?_setCell_other _ _ _ _ (fun q => e (congrArg Addr.off q))).trans (cg i hi).1
  · intro k e
    rcases e with e | e | e
    · exact .inl (.inl e)
    · exact .inl (.inr (.inl e))
    · exact .inl (.inr (.inr e))
  · refine (ht.mono (fun k _ e => ?_)).trans (t2.mono (fun k _ e => .inr (.inl e)))
    rcases e with e | e
    · exact .inl e
    · exact .inr (.inr (by rw [e]; rfl))
  · rw [(cg _ q).1, getD_at q, hfr]
theorem take_some {p g : Nat} {v : Value} {l : List Int} {L : List Bool} {w : World} (h : Po w p g v l L) (q : fre L < L.length) : Calls Tryz.prog 66 #[.pointer (some ⟨p, 0, none⟩)] w fun e w' => e = .returned (.tuple #[.int .i64 (fre L), .int .i64 0]) ∧ PolTo w p (PoF p g v) (tkL L) w' := by
  have HM := Lib.hid (pmade_yes p w h.self)
  have hll := h.llen
  have hsz := h.sz
  have hq : liv L < L.length := by
    rcases Nat.lt_or_ge (liv L) L.length with a | a
    · exact a
    · have := liv_le L
      have := (liv_full (L := L)).1 (by omega)
      omega
  rcases h.hv.form with ⟨rfl, rfl⟩ | ⟨g2, cap, rfl, hp⟩
  · simp at hll; omega
  · have hs := h.hs
    rw [frI_take q] at hs
    have HP := Lib.hid (ihpop_any p 2 g2 cap l (frI (tkL L)) (fre L) w hp hs (by omega))
    have HQ := Lib.hid (fun w1 k => h.popped q (w1 := w1) k)
    have hd := h.hv.hd
    have ta := passert_int
    have hm : decide ((l.length : Int) = 0) = false := by simp; intro e; subst e; simp at hll; omega
    have hm2 : ((l.length : Int) == 0) = false := by simp; intro e; subst e; simp at hll; omega
    have hne : l.length ≠ 0 := by omega
    have hlt := h.lt
    have qi : (fre L : Int) < (L.length : Int) := by omega
    clear h hp hs
    generalize fre L = i at *
    generalize L.length = N at *
    generalize l.length = M at *
    go_enter Tryz.func66, Tryz.ntmps66
    go_wp2_with (first | (go_at_call 48; refine HM.out.mono ?_; rintro e w' ⟨rfl, rfl⟩) | (go_at_call 49; refine (ilen_any _ _ _ _).mono ?_; rintro e w' ⟨rfl, rfl⟩))
    refine HP.out.mono ?_
    rintro e w1 ⟨rfl, hw1⟩
    obtain ⟨a1, a2, a3, a4, a5⟩ := HQ.out w1 hw1
    have HA := Lib.hid a1
    clear a1 hw1
    go_wp2
    exact bodyPost_ret (v := .tuple #[.int .i64 i, .int .i64 0]) (by simp [results, Tryz.results66, go_sem]) rfl ⟨rfl, HA.out⟩
theorem take_any {p : Nat} {L : List Bool} {F : Nat → Prop} {w : World} (h : Pol w p L F) : Calls Tryz.prog 66 #[.pointer (some ⟨p, 0, none⟩)] w fun e w' => e = .returned (.tuple #[.int .i64 (tkR L).1, .int .i64 (tkR L).2]) ∧ PolTo w p F (tkL L) w' := by
  by_cases q : fre L < L.length
  · rw [show tkR L = (↑(fre L), 0) from if_pos q]
    obtain ⟨g, v, l, h, rfl⟩ := h
    exact take_some h q
  · rw [show tkR L = (0, 8) from if_neg q, tkL_full q]
    have h2 := h
    obtain ⟨g, v, l, h, rfl⟩ := h
    refine (take_full h q).mono ?_
    rintro e w' ⟨rfl, rfl⟩
    exact ⟨rfl, h2.to (Nw.refl _)⟩

/-! ### Give -/
/-- The store of Give, and what Push leaves. -/
theorem Po.stored {p g : Nat} {v : Value} {l : List Int} {L : List Bool} {w : World} (h : Po w p g v l L) (i : Nat) : IHv (w.setCell ⟨g, i, none⟩ (.bool false)) p 2 v l :=
  h.hv.tch (setCell_at w ⟨g, i, none⟩ (.bool false)) (fun e => h.gp e.symm) (fun b e => by intro q; exact h.gv (by rw [e, q]))
theorem Po.pushed {p g : Nat} {v : Value} {l : List Int} {L : List Bool} {w w2 : World} (h : Po w p g v l L) {i : Nat} (hi : i < L.length) (e : L[i] = true) (hp : IPushH (w.setCell ⟨g, i, none⟩ (.bool false)) p 2 v (frI (L.set i false)) w2) :
    PolTo w p (PoF p g v) (L.set i false) w2 := by
  obtain ⟨g', cap', l', hp, hs, hor, ht, hsd⟩ := hp
  have t1 := setCell_at w ⟨g, i, none⟩ (.bool false)
  have hgS : ¬ IOf p v g := fun e => e.elim h.gp (fun q => h.gv q)
  have hgl := h.gl
  have hs1 : (w.setCell ⟨g, i, none⟩ (.bool false)).heap.size = w.heap.size := by simp
  have hgg : g ≠ g' := by
    rintro rfl
    rcases hor with q | q
    · exact h.gv q.symm
    · omega
  have cp : ∀ o, o ≠ 2 → w2.cell? ⟨p, o, none⟩ = w.cell? ⟨p, o, none⟩ := fun o ho => (hsd o ho).1.trans (t1.cell h.lt (fun q => h.gp q.symm))
  refine ⟨PoF p g (.slice (some ⟨g', 0, none⟩) l'.length cap'), ⟨g, _, l', ?_, rfl⟩, ?_, ?_⟩
  · refine ⟨(cp 0 (by omega)).trans h.self, by rw [List.length_set]; exact (cp 1 (by omega)).trans h.row, fun j hj => ?_, by have := ht.size; omega, hp.v, hs, h.gp, by simpa [Value.ownBlock] using (fun q => hgg q.symm), by rw [List.length_set]; exact h.sz⟩
    rw [List.length_set] at hj
    refine ⟨(ht.cell (by omega) hgS).trans ?_, ((ht.froz (by omega) hgS).trans (World.frozen?_setCell _ _ _ _)).trans (h.cells j hj).2⟩
    by_cases q : i = j
    · subst q
      rw [getD_at (by simpa using hj), List.getElem_set_self]
      exact World.cell?_setCell_same _ _ _ (h.cells _ hj).1
    · rw [getD_at (by simpa using hj), List.getElem_set_ne q, ← getD_at hj]
      exact (World.cell?_setCell_other _ _ _ _ (fun r => q (congrArg Addr.off r))).trans (h.cells j hj).1
  · rintro k (e | e | e)
    · exact .inl (.inl e)
    · exact .inl (.inr (.inl e))
    · simp [Value.ownBlock] at e
      subst e
      rcases hor with q | q
      · exact .inl (.inr (.inr q.symm))
      · exact .inr (by omega)
  · refine (t1.mono (fun k _ e => .inr (.inl e))).trans (ht.mono (fun k _ e => ?_))
    rcases e with e | e
    · exact .inl e
    · exact .inr (.inr e)
theorem give_bad {p g : Nat} {v : Value} {l : List Int} {L : List Bool} {w : World} (h : Po w p g v l L) (n : Int) (q : hsL L n = false) : Calls Tryz.prog 67 #[.pointer (some ⟨p, 0, none⟩), .int .i64 n] w fun e w' => e = .returned (.int .i64 5) ∧ w = w' := by
  have HM := Lib.hid (pmade_yes p w h.self)
  have hh := has_at h n
  rw [q] at hh
  have HH := Lib.hid hh
  clear h hh q
  go_enter Tryz.func67, Tryz.ntmps67
  go_wp2_with (first | (go_at_call 48; refine HM.out.mono ?_; rintro e w' ⟨rfl, rfl⟩) | (go_at_call 27; refine HH.out.mono ?_; rintro e w' ⟨rfl, rfl⟩))
  go_ret
  exact ⟨rfl, rfl⟩
theorem give_ok {p g : Nat} {v : Value} {l : List Int} {L : List Bool} {w : World} (h : Po w p g v l L) (i : Nat) (hi : i < L.length) (e : L[i] = true) : Calls Tryz.prog 67 #[.pointer (some ⟨p, 0, none⟩), .int .i64 i] w fun e w' => e = .returned (.int .i64 0) ∧ PolTo w p (PoF p g v) (L.set i false) w' := by
  have HM := Lib.hid (pmade_yes p w h.self)
  have hh := has_at h i
  rw [hsL_nat hi, e] at hh
  have HH := Lib.hid hh
  have hp := ihpush_any p 2 v l (frI L) i _ (h.stored i) h.hs (by have := h.llen; have := h.sz; omega)
  rw [frI_give hi e] at hp
  have HP := Lib.hid hp
  have HQ := Lib.hid (fun w2 k => h.pushed hi e (w2 := w2) k)
  have hr := h.row
  have hf := (h.cells i hi).2
  have hc := (h.cells i hi).1
  have hgl := h.gl
  have hpl := h.lt
  have hsz := h.sz
  clear h hh hp e
  generalize L.getD i false = b at *
  generalize L.length = N at *
  go_enter Tryz.func67, Tryz.ntmps67
  go_wp2_with (first | (go_at_call 48; refine HM.out.mono ?_; rintro e w' ⟨rfl, rfl⟩) | (go_at_call 27; refine HH.out.mono ?_; rintro e w' ⟨rfl, rfl⟩))
  refine HP.out.mono ?_
  rintro e w1 ⟨rfl, hw1⟩
  have HA := Lib.hid (HQ.out w1 hw1)
  clear hw1
  go_wp2
  go_ret
  exact ⟨rfl, HA.out⟩
theorem give_any {p : Nat} {L : List Bool} {F : Nat → Prop} {w : World} (h : Pol w p L F) (n : Int) : Calls Tryz.prog 67 #[.pointer (some ⟨p, 0, none⟩), .int .i64 n] w fun e w' => e = .returned (.int .i64 (gvR L n)) ∧ PolTo w p F (gvL L n) w' := by
  have h2 := h
  obtain ⟨g, v, l, h, rfl⟩ := h
  rcases q : hsL L n with _ | _
  · rw [gvL_bad q, show gvR L n = 5 by simp [gvR, q]]
    refine (give_bad h n q).mono ?_
    rintro e w' ⟨rfl, rfl⟩
    exact ⟨rfl, h2.to (Nw.refl _)⟩
  · rw [show gvR L n = 0 by simp [gvR, q]]
    obtain ⟨i, rfl, hi, e⟩ := hsL_at q
    rw [gvL_nat L i (by rw [getD_at hi]; exact e)]
    exact give_ok h i hi e
end Go.Proofs.YtodnlelnpidliaaGreat
end
