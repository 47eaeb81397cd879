
/- Read. -/
import Derived.Test.YtmegaipedagcjaaScO
import Derived.Test.YtmegaipedagcjaaScR
namespace Go.Proofs.Ytmegaipedagcjaa
open Go.RowKit Go.Shelf
attribute [local go_sem] Oper.semAt_some

/-- Read's result: the script that the bytes represent. -/
def ReadPost (w : World) (l : List UInt8) (e : Ending) (W : World) : Prop := ∃ vt vp, e = .returned (scV vt vp (rd l).cp) ∧ ScAt W vt vp (rd l) ∧ Nw w W
theorem e_each1 : ∀ args w, (callFunc 37 args).run Try.prog w = .ok (.enter 37 args) w := enters_of Try.func37 (by kernel_rfl) rfl
/-- Between two entries. -/
def RdI (w : World) (B : Nat) (pre : List (List UInt8)) (A : World) : Prop := Own A w.heap.size B (pre.foldl step ps0) ∧ Below w.heap.size w A ∧ B ≠ w.heap.size ∧
  A.heap[w.heap.size]? = some (.cells #[nilV, nilV, .int .i64 0, .int .i64 0, .int .i64 0, .int .i64 0] 28 (0, 0))
theorem RdI.put {w A : World} {B : Nat} {pre : List (List UInt8)} {l : Nat} {o : Obj} (o' : Obj) (h : RdI w B pre A) (hn : w.heap.size < l) (hl : A.heap[l]? = some o) (ho : o.isCells = false) : RdI w B pre (A.putObj l o') := by
  obtain ⟨h1, h2, h3, h4⟩ := h
  refine ⟨h1.put o' hl ho, ?_, h3, (World.putObj_heap_other (by omega)).trans h4⟩
  exact ⟨h2.os, h2.tape, h2.output, by simp; exact h2.size, fun k hk => (World.putObj_heap_other (by omega)).trans (h2.block k hk)⟩
theorem RdI.nw {w A A' : World} {B : Nat} {pre : List (List UInt8)} (h : RdI w B pre A) (g : Nw A A') : RdI w B pre A' := by
  obtain ⟨h1, h2, h3, h4⟩ := h
  exact ⟨h1.nw g, Below.trans h2 (Below.mono g h2.size), h3, (g.block _ (heap_lt h4)).trans h4⟩
theorem RdI.step {w A A' : World} {B : Nat} {pre : List (List UInt8)} {x : List UInt8} (h : RdI w B pre A) (k : Stp A w.heap.size B (step (pre.foldl Go.Proofs.Ytmegaipedagcjaa.step ps0) x) A') : RdI w B (pre ++ [x]) A' := by
  obtain ⟨h1, h2, h3, h4⟩ := h
  refine ⟨by rw [List.foldl_append]; exact k.1, Below.trans h2 k.2.1, h3, k.2.2 _ _ h4 (fun e => h3 e.symm) (fun c fz e => by simp at e) (fun c fz e => by simp at e) (fun c fz e => by simp at e)⟩
theorem eight (x : List UInt8) (h : x.length = 8) : ∃ e0 e1 e2 e3 e4 e5 e6 e7, x = [e0, e1, e2, e3, e4, e5, e6, e7] := by
  match x, h with
  | [e0, e1, e2, e3, e4, e5, e6, e7], _ => exact ⟨e0, e1, e2, e3, e4, e5, e6, e7, rfl⟩
/-- Six cells of one block are written. -/
def fin6 (W : World) (r : Nat) (v0 v1 v2 v3 v4 v5 : Value) : World := (((((W.setCell ⟨r, 0, none⟩ v0).setCell ⟨r, 1, none⟩ v1).setCell ⟨r, 2, none⟩ v2).setCell ⟨r, 3, none⟩ v3).setCell ⟨r, 4, none⟩ v4).setCell ⟨r, 5, none⟩ v5
theorem grown_set {w a : World} {r : Nat} (hg : w.grownBy a (some r)) (j : Nat) (v : Value) : w.grownBy (a.setCell ⟨r, j, none⟩ v) (some r) :=
  ⟨hg.os, hg.tape, hg.output, by simpa [World.setCell] using hg.size, fun k hk hne => (Below.heap_setCell _ _ _ _ (fun q => hne (by rw [q]))).trans (hg.block k hk hne)⟩
theorem fin6_grown (W : World) (r : Nat) (v0 v1 v2 v3 v4 v5 : Value) : W.grownBy (fin6 W r v0 v1 v2 v3 v4 v5) (some r) :=
  grown_set (grown_set (grown_set (grown_set (grown_set (set_grown W ⟨r, 0, none⟩ v0) 1 v1) 2 v2) 3 v3) 4 v4) 5 v5
theorem fin6_heap {W : World} {r : Nat} {z0 z1 z2 z3 z4 z5 : Value} {T : TypeId} (v0 v1 v2 v3 v4 v5 : Value) (h : W.heap[r]? = some (.cells #[z0, z1, z2, z3, z4, z5] T (0, 0))) : (fin6 W r v0 v1 v2 v3 v4 v5).heap[r]? = some (.cells #[v0, v1, v2, v3, v4, v5] T (0, 0)) := by
  unfold fin6
  have h0 := set_heap (j := 0) v0 h
  have h1 := set_heap (j := 1) v1 h0
  have h2 := set_heap (j := 2) v2 h1
  have h3 := set_heap (j := 3) v3 h2
  have h4 := set_heap (j := 4) v4 h3
  have h5 := set_heap (j := 5) v5 h4
  simpa using h5
theorem read_end {w W : World} {B D : Nat} {vt vp : Value} {us : List Value} {s : PS} {z0 z1 z2 z3 z4 z5 : Value} (v0 v1 v2 v3 v4 v5 : Value) (hO : OwnS W w.heap.size B vt vp us s) (hB : Below w.heap.size w W) (hne : B ≠ w.heap.size)
    (hr : W.heap[w.heap.size]? = some (.cells #[z0, z1, z2, z3, z4, z5] 28 (0, 0))) (hD : w.heap.size < D) (hK : W.heap[D]? = some (.deferred (some []))) :
    ScAt ((fin6 W w.heap.size v0 v1 v2 v3 v4 v5).putObj D (.deferred none)) vt vp s ∧ Nw w ((fin6 W w.heap.size v0 v1 v2 v3 v4 v5).putObj D (.deferred none)) ∧ (fin6 W w.heap.size v0 v1 v2 v3 v4 v5).heap[D]? = some (.deferred (some [])) ∧
      (∀ j, ((fin6 W w.heap.size v0 v1 v2 v3 v4 v5).putObj D (.deferred none)).cell? ⟨w.heap.size, j, none⟩ = #[v0, v1, v2, v3, v4, v5][j]?) := by
  have hg := fin6_grown W w.heap.size v0 v1 v2 v3 v4 v5
  have hO2 := hO.other hg (fun e => hne e.symm) (fun c => by rw [hr]; exact ⟨by simp, by simp, by simp⟩)
  have hK2 := (hg.block D (heap_lt hK) (fun e => by have := Option.some.inj e; omega)).trans hK
  have hO3 := hO2.put (.deferred none) hK2 rfl
  have hb := Below.grown hB hg (Nat.le_of_lt (heap_lt hr)) (fun k hk => Nat.le_of_eq (Option.some.inj hk))
  refine ⟨hO3.at', Below.grown hb (put_grown _ D _) hb.size (fun k hk => by have := Option.some.inj hk; omega), hK2, fun j => ?_⟩
  exact heap_cell ((World.putObj_heap_other (by omega)).trans (fin6_heap v0 v1 v2 v3 v4 v5 hr))
set_option maxRecDepth 100000 in
set_option maxHeartbeats 1000000 in
theorem read_in (n : Nat) (hn : 8 ≤ n) (l : List UInt8) (w : World) (hsm : l.length ≤ 1000000) :
    CallsIn Fence.wide n Try.prog 16 #[stV l] w (ReadPost w l) := by
  have h1 : 1 ≤ n := by omega
  refine callsIn_of_wp_marks Try.func16 rfl trivial ?_ rfl
  simp only [Try.ntmps16, List.size_toArray, List.length_cons, List.length_nil, Nat.reduceAdd, Nat.reduceSub, Array.replicate_succ, Array.replicate_zero, List.push_toArray, List.append_toArray, List.nil_append, List.cons_append]
  gi_wp2_with fail
  refine ⟨trivial, (callsIn_wide.2 (caps_any _)).mono ?_⟩
  rintro e w1 ⟨rfl, g1⟩
  have hw1 : Nw w w1 := ((Nw.refl w).alloc _).trans g1
  have hr1 : w1.heap[w.heap.size]? = some (.cells #[nilV, nilV, .int .i64 0, .int .i64 0, .int .i64 0, .int .i64 0] 28 (0, 0)) := (g1.block _ (by simp)).trans (heap_alloc_last w _)
  have hsz1 : w.heap.size < w1.heap.size := heap_lt hr1
  have hS := own_start w w1 (4, 32, 64, 2) hw1.sz
  have hC := createThreads_any w.heap.size w1.heap.size 1 ⟨[], [], (4, 32, 64, 2)⟩ _ (by omega) (by simp) hS
  have HC := Lib.hid hC
  clear hS hC
  gi_wp2_with fail
  refine ⟨trivial, (callsIn_wide.2 HC.out).mono ?_⟩
  rintro e w3 ⟨rfl, hO3, hB3, hK3⟩
  have hI3 : RdI w w1.heap.size [] w3 := ⟨hO3, Below.trans (Below.mono (hw1.alloc _) (Nat.le_refl _)) hB3, by omega, hK3 _ _ ((Below.heap_alloc _ _ _ hsz1).trans hr1) (fun e => by have := Option.some.inj e; omega) (fun c fz e => by simp at e)⟩
  have HI3 := Lib.hid hI3
  have hsz3 : w1.heap.size < w3.heap.size := by obtain ⟨_, _, _, h⟩ := hO3; exact h.lt
  clear hO3 hB3 hK3 hI3 HC
  gi_wp2_with fail
  refine ⟨trivial, (callsIn_wide.2 (each_any l w3)).mono ?_⟩
  rintro e w4' ⟨rfl, rfl⟩
  gi_wp2
  obtain ⟨w4, hw4⟩ : ∃ w4, w3.alloc (.cells #[stV l] 9) = w4 := ⟨_, rfl⟩
  rw [hw4]
  have hsz4 : w4.heap.size = w3.heap.size + 1 := by rw [← hw4]; simp
  have HI4 : Hid (RdI w w1.heap.size [] w4) := Lib.hid (by rw [← hw4]; exact HI3.out.nw ((Nw.refl w3).alloc _))
  have hsq := each1_in (n - 1) (by omega) w3.heap.size l w4 (by rw [← hw4]; simp [go_sem]) hsm
  clear hw4 HI3
  refine rs_law rfl h1 (gf := 37) (lb := #[.pointer (some ⟨w3.heap.size, 0, none⟩)]) rfl trivial e_each1 hsq rfl (RdI w w1.heap.size) (fun _ _ _ => False)
    (fun pre A lp o o' h hl h1 h2 => h.put o' (by omega) h1 h2) (fun _ _ _ _ _ _ h _ _ _ => h) (fun W g => HI4.out.nw g)
    (fun x => { tmps := #[stV l, undef, .pointer (some ⟨w.heap.size, 0, none⟩), .pointer (some ⟨w1.heap.size, 0, none⟩), stV x, .agg #[.int .i64 4, .int .i64 32, .int .i64 64, .int .i64 2], .agg #[.slice none 0 0, .slice none 0 0, .int .i64 4, .int .i64 32, .int .i64 64, .int .i64 2], .tuple #[], stV l, .func (.func 37) #[] #[.pointer (some ⟨w3.heap.size, 0, none⟩)], stV x, undef, undef, undef], defers := [] }) ?assign ?body ?done ?stop
  case assign =>
    intro lp x A K hK
    gi_wp2
    exact hK
  case body =>
    intro lp pre x A hi hcells hpre
    have hx : x ∈ chunks l := hpre.subset (by simp)
    obtain ⟨e0, e1, e2, e3, e4, e5, e6, e7, rfl⟩ := eight x (chunks_len l x hx)
    have HA := Lib.hid (add_any w.heap.size w1.heap.size _ e0 e1 e2 e3 e4 e5 e6 e7 A (fold_ok pre ps0 okS_zero) hi.1)
    have HI := Lib.hid hi
    have HN := Lib.hid hcells
    clear hi hcells hpre hx hsq
    gi_wp2_with fail
    refine ⟨trivial, fun h => by simp [Fence.wide] at h, ((callsIn_wide.2 HA.out).inRound lp).mono ?_⟩
    rintro e A' ⟨rfl, k⟩
    have HF : Hid (KpD w4.heap.size A A' ∧ RdI w w1.heap.size (pre ++ [[e0, e1, e2, e3, e4, e5, e6, e7]]) A') := by
      refine Lib.hid ⟨fun i hi => ?_, HI.out.step k⟩
      obtain ⟨o, h1, h2⟩ := HN.out i hi
      have key : ∀ c t fr, o ≠ .cells c t fr := fun c t fr e => by subst e; cases h2
      rw [h1]
      refine k.2.2 i o h1 (fun e => ?_) (fun _ _ => key _ _ _) (fun _ _ => key _ _ _) (fun _ _ => key _ _ _)
      obtain ⟨_, _, _, hO⟩ := HI.out.1
      have := hO.box
      rw [← e, h1] at this
      exact key _ _ _ (Option.some.inj this)
    clear k HI HN HA
    gi_wp2
    exact HF.out
  case done =>
    intro D W hD hi hK
    obtain ⟨⟨vt, vp, us, hO⟩, hB, hne, hr⟩ := hi
    have hc0 := hO.c0
    have hc1 := hO.c1
    have hc2 : W.cell? ⟨w1.heap.size, 2, none⟩ = some (.int .i64 (rd l).cp.1) := heap_cell hO.box
    have hc3 : W.cell? ⟨w1.heap.size, 3, none⟩ = some (.int .i64 (rd l).cp.2.1) := heap_cell hO.box
    have hc4 : W.cell? ⟨w1.heap.size, 4, none⟩ = some (.int .i64 (rd l).cp.2.2.1) := heap_cell hO.box
    have hc5 : W.cell? ⟨w1.heap.size, 5, none⟩ = some (.int .i64 (rd l).cp.2.2.2) := heap_cell hO.box
    have hlt := hO.lt
    have hltr := heap_lt hr
    have r0 : W.cell? ⟨w.heap.size, 0, none⟩ = some nilV := heap_cell hr
    have r1 : W.cell? ⟨w.heap.size, 1, none⟩ = some nilV := heap_cell hr
    have r2 : W.cell? ⟨w.heap.size, 2, none⟩ = some (.int .i64 0) := heap_cell hr
    have r3 : W.cell? ⟨w.heap.size, 3, none⟩ = some (.int .i64 0) := heap_cell hr
    have r4 : W.cell? ⟨w.heap.size, 4, none⟩ = some (.int .i64 0) := heap_cell hr
    have r5 : W.cell? ⟨w.heap.size, 5, none⟩ = some (.int .i64 0) := heap_cell hr
    have fr : ∀ j, W.frozen? ⟨w.heap.size, j, none⟩ = false := fun j => heap_fz hr
    obtain ⟨at', ct, rfl⟩ : ∃ a c, vt = .slice a us.length c := by
      rcases own_form hO.rt with ⟨rfl, q⟩ | ⟨g, cap, rfl⟩
      · exact ⟨none, 0, by rw [q]⟩
      · exact ⟨_, _, rfl⟩
    obtain ⟨ap, cp', rfl⟩ : ∃ a c, vp = .slice a (rd l).pk.length c := by
      rcases own_form hO.rp with ⟨rfl, q⟩ | ⟨g, cap, rfl⟩
      · exact ⟨none, 0, by rw [← q]; rfl⟩
      · exact ⟨_, _, rfl⟩
    have HT := Lib.hid (read_end (.slice at' us.length ct) (.slice ap (rd l).pk.length cp') (.int .i64 (rd l).cp.1) (.int .i64 (rd l).cp.2.1) (.int .i64 (rd l).cp.2.2.1) (.int .i64 (rd l).cp.2.2.2) hO hB hne hr (by omega) hK)
    clear hO hB hr hK hsq HI4
    have HQ : Hid (∀ W', ScAt W' (.slice at' us.length ct) (.slice ap (rd l).pk.length cp') (rd l) → Nw w W' → ReadPost w l (.returned (.agg #[.slice at' us.length ct, .slice ap (rd l).pk.length cp', .int .i64 (rd l).cp.1, .int .i64 (rd l).cp.2.1, .int .i64 (rd l).cp.2.2.1, .int .i64 (rd l).cp.2.2.2])) W') := Lib.hid fun W' a b => ⟨_, _, rfl, a, b⟩
    generalize (rd l).cp.1 = q1 at *
    generalize (rd l).cp.2.1 = q2 at *
    generalize (rd l).cp.2.2.1 = q3 at *
    generalize (rd l).cp.2.2.2 = q4 at *
    gi_wp2
    obtain ⟨t1, t2, t3, t4⟩ := HT.out
    refine ⟨by simp, .inl ⟨_, _, rfl, run_takeDeferred t3, ?_⟩⟩
    have p0 := t4 0
    have p1 := t4 1
    have p2 := t4 2
    have p3 := t4 3
    have p4 := t4 4
    have p5 := t4 5
    clear t4
    unfold fin6 at p0 p1 p2 p3 p4 p5
    simp at p0 p1 p2 p3 p4 p5
    exact ⟨.agg #[.slice at' us.length ct, .slice ap (rd l).pk.length cp', .int .i64 q1, .int .i64 q2, .int .i64 q3, .int .i64 q4], by simp [results, Try.results16, go_sem, p0, p1, p2, p3, p4, p5], HQ.out _ t1 t2⟩
  case stop =>
    intro D cd pre W _ _ h _
    exact h.elim
theorem read_any (l : List UInt8) (w : World) (hsm : l.length ≤ 1000000) : Calls Try.prog 16 #[stV l] w (ReadPost w l) := callsIn_wide.1 (read_in 9 (by omega) l w hsm)
end Go.Proofs.Ytmegaipedagcjaa
