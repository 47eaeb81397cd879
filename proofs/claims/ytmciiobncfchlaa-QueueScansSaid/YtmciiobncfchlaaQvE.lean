
/- The developers' package queue: Clone; a line in memory; lineOf. -/
import Derived.Test.YtmciiobncfchlaaQvD
import Derived.StillTailTactics
namespace Go.Proofs.Ytmciiobncfchlaa
open Go.RowKit Go.Maps Go.ChangeMaps
set_option linter.unusedVariables false      -- a contract need not use every name

theorem wpl_mapUp {P : Program} {w : World} {ops : Array Oper} {rest : List Oper} {o : Oper} {a : Act} {Q : Exit → Act → World → Prop}
    (hg : o.guard = none) (m x u : Operand) (t : TypeId) (hop : o.op = Op.mapUpdate t m x u) (M K V : Value) (w' : World) (hm : a.eval m = M) (hx : a.eval x = K) (hu : a.eval u = V)
    (hr : (Instr.mapUpdate t M K V).run P w = .ok () w') (h : wpList P ops Q rest (a.put o.dst undef) w') : wpList P ops Q (o :: rest) a w := by
  refine wpList_plain hg fun K' hK' => ?_
  unfold Oper.wp
  simp [execOp, hop, hm, hx, hu, hr, Result.andThen]
  exact hK' _ _ h
set_option maxRecDepth 100000 in
set_option maxHeartbeats 1000000 in
theorem dClone (v : Value) (q : List Rq) (w : World) (hl : q.length ≤ 1000) (h : RqAt w v q) :
    Calls Try.prog 48 #[v] w fun e w' => ∃ v', e = .returned v' ∧ Nw w w' ∧ RqOwn w' w.heap.size v' q := by
  obtain ⟨v', w1, hrun, hO, hN⟩ := own_clone elemRq h (by omega)
  obtain ⟨a, c, rfl, h⟩ := h
  have en := fun (w : World) (a : Option Addr) (n c n' c' : Nat) => Lib.run_eql_slice_nil (P := Try.prog) w 25 41 a n c n' c' Try.underlying25
  have HR := Lib.hid hrun
  have HO := Lib.hid (And.intro hN hO)
  clear hrun hO hN
  cases a with
  | none =>
    rcases h with ⟨rfl, h0⟩ | ⟨b, o, e, _⟩
    · obtain rfl := h0 rfl
      go_enter Try.func48, Try.ntmps48
      go_wp2
      go_ret
      exact ⟨_, rfl, Nw.refl _, World.ownsRow_nil _ _ _ _⟩
    · cases e
  | some ad =>
    clear h
    go_enter Try.func48, Try.ntmps48
    go_wp2_with (at_builtin; refine wpl_app (by rfl) (.tmp 5) (.tmp 6) 25 rfl _ _ _ _ rfl rfl HR.out ?_)
    go_ret
    exact ⟨_, rfl, HO.out.1, HO.out.2⟩

/-- A line in memory: its own row of requests, its own map of counts. -/
structure Ln (w : World) (g0 p : Nat) (t r W : Int) (v : Value) (b n : Nat) (q : List Rq) (c : Int → Int) : Prop where
  obj : w.heap[p]? = some (.cells #[.int .i64 t, .int .i64 r, v, .int .i64 W, .map (some b)] 74 (0, 0))
  own : RqOwn w g0 v q
  map : HeldC w b n c
  gp : g0 ≤ p
  gb : g0 ≤ b
/-- How many have a mode. -/
def cntQ (q : List Rq) : Int → Int := fun k => ((q.countP fun R => R.md == k : Nat) : Int)
theorem cntQ_snoc (q : List Rq) (R : Rq) : cntQ (q ++ [R]) = setC (cntQ q) R.md (cntQ q R.md + 1) := by
  funext k
  unfold cntQ setC
  rw [List.countP_append]
  by_cases e : k = R.md
  · rw [if_pos e, e]; simp
  · rw [if_neg e]
    have : (R.md == k) = false := by simpa using fun q => e q.symm
    simp [this]
theorem cntQ_bd (q : List Rq) (k : Int) : 0 ≤ cntQ q k ∧ cntQ q k ≤ q.length := by
  unfold cntQ
  have := List.countP_le_length (p := fun R : Rq => R.md == k) (l := q)
  omega
section
variable {w w' : World} {g0 p : Nat} {t r W : Int} {v : Value} {b n : Nat} {q : List Rq} {c : Int → Int}
theorem Ln.nw (h : Ln w g0 p t r W v b n q c) (g : Nw w w') : Ln w' g0 p t r W v b n q c := ⟨g.at' h.obj, onw h.own g, h.map.nw g, h.gp, h.gb⟩
theorem Ln.bp (h : Ln w g0 p t r W v b n q c) : b ≠ p := fun e => by
  obtain ⟨es, k, ho⟩ := h.map.obj
  rw [e, h.obj] at ho; cases ho
theorem Ln.vb (h : Ln w g0 p t r W v b n q c) : v.ownBlock ≠ some b := fun e => by
  obtain ⟨es, k, ho⟩ := h.map.obj
  obtain ⟨cs, hc⟩ := oheap h.own e
  rw [ho] at hc; cases hc
theorem types_ne : 41 ≠ 74 := by decide
theorem Ln.vp (h : Ln w g0 p t r W v b n q c) : v.ownBlock ≠ some p := fun e => by
  obtain ⟨cs, hc⟩ := oheap h.own e
  have := h.obj
  rw [hc] at this
  injection this with this
  injection this with _ this
  exact absurd this types_ne
/-- A store into the map. -/
theorem Ln.put (h : Ln w g0 p t r W v b n q c) {n' : Nat} {c' : Int → Int} (hm : HeldC w' b n' c') (hg : w.grownBy w' (some b)) : Ln w' g0 p t r W v b n' q c' :=
  ⟨(hg.block p (hlt h.obj) (by simp; exact h.bp.symm)).trans h.obj, okeep h.own hg (fun g hv e => h.vb (by rw [hv, ← e])), hm, h.gp, h.gb⟩
end
theorem heap_lt' {w : World} {B : Nat} {o : Obj} (hb : w.heap[B]? = some o) : B < w.heap.size := hlt hb
/-- A request of a row that the call owns. -/
theorem RqOwn.at {w : World} {g0 : Nat} {v : Value} {q : List Rq} (h : RqOwn w g0 v q) {k : Nat} (hk : k < q.length) : ∃ g cap, v = .slice (some ⟨g, 0, none⟩) q.length cap ∧ g0 ≤ g ∧ g < w.heap.size ∧ ∀ j u, (rqrow q[k])[j]? = some u → w.cell? ⟨g, k * 5 + j, none⟩ = some u := by
  rcases oform h with ⟨_, e⟩ | ⟨g, cap, rfl⟩
  · omega
  · refine ⟨g, cap, rfl, oge h rfl, olt h rfl, fun j u hu => ?_⟩
    obtain ⟨a, c, e, hh | ⟨b, o, rfl, hc⟩⟩ := RqOwn.rd h
    · obtain ⟨rfl, _⟩ := hh; simp at hk
    · simp only [Value.slice.injEq, Option.some.injEq, Addr.mk.injEq] at e
      obtain ⟨⟨rfl, rfl, _⟩, _, _⟩ := e
      have := hc.cell k hk j u hu
      rwa [Nat.zero_add] at this
set_option maxRecDepth 100000 in
set_option maxHeartbeats 1000000 in
theorem dLineOf (t r W : Int) (v : Value) (q : List Rq) (w : World) (hl : q.length ≤ 1000) (hkn : ∀ R ∈ q, knI R.md = true) (h : RqAt w v q) :
    Calls Try.prog 39 #[hdV t r v W] w fun e w' => ∃ p v' b n, e = .returned (.pointer (some ⟨p, 0, none⟩)) ∧ Nw w w' ∧ Ln w' w.heap.size p t r W v' b n q (cntQ q) ∧ n ≤ q.length := by
  have hmm := @run_makeMap Try.prog
  have HCl := Lib.hid (fun (w1 : World) (g : Nw w w1) => dClone v q w1 hl (h.nw g))
  have HK := Lib.hid hkn
  clear hkn
  unfold hdV
  obtain ⟨a, c, rfl, _⟩ := h
  obtain ⟨w3, hw3⟩ : ∃ w3, ((w.alloc (.cells #[.int .i64 t, .int .i64 r, .slice a q.length c, .int .i64 W] 27)).alloc (.map #[] 0)).alloc (.cells #[.int .i64 t, .int .i64 r, .slice a q.length c, .int .i64 W, .map (some (w.heap.size + 1))] 74) = w3 := ⟨_, rfl⟩
  have hN3 : Nw w w3 := by rw [← hw3]; exact (((Nw.refl w).alloc _).alloc _).alloc _
  have hs1 : (w.alloc (.cells #[.int .i64 t, .int .i64 r, .slice a q.length c, .int .i64 W] 27)).heap.size = w.heap.size + 1 := by simp
  have hs2 : ((w.alloc (.cells #[.int .i64 t, .int .i64 r, .slice a q.length c, .int .i64 W] 27)).alloc (.map #[] 0)).heap.size = w.heap.size + 1 + 1 := by simp
  have hB : HBox w3 w.heap.size t r (.slice a q.length c) W := by rw [← hw3]; exact (HBox.made w t r (.slice a q.length c) W 27).nw (((Nw.refl _).alloc _).alloc _)
  have hM : HeldC w3 (w.heap.size + 1) 0 (fun _ => 0) := by
    have := HeldC.made (w.alloc (.cells #[.int .i64 t, .int .i64 r, .slice a q.length c, .int .i64 W] 27))
    rw [hs1] at this
    rw [← hw3]; exact this.nw ((Nw.refl _).alloc _)
  have hL : w3.heap[w.heap.size + 1 + 1]? = some (.cells #[.int .i64 t, .int .i64 r, .slice a q.length c, .int .i64 W, .map (some (w.heap.size + 1))] 74) := by
    have := allocAt ((w.alloc (.cells #[.int .i64 t, .int .i64 r, .slice a q.length c, .int .i64 W] 27)).alloc (.map #[] 0)) (.cells #[.int .i64 t, .int .i64 r, .slice a q.length c, .int .i64 W, .map (some (w.heap.size + 1))] 74)
    rw [hs2] at this
    rw [← hw3]; exact this
  have HW3 := Lib.hid hw3
  clear hw3 hs1 hs2
  go_enter Try.func39, Try.ntmps39
  go_wp2_with fail
  go_at_call 48
  rw [HW3.out]
  refine (HCl.out _ hN3).mono ?_
  rintro e w4 ⟨v1, rfl, g4, hO4⟩
  have hL4 := g4.at' hL
  have h5 := hset (j := 2) v1 hL4
  have hN5 : Nw w (w4.setCell ⟨w.heap.size + 1 + 1, 2, none⟩ v1) := (hN3.trans g4).st (by show w.heap.size ≤ w.heap.size + 1 + 1; omega) v1
  have hO5 : RqOwn (w4.setCell ⟨w.heap.size + 1 + 1, 2, none⟩ v1) w.heap.size v1 q := olow (own_st hO4 (p := ⟨w.heap.size + 1 + 1, 2, none⟩) (hlt hL) v1) (fun g hg => by have := oge hO4 hg; have := hN3.sz; omega)
  have hM5 : HeldC (w4.setCell ⟨w.heap.size + 1 + 1, 2, none⟩ v1) (w.heap.size + 1) 0 (fun _ => 0) := (hM.nw g4).kept (sgrown w4 _ v1) (by simp)
  have hLn : Ln (w4.setCell ⟨w.heap.size + 1 + 1, 2, none⟩ v1) w.heap.size (w.heap.size + 1 + 1) t r W v1 (w.heap.size + 1) 0 q (fun _ => 0) := ⟨h5, hO5, hM5, by omega, by omega⟩
  obtain ⟨a1, c1, rfl⟩ := (RqOwn.rd hO5).form
  have l0 := hcell (j := 0) hL4
  have l1 := hcell (j := 1) hL4
  have l2 := hcell (j := 2) hL4
  have l3 := hcell (j := 3) hL4
  have l4 := hcell (j := 4) hL4
  have fz := fun k => hfz (j := k) hL4
  have hsl := hlt hL4
  have HLn := Lib.hid (And.intro hN5 hLn)
  clear hLn hN5 hO5 hM5 h5 hO4 hM hB hL4 hL hN3 g4
  go_wp2
  have hp5 : w.heap.size + 1 + 1 < (w4.setCell ⟨w.heap.size + 1 + 1, 2, none⟩ (.slice a1 q.length c1)).heap.size := hlt HLn.out.2.obj
  generalize w4.setCell ⟨w.heap.size + 1 + 1, 2, none⟩ (.slice a1 q.length c1) = w5 at *
  obtain ⟨p, hp⟩ : ∃ p, w.heap.size + 1 + 1 = p := ⟨_, rfl⟩
  obtain ⟨b, hb⟩ : ∃ b, w.heap.size + 1 = b := ⟨_, rfl⟩
  rw [hp, hb] at HLn
  rw [hp, hb] 
  rw [hp] at hp5
  clear HW3 HCl l0 l1 l2 l3 l4 fz hsl hp hb hmm
  go_loopw [23] (fun i wr => ∃ (k n : Nat), k ≤ q.length ∧ i = .int .i64 k ∧ n = k ∧ Ln wr w.heap.size p t r W (.slice a1 q.length c1) b n q (cntQ (q.take k)) ∧ Nw w wr) (fun i _ => q.length - (intOf i).toNat)
  case atStart => exact ⟨0, 0, Nat.zero_le _, rfl, rfl, HLn.out.2, HLn.out.1⟩
  case round =>
    obtain ⟨k, n, hk, rfl, hn, hLn, hN⟩ := hrel
    by_cases hlt : k < q.length
    · obtain ⟨g, cap, e, hg1, hg2, hce⟩ := RqOwn.at hLn.own hlt
      simp only [Value.slice.injEq, true_and] at e
      obtain ⟨rfl, rfl⟩ := e
      have hkR := HK.out _ (List.getElem_mem hlt)
      have hTk : cntQ (q.take (k + 1)) = setC (cntQ (q.take k)) q[k].md (cntQ (q.take k) q[k].md + 1) := by
        rw [← cntQ_snoc, List.take_add_one, List.getElem?_eq_getElem hlt]; rfl
      have hbd := cntQ_bd (q.take k) q[k].md
      have htl := List.length_take_le k q
      generalize q[k] = R at *
      obtain ⟨b0, b1, b2, b3, b4⟩ := R
      simp only at hkR hTk hbd
      have e0 := hce 0 _ rfl
      have e1 := hce 1 _ rfl
      have e2 := hce 2 _ rfl
      have e3 := hce 3 _ rfl
      have e4 := hce 4 _ rfl
      simp only [Nat.add_zero] at e0
      have g6 : Nw wr (wr.alloc (.cells #[.int .i64 b0, .int .i64 b1, .int .i64 b2, .int .i64 b3, .int .i64 b4] 41)) := (Nw.refl wr).alloc _
      have hq6 := RqB.made wr b0 b1 b2 b3 b4 41
      obtain ⟨w6, hw6⟩ : ∃ w6, wr.alloc (.cells #[.int .i64 b0, .int .i64 b1, .int .i64 b2, .int .i64 b3, .int .i64 b4] 41) = w6 := ⟨_, rfl⟩
      rw [hw6] at g6 hq6
      have HW6 := Lib.hid hw6
      have hL6 := hLn.nw g6
      obtain ⟨hlq, -, -, q2, -, -⟩ := hq6
      have hp6 := heap_lt' hL6.obj
      have m4 := hcell (j := 4) hL6.obj
      have hlk := (hL6.map.nw (Nw.refl w6).drew1).look hkR
      obtain ⟨x, hx⟩ : ∃ x, cntQ (q.take k) b2 = x := ⟨_, rfl⟩
      rw [hx] at hlk hTk hbd
      obtain ⟨x1, hx1⟩ : ∃ x1, x + 1 = x1 := ⟨_, rfl⟩
      have hwx : IntKind.i64.wrap (x + 1) = x1 := by rw [IntKind.wrap_i64]; omega
      obtain ⟨w7, r7, hM7, hG7⟩ := (hL6.map.nw (Nw.refl w6).drew1).put (by omega) hkR (x := x1) (by omega) (by omega)
      have hL7 := (hL6.nw (Nw.refl w6).drew1).put hM7 hG7
      rw [← hx1, ← hTk] at hL7
      have hN7 : Nw w w7 := (hN.trans (g6.trans (Nw.refl w6).drew1)).gro hG7 (fun k hk => by rw [← Option.some.inj hk]; exact hLn.gb)
      have HL7 := Lib.hid (And.intro hL7 hN7)
      have H7 := Lib.hid r7
      clear hLn hN hce hg1 hkR hTk hL6 hx r7 hM7 hG7 hL7 hN7 hbd htl hw6 g6 hx1
      go_wp2
      rw [HW6.out]
      refine wp_region_still_tail 8 (by kernel_rfl) (by kernel_rfl) ?_
      simp only [List.take_succ_cons, List.take_zero, List.drop_succ_cons, List.drop_zero]
      repeat still_step
      try refine wpStill_nil ?_
      change wpList _ _ _ _ _ w6.drew
      go_wp2_with (at_mapUpdate; refine wpl_mapUp rfl (.tmp 30) (.tmp 32) (.tmp 34) 72 rfl _ _ _ _ rfl rfl rfl H7.out ?_)
      go_roundw
      case rel => exact ⟨k + 1, _, by omega, by go_num, by omega, HL7.out.1, HL7.out.2⟩
      case measure => simp [intOf]; omega
    · obtain rfl : k = q.length := by omega
      rw [List.take_length] at hLn
      have HF := Lib.hid (And.intro hN hLn)
      clear hN hLn
      go_wp2
      go_ret
      exact ⟨_, _, _, _, rfl, HF.out.1, HF.out.2, by omega⟩
end Go.Proofs.Ytmciiobncfchlaa
