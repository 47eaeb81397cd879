/- Texts merged: BdM, BdN, BdO, BdQ, BdR, QvX, BdS, BdT, BdV -/
import Derived.Test.YtpffldfpabglbaaGreatDoorTableHoldsB18

/- settle: a head behind a call: scanned, and kept as long as it has a request. -/
section
namespace Go.Proofs.YtpffldfpabglbaaGreatDoor
open Go.RowKit Go.Shelf
set_option linter.unusedVariables false      -- a contract need not use every name

theorem mapUpd_run {P : Program} {w : World} {ops : Array Oper} {rest : List Oper} {o : Oper} {a : Act} {Q : Exit → Act → World → Prop}
    (hg : o.guard = none) (m x u : Operand) (t : TypeId) (hop : o.op = Op.mapUpdate t m x u) (M K V : Value) (w' : World) (hm : a.eval m = M) (hx : a.eval x = K) (hu : a.eval u = V)
    (hr : (Instr.mapUpdate t M K V).run P w = .ok () w') (h : wpList P ops Q rest (a.put o.dst undef) w') : wpList P ops Q (o :: rest) a w := by
  refine wpList_plain hg fun K' hK' => ?_
  unfold Oper.wp
  simp [execOp, hop, hm, hx, hu, hr, Result.andThen]
  exact hK' _ _ h
theorem mapDel_run {P : Program} {w : World} {ops : Array Oper} {rest : List Oper} {o : Oper} {a : Act} {Q : Exit → Act → World → Prop}
    (hg : o.guard = none) (m x : Operand) (t k : TypeId) (hop : o.op = Op.call { callee := Callee.builtin Builtin.delete, args := #[m, x], argTypes := #[t, k] }) (M K : Value) (w' : World) (hm : a.eval m = M) (hx : a.eval x = K)
    (hr : (Builtin.delete_ #[t, k] o.type #[M, K]).run P w = .ok (.tuple #[]) w') (h : wpList P ops Q rest (a.put o.dst (.tuple #[])) w') : wpList P ops Q (o :: rest) a w := by
  refine wpList_plain hg fun K' hK' => ?_
  unfold Oper.wp
  simp [execOp, hop, resolve, invoke, builtin, hm, hx, hr, Result.andThen]
  exact hK' _ _ h
/-- A head is put into the map. -/
theorem Db.put {w w3 w4 : World} {o mb po n : Nat} {l : List Hp} {L : List Bool} {F : Nat → Prop} (h : Db w o mb po n l L F) (g : Nw w w3) (t : w3.mapTurned w4 mb) (x : Hp) (hm : MapH w4 mb (putP l x)) (hx : HpOk w3 F x) (hl : (putH (hsP l) x.h).length ≤ 64) (hxn : ∀ b, (b = x.p ∨ ∃ a, x.a = some a ∧ x.h.q ≠ [] ∧ b = a.block) → w.heap.size ≤ b) : DbTo w o mb po n F l w4 (insP l x) L := by
  have h3 := h.nw g
  have tt := turned_tch t
  have hol := h3.ol
  have hmn : ∀ k, F k → k ≠ mb := fun k e q => h.mf (q ▸ e)
  refine ⟨F, ⟨(tt.cell hol h.omb).trans h3.c0, (tt.cell hol h.omb).trans h3.c1, (tt.cell hol h.omb).trans h3.c2, (tt.cell hol h.omb).trans h3.c3, Nat.lt_of_lt_of_le hol tt.size, h.nf, h.mf, hm.perm (ins_perm h.srt x), ins_srt h.srt x, fun y hy => ?_, h3.pol.tch tt hmn, ?_⟩, fun _ e => .inl e, (Tch.nw g).trans' tt (fun i _ e => .inl e), fun b ⟨y, hy, e⟩ => (ins_mem h.srt hy).elim (fun q => .inr (hxn b (q ▸ e))) (fun q => .inl ⟨y, q, e⟩)⟩
  · have key : HpOk w3 F y := by
      rcases ins_mem h.srt hy with rfl | q
      · exact hx
      · exact h3.ok y q
    exact key.step tt (h3.map.cellne key.c0) (fun b e hq => key.qne h3.map b e hq) (fun _ e => .inl e)
  · have := congrArg List.length (ins_map l x)
    rw [List.length_map] at this
    omega
theorem Db.del {w w3 w4 : World} {o mb po n : Nat} {l : List Hp} {L : List Bool} {F : Nat → Prop} (h : Db w o mb po n l L F) (g : Nw w w3) (t : w3.mapTurned w4 mb) (a : Int × Int) (hm : MapH w4 mb (delP l a)) : DbTo w o mb po n F l w4 (delP l a) L := by
  have h3 := h.nw g
  have tt := turned_tch t
  have hol := h3.ol
  have hmn : ∀ k, F k → k ≠ mb := fun k e q => h.mf (q ▸ e)
  refine ⟨F, ⟨(tt.cell hol h.omb).trans h3.c0, (tt.cell hol h.omb).trans h3.c1, (tt.cell hol h.omb).trans h3.c2, (tt.cell hol h.omb).trans h3.c3, Nat.lt_of_lt_of_le hol tt.size, h.nf, h.mf, hm, del_srt h.srt a, fun y hy => ?_, h3.pol.tch tt hmn, ?_⟩, fun _ e => .inl e, (Tch.nw g).trans' tt (fun i _ e => .inl e), fun b ⟨y, hy, e⟩ => .inl ⟨y, (List.mem_filter.1 hy).1, e⟩⟩
  · have key : HpOk w3 F y := h3.ok y (List.mem_filter.1 hy).1
    exact key.step tt (h3.map.cellne key.c0) (fun b e hq => key.qne h3.map b e hq) (fun _ e => .inl e)
  · exact Nat.le_trans (List.length_filter_le _ _) h.len
/-- Four cells of a box are stored. -/
theorem bxp_put {w : World} {B : Nat} {T : TypeId} {fr : Nat × Nat} {a0 a1 a2 a3 : Value} (h : w.heap[B]? = some (.cells #[a0, a1, a2, a3] T fr)) (u0 u1 u2 u3 : Value) :
    ((((w.setCell ⟨B, 0, none⟩ u0).setCell ⟨B, 1, none⟩ u1).setCell ⟨B, 2, none⟩ u2).setCell ⟨B, 3, none⟩ u3).heap[B]? = some (.cells #[u0, u1, u2, u3] T fr) := by
  have := hset (j := 3) u3 (hset (j := 2) u2 (hset (j := 1) u1 (hset (j := 0) u0 h)))
  simpa using this
theorem bxp_tch (w : World) (B : Nat) (u0 u1 u2 u3 : Value) : Tch (fun b => b = B) w ((((w.setCell ⟨B, 0, none⟩ u0).setCell ⟨B, 1, none⟩ u1).setCell ⟨B, 2, none⟩ u2).setCell ⟨B, 3, none⟩ u3) :=
  ((((Tch.refl (fun b => b = B) w).set (p := ⟨B, 0, none⟩) (.inl rfl) _).set (p := ⟨B, 1, none⟩) (.inl rfl) _).set (p := ⟨B, 2, none⟩) (.inl rfl) _).set (p := ⟨B, 3, none⟩) (.inl rfl) _
theorem rq_tchM {w w' : World} {S : Nat → Prop} {v : Value} {q : List Rq} (h : RqAt w v q) (t : Tch S w w') (hS : ∀ a n c, v = .slice (some a) n c → q ≠ [] → ¬ S a.block) : RqAt w' v q := by
  by_cases hq : q = []
  · subst hq
    obtain ⟨a, c, e, ⟨_, h⟩ | ⟨b, o, e2, hc⟩⟩ := h
    · exact ⟨a, c, e, .inl ⟨rfl, h⟩⟩
    · subst e2; exact ⟨_, c, e, .inl ⟨rfl, fun q => by cases q⟩⟩
  · obtain ⟨a, c, e, ⟨h, _⟩ | ⟨b, o, e2, hc⟩⟩ := h
    · exact absurd h hq
    · subst e2
      have hb := hS _ _ _ e hq
      exact ⟨_, c, e, .inr ⟨b, o, rfl, Nat.lt_of_lt_of_le hc.lt t.size, fun i hi c u hu => (t.cell hc.lt hb).trans (hc.cell i hi c u hu)⟩⟩
theorem is_tchM {w w' : World} {S : Nat → Prop} {g0 e size n : Nat} {v : Value} {xs : List Value} (h : w.ownsRow g0 e size v n xs) (t : Tch S w w') (hS : ∀ g, v.ownBlock = some g → ¬ S g) : w'.ownsRow g0 e size v n xs := by
  refine ⟨h.1, ?_⟩
  rcases h.2 with hn | ⟨g, cap, cur, rfl, hb, hgg, rest⟩
  · exact .inl hn
  · exact .inr ⟨g, cap, cur, rfl, hb, (t.block g (Array.getElem?_eq_some_iff.1 hgg).1 (hS g rfl)).trans hgg, rest⟩
set_option maxRecDepth 20000 in
set_option maxHeartbeats 2000000 in
theorem settle_any {w : World} {o mb po n : Nat} {l : List Hp} {L : List Bool} {F : Nat → Prop} (h : Db w o mb po n l L F) (t r W : Int) (v : Value) (q : List Rq) (wa : wfN (t, r)) (hl : q.length ≤ 1000) (hok : Ok W q) (hrd : RqAt w v q) (hlen : (endS (hsP l) ⟨t, r, W, q⟩).length ≤ 64) :
    Calls Tryz.prog 129 #[.pointer (some ⟨o, 0, none⟩), .agg #[.int .i64 t, .int .i64 r, v, .int .i64 W]] w fun e w' => ∃ vi l', e = .returned vi ∧ IS w' vi (scanQ q).1 ∧ hsP l' = endS (hsP l) ⟨t, r, W, q⟩ ∧ DbTo w o mb po n F l w' l' L ∧ ∀ g, vi.ownBlock = some g → w.heap.size ≤ g := by
  have H := Lib.hid h
  have HOk := Lib.hid hok
  have HLn := Lib.hid hlen
  have hol := h.ol
  have hml := h.map.lt
  have hll := h.len
  obtain ⟨pb, hpb⟩ : ∃ pb, w.heap.size = pb := ⟨_, rfl⟩
  have hal := allocAt w (.cells #[.int .i64 t, .int .i64 r, v, .int .i64 W] 63)
  have hN : Nw w (w.alloc (.cells #[.int .i64 t, .int .i64 r, v, .int .i64 W] 63)) := (Nw.refl w).alloc _
  have HC := Lib.hid (fun w2 (g2 : Nw w w2) => dScanG t r W v q w2 hl hok (hrd.nw g2))
  have hsl : (scanQ q).2.length = q.length := scan_len hok
  obtain ⟨a0, n0, hv⟩ := hrd.form
  subst hv
  clear h hok hlen hrd
  unfold hdV at HC
  go_enter Tryz.func129, Tryz.ntmps129
  go_wp2_with fail
  generalize hz : w.alloc (.cells #[.int .i64 t, .int .i64 r, .slice a0 q.length n0, .int .i64 W] 63) = z at *
  clear hz
  rw [hpb] at hal hol hml
  try rw [hpb]
  refine (HC.out _ hN).mono ?_
  rintro e w1 ⟨v1, vi, rfl, g1, hrd, hcap, his, hfr, hin⟩
  obtain ⟨a2, n2, hv1⟩ := hrd.form
  rw [hsl] at hv1
  subst hv1
  have HSl := Lib.hid hsl
  have hal1 := g1.at' hal
  have HN1 := Lib.hid (hN.trans g1)
  have hzp : pb < z.heap.size := hlt hal
  have hpl := hlt hal1
  have p0 : w1.cell? ⟨pb, 0, none⟩ = some (.int .i64 t) := hcell hal1
  have p1 : w1.cell? ⟨pb, 1, none⟩ = some (.int .i64 r) := hcell hal1
  have p2 : w1.cell? ⟨pb, 2, none⟩ = some (.slice a0 q.length n0) := hcell hal1
  have p3 : w1.cell? ⟨pb, 3, none⟩ = some (.int .i64 W) := hcell hal1
  have pz := fun j => hfz (j := j) hal1
  have hb2 := bxp_put hal1 (.int .i64 t) (.int .i64 r) (.slice a2 q.length n2) (.int .i64 W)
  have ht2 := bxp_tch w1 pb (.int .i64 t) (.int .i64 r) (.slice a2 q.length n2) (.int .i64 W)
  simp only
  have hsl := HSl.out
  obtain ⟨bq, hqd⟩ : ∃ b, ((q.length : Int) == 0) = b := ⟨_, rfl⟩
  cases bq
  all_goals
    go_wp2_with fail
    generalize ((((w1.setCell ⟨pb, 0, none⟩ (.int .i64 t)).setCell ⟨pb, 1, none⟩ (.int .i64 r)).setCell ⟨pb, 2, none⟩ (.slice a2 q.length n2)).setCell ⟨pb, 3, none⟩ (.int .i64 W)) = y2 at *
    have hNy : Nw w y2 := nw_tch HN1.out ht2 (fun i e => by omega)
    have hzs : w.heap.size ≤ z.heap.size := hN.sz
    have hrd2 : RqAt y2 (.slice a2 q.length n2) (scanQ q).2 := rq_tchM hrd ht2 (fun a n c e hq => by
      simp only [Value.slice.injEq] at e
      obtain ⟨rfl, rfl, rfl⟩ := e
      obtain ⟨ab, ao, asp⟩ := a
      intro e2
      have : asp = none := by
        obtain ⟨a', c', e1, ⟨q1, _⟩ | ⟨b', o', e3, _⟩⟩ := hrd
        · exact absurd q1 hq
        · subst e3; simp at e1; exact e1.1.2.2
      subst this
      rcases hfr ab ao _ _ rfl with k | k
      · have : ab = pb := e2
        omega
      · exact hq k)
    have his2 : IS y2 vi (scanQ q).1 := is_tchM his ht2 (fun g hg e => by have := hin g hg; omega)
    have hin2 : ∀ g', vi.ownBlock = some g' → w.heap.size ≤ g' := fun g' hg => Nat.le_trans hzs (hin g' hg)
    have hlb := hlt hb2
    clear p0 p1 p2 p3 pz
    have p0 : y2.cell? ⟨pb, 0, none⟩ = some (.int .i64 t) := hcell hb2
    have p1 : y2.cell? ⟨pb, 1, none⟩ = some (.int .i64 r) := hcell hb2
    have p2 : y2.cell? ⟨pb, 2, none⟩ = some (.slice a2 q.length n2) := hcell hb2
    have p3 : y2.cell? ⟨pb, 3, none⟩ = some (.int .i64 W) := hcell hb2
    have c3 := hNy.kp H.out.c3
    have hol2 : o < y2.heap.size := Nat.lt_of_lt_of_le (by omega) hNy.sz
    have HI := Lib.hid (And.intro his2 hin2)
    have HR := Lib.hid (And.intro hrd2 (And.intro hcap hfr))
    have HN := Lib.hid hNy
    have HB := Lib.hid hb2
    clear hb2 ht2 his hin hcap hfr hrd hrd2 his2 hin2 hal hal1 hN HC g1 hNy
  · have hq : ¬ q.length = 0 := by simpa using hqd
    have hE : endS (hsP l) ⟨t, r, W, q⟩ = putH (hsP l) ⟨t, r, W, (scanQ q).2⟩ := by
      unfold endS
      rw [if_neg (fun e => hq (by rw [← HSl.out]; show (scH ⟨t, r, W, q⟩).q.length = 0; rw [e]; rfl))]
      rfl
    have hx : HpOk y2.drew F ⟨⟨t, r, W, (scanQ q).2⟩, pb, a2, n2⟩ := by
      refine ⟨p0, p1, by rw [HSl.out]; exact p2, p3, ?_, ?_, ?_, fun e => ?_, fun b e hne k => ?_⟩
      · unfold hpV
        simp only
        rw [HSl.out]
        exact HR.out.1.nw (Nw.refl _).dr
      · simp only; rw [HSl.out]; exact HR.out.2.1
      · simp only; rw [HSl.out]; exact hl
      · have := H.out.pol.own _ e
        simp only at this
        omega
      · simp only at e hne
        subst e
        obtain ⟨a', c', e1, ⟨q1, _⟩ | ⟨b', o', e3, _⟩⟩ := HR.out.1
        · exact hne q1
        · subst e3
          simp only [Value.slice.injEq, Option.some.injEq] at e1
          obtain ⟨rfl, _, rfl⟩ := e1
          rcases HR.out.2.2 b' o' _ _ rfl with q2 | q2
          · have := H.out.pol.own _ k
            simp only at this
            omega
          · exact hne q2
    have hxn : ∀ b, (b = pb ∨ ∃ a, a2 = some a ∧ (scanQ q).2 ≠ [] ∧ b = a.block) → w.heap.size ≤ b := by
      rintro b (rfl | ⟨a, e, hne, rfl⟩)
      · exact Nat.le_of_eq hpb
      · subst e
        obtain ⟨a', c', e1, ⟨q1, _⟩ | ⟨b', o', e3, _⟩⟩ := HR.out.1
        · exact absurd q1 hne
        · subst e3
          simp only [Value.slice.injEq, Option.some.injEq] at e1
          obtain ⟨rfl, _, rfl⟩ := e1
          rcases HR.out.2.2 b' o' _ _ rfl with q2 | q2
          · exact Nat.le_trans hzs q2
          · exact absurd q2 hne
    have HXn := Lib.hid hxn
    obtain ⟨w4, hrun, hm4, ht4⟩ := ((H.out.nw HN.out.dr).map).put (by omega) ⟨⟨t, r, W, (scanQ q).2⟩, pb, a2, n2⟩ wa
    have HT := Lib.hid (And.intro hm4 (And.intro ht4 hx))
    have HE := Lib.hid hE
    unfold nmV nmH at hrun
    simp only at hrun
    have HU := Lib.hid hrun
    clear hE hq hm4 ht4 hrun hx hxn
    refine wp_region_still_tail 6 (by kernel_rfl) (by kernel_rfl) ?_
    simp only [List.take_succ_cons, List.take_zero, List.drop_succ_cons, List.drop_zero]
    iterate 6 still_step
    try refine wpStill_nil ?_
    change wpList _ _ _ _ _ y2.drew
    go_wp2_with (refine mapUpd_run rfl (.tmp 25) (.tmp 27) (.tmp 3) 135 rfl _ _ _ _ rfl rfl rfl HU.out ?_)
    go_ret
    refine ⟨_, insP l ⟨⟨t, r, W, (scanQ q).2⟩, pb, a2, n2⟩, rfl, is_tchM (onw HI.out.1 (Nw.refl _).dr) (turned_tch HT.out.2.1) (fun g hg e => by have := HI.out.2 g hg; omega), by rw [ins_map]; exact HE.out.symm, H.out.put HN.out.dr HT.out.2.1 _ HT.out.1 HT.out.2.2 (by rw [← HE.out]; exact HLn.out) HXn.out, HI.out.2⟩
  · have hq : q.length = 0 := by simpa using hqd
    have hE : endS (hsP l) ⟨t, r, W, q⟩ = hsP (delP l (t, r)) := by
      unfold endS
      rw [if_pos (show (scH ⟨t, r, W, q⟩).q = [] from List.length_eq_zero_iff.1 (HSl.out.trans hq))]
      exact delH_map l (t, r)
    obtain ⟨w4, hrun, hm4, ht4⟩ := ((H.out.nw HN.out.dr).map).del wa (0 : TypeId)
    have HT := Lib.hid (And.intro hm4 ht4)
    have HE := Lib.hid hE
    unfold nmV at hrun
    simp only at hrun
    have HU := Lib.hid hrun
    clear hE hq hm4 ht4 hrun
    refine wp_region_still_tail 6 (by kernel_rfl) (by kernel_rfl) ?_
    simp only [List.take_succ_cons, List.take_zero, List.drop_succ_cons, List.drop_zero]
    iterate 6 still_step
    try refine wpStill_nil ?_
    change wpList _ _ _ _ _ y2.drew
    go_wp2_with (refine mapDel_run rfl (.tmp 18) (.tmp 20) 135 34 rfl _ _ _ rfl rfl HU.out ?_)
    go_ret
    refine ⟨_, delP l (t, r), rfl, is_tchM (onw HI.out.1 (Nw.refl _).dr) (turned_tch HT.out.2) (fun g hg e => by have := HI.out.2 g hg; omega), HE.out.symm, H.out.del HN.out.dr HT.out.2 (t, r) HT.out.1, HI.out.2⟩
end Go.Proofs.YtpffldfpabglbaaGreatDoor
end

/- Ask. -/
section
namespace Go.Proofs.YtpffldfpabglbaaGreatDoor
open Go.RowKit Go.Shelf
set_option linter.unusedVariables false      -- a contract need not use every name

theorem DbTo.comp {w w1 w' : World} {o mb po n : Nat} {F F1 : Nat → Prop} {l l' : List Hp} {L' : List Bool} (h2 : ∀ k, F1 k → F k ∨ w.heap.size ≤ k) (h3 : Tch (fun b => b = mb ∨ F b) w w1) (k : DbTo w1 o mb po n F1 l w' l' L') : DbTo w o mb po n F l w' l' L' := by
  obtain ⟨F', k1, k2, k3, k4⟩ := k
  exact ⟨F', k1, fun b e => (k2 b e).elim (h2 b) (fun q => .inr (Nat.le_trans h3.size q)), h3.trans' k3 (fun b hb e => e.elim .inl (fun e => (h2 b e).elim .inr (fun q => by omega))), k4.pre h3.size⟩
theorem at_hd (l : List Hp) (t r : Int) : (atP l (t, r)).h = hdB (hsP l) t r := by
  unfold atP hdB
  rw [getH_map]
  cases getP l (t, r) <;> rfl
theorem at_rd {w : World} {o mb po n : Nat} {l : List Hp} {L : List Bool} {F : Nat → Prop} (h : Db w o mb po n l L F) (t r : Int) : RqAt w (hpV (atP l (t, r))) (atP l (t, r)).h.q := by
  unfold atP
  cases e : getP l (t, r) with
  | none => exact Rd.nil w
  | some x => exact (h.ok x (getP_some e).1).rd
theorem at_qf {w : World} {o mb po n : Nat} {l : List Hp} {L : List Bool} {F : Nat → Prop} (h : Db w o mb po n l L F) (t r : Int) : ∀ b, (atP l (t, r)).a = some b → (atP l (t, r)).h.q ≠ [] → ¬ F b.block := by
  unfold atP
  cases e : getP l (t, r) with
  | none => intro b e1 e2; exact absurd rfl e2
  | some x => exact (h.ok x (getP_some e).1).qf
theorem lent_lt {most k : Nat} {hs : List Hq} {X : List Int} {L : List Bool} (b : BInv most k hs X L) {id : Int} (h : id ∈ allIds hs) : 0 ≤ id ∧ id < L.length := by
  have := b.mem h
  obtain ⟨i, rfl, hi, _⟩ := hsL_at this
  omega
theorem ask_try {most k : Nat} {hs : List Hq} {X : List Int} {L : List Bool} (b : BInv most k hs X L) (t r txn m id : Int) (hid : (L.length : Int) ≤ id) : askE (hdB hs t r).q id txn m = if badM m then 2 else if twB hs t r txn = true then 4 else 0 := by
  obtain ⟨_, _, _, d4⟩ := b.hd t r
  have h0 : ¬ id < 0 := by omega
  have e : ((hdB hs t r).q.any fun x => x.id == id || x.txn == txn) = twB hs t r txn := by
    unfold twB
    rw [Bool.eq_iff_iff, List.any_eq_true, List.any_eq_true]
    constructor
    · rintro ⟨x, hx, hq⟩
      refine ⟨x, hx, ?_⟩
      have := lent_lt b (d4 x hx)
      have hne : (x.id == id) = false := by simp; omega
      rw [hne] at hq
      simpa using hq
    · rintro ⟨x, hx, hq⟩
      exact ⟨x, hx, by rw [hq]; simp⟩
  unfold askE
  rw [e]
  by_cases hb : badM m
  · rw [if_pos hb, if_pos (.inr hb)]
  · rw [if_neg hb, if_neg (by rintro (q | q); exact h0 q; exact hb q)]
end Go.Proofs.YtpffldfpabglbaaGreatDoor
end

/- Ask, walked. -/
section
namespace Go.Proofs.YtpffldfpabglbaaGreatDoor
open Go.RowKit Go.Shelf
set_option linter.unusedVariables false      -- a contract need not use every name

/-- What Ask comes to. -/
def AskD (w : World) (o mb po n : Nat) (F : Nat → Prop) (l : List Hp) (L : List Bool) (t r txn m : Int) (e : Ending) (w' : World) : Prop :=
  e = .returned (.tuple #[.int .i64 (askBR n (hsP l) L t r txn m).1, .bool (askBR n (hsP l) L t r txn m).2.1, .int .i64 (askBR n (hsP l) L t r txn m).2.2]) ∧ ∃ l', hsP l' = (askBS n (hsP l) L t r txn m).1 ∧ DbTo w o mb po n F l w' l' (askBS n (hsP l) L t r txn m).2
theorem askD_rej {w w' : World} {o mb po n : Nat} {F : Nat → Prop} {l : List Hp} {L : List Bool} {t r txn m E : Int} (h : Db w o mb po n l L F) (g : Nw w w') (he : askBE n (hsP l) L t r txn m = E) (hE : E ≠ 0) :
    AskD w o mb po n F l L t r txn m (.returned (.tuple #[.int .i64 0, .bool false, .int .i64 E])) w' := by
  obtain ⟨h1, h2⟩ := ask_rej (most := n) (hs := hsP l) (L := L) (t := t) (r := r) (txn := txn) (m := m) (by rw [he]; exact hE)
  unfold AskD
  rw [h1, h2.1, he]
  exact ⟨rfl, l, rfl, h.to g⟩
theorem askD_rejT {w w' : World} {o mb po n : Nat} {F : Nat → Prop} {l : List Hp} {L : List Bool} {t r txn m E : Int} (h : DbTo w o mb po n F l w' l L) (he : askBE n (hsP l) L t r txn m = E) (hE : E ≠ 0) :
    AskD w o mb po n F l L t r txn m (.returned (.tuple #[.int .i64 0, .bool false, .int .i64 E])) w' := by
  obtain ⟨h1, h2⟩ := ask_rej (most := n) (hs := hsP l) (L := L) (t := t) (r := r) (txn := txn) (m := m) (by rw [he]; exact hE)
  unfold AskD
  rw [h1, h2.1, he]
  exact ⟨rfl, l, rfl, h⟩
theorem fre_lvI {L : List Bool} : fre L < L.length ↔ liv L < L.length := by
  have h1 := frI_len L
  constructor
  · intro h
    rw [frI_take h] at h1
    simp only [List.length_cons] at h1
    omega
  · intro h
    rcases Nat.lt_or_ge (fre L) L.length with q | q
    · exact q
    · have := fre_le L
      rw [frI_none (by omega)] at h1
      simp only [List.length_nil] at h1
      omega
set_option maxRecDepth 20000 in
set_option maxHeartbeats 4000000 in
theorem ask_d {w : World} {o mb po n k : Nat} {l : List Hp} {L : List Bool} {F : Nat → Prop} (h : Db w o mb po n l L F) {X : List Int} (b : BInv n k (hsP l) X L) (hk : k ≤ 800) (hn : n ≤ 64) (t r txn m : Int) (wa : wfN (t, r)) :
    Calls Tryz.prog 89 #[.pointer (some ⟨o, 0, none⟩), .agg #[.int .i64 t, .int .i64 r], .int .i64 txn, .int .i64 m] w (AskD w o mb po n F l L t r txn m) := by
  have H := Lib.hid h
  have HB := Lib.hid b
  have hol := h.ol
  have hLs := h.pol.sz
  have hN : Nw w (w.alloc (.cells #[.int .i64 t, .int .i64 r] 34)) := (Nw.refl w).alloc _
  have hb0 := allocAt w (.cells #[.int .i64 t, .int .i64 r] 34)
  obtain ⟨z, hz⟩ : ∃ z, w.alloc (.cells #[.int .i64 t, .int .i64 r] 34) = z := ⟨_, rfl⟩
  rw [hz] at hN hb0
  have HZ := Lib.hid hz
  have n0 : z.cell? ⟨w.heap.size, 0, none⟩ = some (.int .i64 t) := hcell hb0
  have n1 : z.cell? ⟨w.heap.size, 1, none⟩ = some (.int .i64 r) := hcell hb0
  have hbl := hlt hb0
  have HMd := Lib.hid (bmade_yes o z (hN.kp h.c0))
  have HAt := Lib.hid (at_any (h.nw hN) t r wa)
  obtain ⟨hi, hW, hql, _⟩ := b.hd t r
  have htry := ask_try b t r txn m 128 (by omega)
  rw [← at_hd] at hi hW hql htry
  have hnm : (atP l (t, r)).h.t = t ∧ (atP l (t, r)).h.r = r := by
    have := hd_name (hsP l) t r
    rw [← at_hd] at this
    exact ⟨congrArg Prod.fst this, congrArg Prod.snd this⟩
  have hrd := at_rd h t r
  have hqf := at_qf h t r
  have hh := at_hd l t r
  have hge : getP l (t, r) = none → (atP l (t, r)).h.q = [] := fun e => by unfold atP; rw [e]; rfl
  have hgs : ∀ x, getP l (t, r) = some x → (atP l (t, r)).h.q ≠ [] := fun x e => by
    have hx := (getP_some e).1
    unfold atP; rw [e]
    exact b.ne _ (List.mem_map.2 ⟨x, hx, rfl⟩)
  clear h b hz hb0
  unfold hpH at HAt
  revert HAt hi hW hql htry hnm hrd hqf hh hge hgs
  generalize atP l (t, r) = x
  obtain ⟨⟨xt, xr, xW, q⟩, xa, xq, xc⟩ := x
  intro HAt hi hW hql htry hnm hrd hqf hh hge hgs
  obtain ⟨rfl, rfl⟩ := hnm
  simp only at HAt hi hW hql htry hrd hqf hh hge hgs
  obtain ⟨ql, hqe⟩ : ∃ ql, q.length = ql := ⟨_, rfl⟩
  unfold hpV at hrd
  simp only at hrd
  rw [hqe] at HAt hrd
  have HD := Lib.hid (And.intro hi (And.intro hql (And.intro hh (And.intro hge (And.intro hgs (And.intro hqf (And.intro hqe hW)))))))
  have HRd := Lib.hid hrd
  have HTr := Lib.hid htry
  have hok := hi.ok
  clear hi hW hql hh hge hgs hqf hrd htry
  go_enter Tryz.func89, Tryz.ntmps89
  go_wp2_with fail
  rw [HZ.out]
  refine HMd.out.mono ?_
  rintro e w' ⟨rfl, rfl⟩
  go_wp2_with fail
  refine HAt.out.mono ?_
  rintro e w1 ⟨rfl, g1⟩
  have HN1 := Lib.hid (hN.trans g1)
  have hal := allocAt w1 (.cells #[.int .i64 xt, .int .i64 xr, .slice xq ql xc, .int .i64 xW] 63)
  have hN2 : Nw w (w1.alloc (.cells #[.int .i64 xt, .int .i64 xr, .slice xq ql xc, .int .i64 xW] 63)) := HN1.out.alloc _
  have hpb : w.heap.size ≤ w1.heap.size := HN1.out.sz
  have pl := hlt hal
  have HA1 := Lib.hid (fun w2 (g : Nw w w2) => dAsk xt xr xW 128 txn m (.slice xq ql xc) q w2 (by have := HD.out.2.1; omega) hok (HRd.out.nw g))
  unfold hdV at HA1
  clear n0 n1 hbl HAt HMd g1 hN HZ
  go_wp2_with fail
  generalize w1.heap.size = pb at *
  generalize w1.alloc (.cells #[.int .i64 xt, .int .i64 xr, .slice xq ql xc, .int .i64 xW] 63) = z1 at *
  refine (HA1.out _ hN2).mono ?_
  rintro e y ⟨v2, rfl, g2, rd2, cap2, fr2⟩
  obtain ⟨av, cv, hv2⟩ := rd2.form
  obtain ⟨nv, hnv⟩ : ∃ nv, (askR ⟨xt, xr, xW, q⟩ 128 txn m).1.q.length = nv := ⟨_, rfl⟩
  rw [hnv] at hv2
  subst hv2
  clear hnv
  have hal2 := g2.at' hal
  have HN3 := Lib.hid (hN2.trans g2)
  have hE1 : (askR ⟨xt, xr, xW, q⟩ 128 txn m).2.2 = askE q 128 txn m := by unfold askR; split <;> simp_all
  rw [hE1, HTr.out]
  obtain ⟨E1, hE⟩ : ∃ E1 : Int, (if badM m then (2 : Int) else if twB (hsP l) xt xr txn = true then 4 else 0) = E1 := ⟨_, rfl⟩
  rw [hE]
  have HE := Lib.hid hE
  clear hal g2 hN2 HA1 HN1 rd2 cap2 fr2 pl
  generalize (askR ⟨xt, xr, xW, q⟩ 128 txn m).1 = X1
  generalize (askR ⟨xt, xr, xW, q⟩ 128 txn m).2.1 = X2
  simp only [hdV]
  by_cases he1 : E1 = 0
  · subst he1
    have hbm : ¬ badM m := fun e => by have := HE.out; rw [if_pos e] at this; cases this
    have htw : ¬ twB (hsP l) xt xr txn = true := fun e => by have := HE.out; rw [if_neg hbm, if_pos e] at this; cases this
    have hex : askBE n (hsP l) L xt xr txn m = if fullB n (hsP l) L xt xr then 8 else 0 := by unfold askBE; rw [if_neg hbm, if_neg htw]
    have HX := Lib.hid hex
    clear hE hbm htw hex
    obtain ⟨y1, hy1⟩ : ∃ y1, y.alloc (.cells #[.int .i64 X1.t, .int .i64 X1.r, .slice av nv cv, .int .i64 X1.W] 63) = y1 := ⟨_, rfl⟩
    have g1 : Nw y y1 := by rw [← hy1]; exact (Nw.refl y).alloc _
    have HN4 := Lib.hid (HN3.out.trans g1)
    have hal3 := g1.at' hal2
    have HY1 := Lib.hid hy1
    clear hal2 g1 hy1 HN3
    go_wp2_with fail
    rw [HY1.out]
    clear HY1
    have c1 := (H.out.nw HN4.out).c1
    have c2 := (H.out.nw HN4.out).c2
    have c3 := (H.out.nw HN4.out).c3
    have pl := hlt hal3
    have hdr : Nw w y1.drew := HN4.out.dr
    have hle := fun (d : Wd (fun y => y = y1.drew)) => ((H.out.nw (show Nw w d.w by rw [d.h]; exact hdr)).map).len 3
    have d1 : ∀ d : Wd (fun y => y = y1.drew), d.w.cell? ⟨o, 1, none⟩ = some (.int .i64 n) := fun d => by rw [d.h]; exact c1
    have d3 : ∀ d : Wd (fun y => y = y1.drew), d.w.cell? ⟨o, 3, none⟩ = some (.map (some mb)) := fun d => by rw [d.h]; exact c3
    have e1 : ∀ d : Wd (fun y => y = y1.drew), d.w.cell? ⟨pb, 2, none⟩ = some (.slice xq ql xc) := fun d => by rw [d.h]; exact hcell (j := 2) hal3
    have hne : Nonempty (Wd (fun y => y = y1.drew)) := ⟨⟨_, rfl⟩⟩
    have hLl : (hsP l).length = l.length := List.length_map _
    have hln := HB.out.len
    rw [hLl] at hln
    have hway : (ql = 0 ∧ l.length = n ∧ fullB n (hsP l) L xt xr) ∨ (((ql = 0 ∧ l.length ≠ n) ∨ ql ≠ 0) ∧ (fullB n (hsP l) L xt xr ↔ L.length ≤ liv L)) := by
      have hg : getH (hsP l) (xt, xr) = none ↔ ql = 0 := by
        rw [getH_map]
        cases e : getP l (xt, xr) with
        | none => have := HD.out.2.2.2.1 e; have := HD.out.2.2.2.2.2.2.1; simp_all
        | some x =>
          have h1 := HD.out.2.2.2.2.1 x e
          have h2 := HD.out.2.2.2.2.2.2.1
          constructor
          · intro q; cases q
          · intro q; rw [q] at h2; exact absurd (List.length_eq_zero_iff.1 h2) h1
      unfold fullB
      rw [hLl, hg]
      by_cases q0 : ql = 0
      · by_cases q1 : l.length = n
        · exact .inl ⟨q0, q1, .inl ⟨q0, by omega⟩⟩
        · refine .inr ⟨.inl ⟨q0, q1⟩, ⟨fun h => h.elim (fun h => by omega) id, .inr⟩⟩
      · exact .inr ⟨.inr q0, ⟨fun h => h.elim (fun h => absurd h.1 q0) id, .inr⟩⟩
    clear c1 c3 hLl hln
    rcases hway with ⟨rfl, hq1, hfu⟩ | ⟨hq, hfu⟩
    · have j1 : ((l.length : Int) == (n : Int)) = true := beq_iff_eq.2 (by omega)
      have j2 : (l.length == n) = true := by simpa using hq1
      have HR := Lib.hid (askD_rej (t := xt) (r := xr) (txn := txn) (m := m) H.out hdr (by rw [HX.out, if_pos hfu]) (show (8 : Int) ≠ 0 by decide))
      clear hfu hq1 hal3 hdr
      refine region_in (fun y => y = y1.drew) (by kernel_rfl) (by kernel_rfl) rfl ?_
      repeat (first | go_big_quiet_step (fail) | quiet_step (fail))
      refine wpQuiet_nil ?_
      intro d
      rw [d.h]
      clear d hle d1 d3 e1
      clear hne
      go_wp2
      exact bodyPost_ret (v := .tuple #[.int .i64 0, .bool false, .int .i64 8]) (by simp [results, Tryz.results89, go_sem, *]) rfl HR.out
    · have HFu := Lib.hid hfu
      have HDr := Lib.hid hdr
      clear hfu hdr
      rcases hq with ⟨hq0, hq1⟩ | hq0
      · have j1 : ((l.length : Int) == (n : Int)) = false := beq_eq_false_iff_ne.2 (by omega)
        have j0 : ((ql : Int) == 0) = true := beq_iff_eq.2 (by omega)
        have j3 : (ql == 0) = true := beq_iff_eq.2 hq0
        clear hq0
        have j2 : (l.length == n) = false := by simpa using hq1
        clear hq1
        refine region_in (fun y => y = y1.drew) (by kernel_rfl) (by kernel_rfl) rfl ?_
        repeat (first | go_big_quiet_step (fail) | quiet_step (fail))
        refine wpQuiet_nil ?_
        intro d
        rw [d.h]
        clear d hle d1 d3 e1
        clear hne
        obtain ⟨y2, hy2⟩ : ∃ y2, y1.drew = y2 := ⟨_, rfl⟩
        have hal4 : y2.heap[pb]? = some (.cells #[.int .i64 xt, .int .i64 xr, .slice xq ql xc, .int .i64 xW] 63 (0, 0)) := by subst hy2; exact hal3
        have HN5 : Hid (Nw w y2) := by subst hy2; exact HDr
        have c2' : y2.cell? ⟨o, 2, none⟩ = some (.pointer (some ⟨po, 0, none⟩)) := by subst hy2; exact c2
        have pl2 := hlt hal4
        have hol2 : o < y2.heap.size := Nat.lt_of_lt_of_le hol HN5.out.sz
        rw [hy2]
        have HTk := Lib.hid (take_any (H.out.nw HN5.out).pol)
        clear hy2 hal3 c2 pl HDr
        go_wp2_with fail
        refine HTk.out.mono ?_
        rintro e y3 ⟨rfl, hpt⟩
        have HPt := Lib.hid (((H.out.nw HN5.out).pool hpt).pre HN5.out)
        by_cases hf : fre L < L.length
        · have hl0 : liv L < L.length := fre_lvI.1 hf
          have he0 : askBE n (hsP l) L xt xr txn m = 0 := by rw [HX.out, if_neg (fun e => by have := HFu.out.1 e; omega)]
          have htk : tkR L = (↑(fre L), 0) := if_pos hf
          rw [htk]
          obtain ⟨hke, hfl, hnn⟩ := ask_can HB.out he0
          have hhq : (hdB (hsP l) xt xr) = ⟨xt, xr, xW, q⟩ := HD.out.2.2.1.symm
          rw [hhq] at hke
          have hpbF : ¬ F pb := fun e => by have := H.out.pol.own _ e; omega
          obtain ⟨F1, hDb1, hF1, ht1, _⟩ := (H.out.nw HN5.out).pool hpt
          have hpF1 : ¬ F1 pb := fun e => (hF1 pb e).elim hpbF (fun q => by omega)
          have hy2s := HN5.out.sz
          have hpn : pb ≠ mb := by have := H.out.map.lt; omega
          have hal5 : y3.heap[pb]? = some (.cells #[.int .i64 xt, .int .i64 xr, .slice xq ql xc, .int .i64 xW] 63 (0, 0)) := by
            obtain ⟨_, _, _, ht⟩ := hpt
            exact (ht.block pb pl2 hpbF).trans hal4
          have hrd3 : RqAt y3 (.slice xq ql xc) q := by
            obtain ⟨_, _, _, ht⟩ := hpt
            refine rq_tchM (HRd.out.nw HN5.out) ht (fun a n c e hqe => ?_)
            simp only [Value.slice.injEq] at e
            exact HD.out.2.2.2.2.2.1 a e.1 hqe
          have p0 := hcell (j := 0) hal5
          have p1 := hcell (j := 1) hal5
          have p2 := hcell (j := 2) hal5
          have p3 := hcell (j := 3) hal5
          have pz := fun j => hfz (j := j) hal5
          have pl3 := hlt hal5
          have HA2 := Lib.hid (dAsk xt xr xW (fre L) txn m (.slice xq ql xc) q y3 (by have := HD.out.2.1; omega) hok hrd3)
          have hX2 : askR ⟨xt, xr, xW, q⟩ (fre L) txn m = (⟨xt, xr, (askQ xW q (fre L) txn m).1, (askQ xW q (fre L) txn m).2.1⟩, (askQ xW q (fre L) txn m).2.2, 0) := by unfold askR; rw [if_pos hke]
          rw [hX2] at HA2
          unfold hdV at HA2
          have HK := Lib.hid (And.intro hke (And.intro hfl (And.intro hnn (And.intro he0 hhq))))
          have HDb := Lib.hid (And.intro hDb1 (And.intro (show ∀ k, F1 k → F k ∨ w.heap.size ≤ k from fun k e => (hF1 k e).imp id (fun q => by omega)) (And.intro (show Tch (fun b => b = mb ∨ F b) w y3 from (Tch.nw HN5.out).trans ht1) (And.intro hpF1 hpn))))
          clear hke hfl hnn he0 hhq hX2 hDb1 hF1 ht1 hpt hpbF hpn htk hl0 hal4 pl2 c2' HTk hf
          have hsz3 : w.heap.size ≤ y3.heap.size := HDb.out.2.2.1.size
          have hpl3 : pb < y3.heap.size := pl3
          go_wp2_with fail
          refine HA2.out.mono ?_
          rintro e y4 ⟨v4, rfl, g4, rd4, cap4, fr4⟩
          obtain ⟨a4, c4, hv4⟩ := rd4.form
          have HRd4 := Lib.hid rd4
          have hal6 := g4.at' hal5
          have g4' := Lib.hid g4
          simp only at HRd4 hv4 ⊢
          generalize hQ : askQ xW q (fre L) txn m = Q at *
          obtain ⟨W4, q4, gr⟩ := Q
          simp only at HRd4 hv4 ⊢
          obtain ⟨q4l, hq4l⟩ : ∃ n, q4.length = n := ⟨_, rfl⟩
          rw [hq4l] at hv4
          subst hv4
          have HFr := Lib.hid fr4
          clear p0 p1 p2 p3 pz pl3 rd4 cap4 fr4 hal5
          have p0 := hcell (j := 0) hal6
          have p1 := hcell (j := 1) hal6
          have p2 := hcell (j := 2) hal6
          have p3 := hcell (j := 3) hal6
          have pz := fun j => hfz (j := j) hal6
          have pl4 := hlt hal6
          have hb6 := bxp_put hal6 (.int .i64 xt) (.int .i64 xr) (.slice a4 q4l c4) (.int .i64 W4)
          have ht6 := bxp_tch y4 pb (.int .i64 xt) (.int .i64 xr) (.slice a4 q4l c4) (.int .i64 W4)
          have hq4 : q4 ≠ [] := by have := ask_ne xW q (fre L) txn m; rw [hQ] at this; exact this
          have hW4 := HD.out.2.2.2.2.2.2.2
          have hok4 : Ok W4 q4 := by have := ok_ask hok (fre L) txn m HK.out.1 (by omega); rw [hQ] at this; exact this
          have hdn4 : Done q4 := by have := done_ask hok HD.out.1.done (fre L) txn m HK.out.1; rw [hQ] at this; exact this
          have hsc : scanQ q4 = ([], q4) := scan_done hdn4
          have hsb : askBS n (hsP l) L xt xr txn m = (putH (hsP l) ⟨xt, xr, W4, q4⟩, tkL L) := by
            unfold askBS askH
            rw [if_pos HK.out.2.2.2.1, HK.out.2.2.2.2]
            simp only
            rw [hQ]
          have hbr : askBR n (hsP l) L xt xr txn m = (↑(fre L), gr, 0) := by
            unfold askBR
            rw [if_pos HK.out.2.2.2.1, HK.out.2.2.2.2]
            simp only
            rw [hQ]
          have hes : endS (hsP l) ⟨xt, xr, W4, q4⟩ = putH (hsP l) ⟨xt, xr, W4, q4⟩ := by
            unfold endS scH
            simp only
            rw [hsc]
            simp only
            rw [if_neg hq4]
          have hbl := (binv_ask HB.out (by omega) xt xr txn m).len
          rw [hsb] at hbl
          simp only at hbl
          have hql4 : q4.length ≤ 1000 := by
            have := HD.out.2.1
            have e := congrArg (fun z => z.2.1.length) hQ
            simp only at e
            rw [← e]
            unfold askQ
            split <;> simp <;> omega
          have HS6 := Lib.hid (fun y5 (hd : Db y5 o mb po n l (tkL L) F1) (hr : RqAt y5 (.slice a4 q4l c4) q4) => settle_any hd xt xr W4 (.slice a4 q4l c4) q4 wa hql4 hok4 hr (by rw [hes]; omega))
          rw [hes, hsc] at HS6
          have hd5 : Db ((((y4.setCell ⟨pb, 0, none⟩ (.int .i64 xt)).setCell ⟨pb, 1, none⟩ (.int .i64 xr)).setCell ⟨pb, 2, none⟩ (.slice a4 q4l c4)).setCell ⟨pb, 3, none⟩ (.int .i64 W4)) o mb po n l (tkL L) F1 := by
            refine (HDb.out.1.nw g4'.out).tch ht6 (fun e => by omega) (fun e => HDb.out.2.2.2.2 e.symm) (fun k e q => HDb.out.2.2.2.1 (q ▸ e)) (fun x hx => ⟨fun e => ?_, fun b e hq e2 => ?_⟩)
            · have := (H.out.ok x hx).lt; omega
            · obtain ⟨a', c', e1, ⟨q1, _⟩ | ⟨b', o', e3, hc⟩⟩ := (H.out.ok x hx).rd
              · exact hq q1
              · unfold hpV at e1
                rw [e, e3] at e1
                injection e1 with e1 _ _
                injection e1 with e1
                subst e1
                have := hc.lt
                have e4 : (⟨b', o', none⟩ : Addr).block = b' := rfl
                omega
          have hr5 : RqAt ((((y4.setCell ⟨pb, 0, none⟩ (.int .i64 xt)).setCell ⟨pb, 1, none⟩ (.int .i64 xr)).setCell ⟨pb, 2, none⟩ (.slice a4 q4l c4)).setCell ⟨pb, 3, none⟩ (.int .i64 W4)) (.slice a4 q4l c4) q4 := by
            refine rq_tchM HRd4.out ht6 (fun a n' c e hqe e2 => ?_)
            obtain ⟨a', c', e1, ⟨q1, _⟩ | ⟨b', o', e3, hc⟩⟩ := HRd4.out
            · exact hqe q1
            · rw [e1, e3] at e
              simp only [Value.slice.injEq, Option.some.injEq] at e
              obtain ⟨rfl, _, _⟩ := e
              rw [e3] at e1
              rcases HFr.out b' o' _ _ e1 with q2 | q2
              · have : b' = pb := e2
                omega
              · exact hqe q2
          have HS7 := Lib.hid (HS6.out _ hd5 hr5)
          have HDt := Lib.hid (show DbTo w o mb po n F l ((((y4.setCell ⟨pb, 0, none⟩ (.int .i64 xt)).setCell ⟨pb, 1, none⟩ (.int .i64 xr)).setCell ⟨pb, 2, none⟩ (.slice a4 q4l c4)).setCell ⟨pb, 3, none⟩ (.int .i64 W4)) l (tkL L) from
            ⟨F1, hd5, HDb.out.2.1, ((HDb.out.2.2.1.trans (Tch.nw g4'.out))).trans' ht6 (fun i hi e => by omega), HdN.refl w l⟩)
          have HTc := Lib.hid (((HDb.out.2.2.1.trans (Tch.nw g4'.out))).trans' ht6 (fun i hi e => by omega))
          have HBS := Lib.hid (And.intro hsb hbr)
          simp only [hdV]
          clear HS6 hd5 hr5 hql4 hbl hes hbr hsb hsc hdn4 hok4 hW4 hq4 hQ hb6 ht6 hal6
          go_wp2_with fail
          refine HS7.out.mono ?_
          rintro e y6 ⟨vi, l', rfl, _, hl', hto, _⟩
          have HF := Lib.hid (show AskD w o mb po n F l L xt xr txn m (.returned (.tuple #[.int .i64 (fre L), .bool gr, .int .i64 0])) y6 by
            unfold AskD
            rw [HBS.out.1, HBS.out.2]
            exact ⟨rfl, l', hl', DbTo.comp HDb.out.2.1 HTc.out hto⟩)
          clear hl' hto p0 p1 p2 p3 pz pl4
          go_wp2
          exact bodyPost_ret (v := .tuple #[.int .i64 (fre L), .bool gr, .int .i64 0]) (by simp [results, Tryz.results89, go_sem, *]) rfl HF.out
        · have hl0 : L.length ≤ liv L := Nat.le_of_not_lt (fun e => hf (fre_lvI.2 e))
          have hkl : tkL L = L := tkL_full hf
          have htk : tkR L = (0, 8) := if_neg hf
          rw [hkl] at HPt
          rw [htk]
          have HR := Lib.hid (askD_rejT HPt.out (show askBE n (hsP l) L xt xr txn m = 8 by rw [HX.out, if_pos (HFu.out.2 hl0)]) (show (8 : Int) ≠ 0 by decide))
          clear hf hl0 hkl htk hpt hal4 pl2
          go_wp2
          exact bodyPost_ret (v := .tuple #[.int .i64 0, .bool false, .int .i64 8]) (by simp [results, Tryz.results89, go_sem, *]) rfl HR.out
      · have j1 : ((ql : Int) == 0) = false := by simpa using hq0
        have j2 : (ql == 0) = false := by simpa using hq0
        clear hq0
        refine region_in (fun y => y = y1.drew) (by kernel_rfl) (by kernel_rfl) rfl ?_
        repeat (first | go_big_quiet_step (fail) | quiet_step (fail))
        refine wpQuiet_nil ?_
        intro d
        rw [d.h]
        clear d hle d1 d3 e1
        clear hne
        obtain ⟨y2, hy2⟩ : ∃ y2, y1.drew = y2 := ⟨_, rfl⟩
        have hal4 : y2.heap[pb]? = some (.cells #[.int .i64 xt, .int .i64 xr, .slice xq ql xc, .int .i64 xW] 63 (0, 0)) := by subst hy2; exact hal3
        have HN5 : Hid (Nw w y2) := by subst hy2; exact HDr
        have c2' : y2.cell? ⟨o, 2, none⟩ = some (.pointer (some ⟨po, 0, none⟩)) := by subst hy2; exact c2
        have pl2 := hlt hal4
        have hol2 : o < y2.heap.size := Nat.lt_of_lt_of_le hol HN5.out.sz
        rw [hy2]
        have HTk := Lib.hid (take_any (H.out.nw HN5.out).pol)
        clear hy2 hal3 c2 pl HDr
        go_wp2_with fail
        refine HTk.out.mono ?_
        rintro e y3 ⟨rfl, hpt⟩
        have HPt := Lib.hid (((H.out.nw HN5.out).pool hpt).pre HN5.out)
        by_cases hf : fre L < L.length
        · have hl0 : liv L < L.length := fre_lvI.1 hf
          have he0 : askBE n (hsP l) L xt xr txn m = 0 := by rw [HX.out, if_neg (fun e => by have := HFu.out.1 e; omega)]
          have htk : tkR L = (↑(fre L), 0) := if_pos hf
          rw [htk]
          obtain ⟨hke, hfl, hnn⟩ := ask_can HB.out he0
          have hhq : (hdB (hsP l) xt xr) = ⟨xt, xr, xW, q⟩ := HD.out.2.2.1.symm
          rw [hhq] at hke
          have hpbF : ¬ F pb := fun e => by have := H.out.pol.own _ e; omega
          obtain ⟨F1, hDb1, hF1, ht1, _⟩ := (H.out.nw HN5.out).pool hpt
          have hpF1 : ¬ F1 pb := fun e => (hF1 pb e).elim hpbF (fun q => by omega)
          have hy2s := HN5.out.sz
          have hpn : pb ≠ mb := by have := H.out.map.lt; omega
          have hal5 : y3.heap[pb]? = some (.cells #[.int .i64 xt, .int .i64 xr, .slice xq ql xc, .int .i64 xW] 63 (0, 0)) := by
            obtain ⟨_, _, _, ht⟩ := hpt
            exact (ht.block pb pl2 hpbF).trans hal4
          have hrd3 : RqAt y3 (.slice xq ql xc) q := by
            obtain ⟨_, _, _, ht⟩ := hpt
            refine rq_tchM (HRd.out.nw HN5.out) ht (fun a n c e hqe => ?_)
            simp only [Value.slice.injEq] at e
            exact HD.out.2.2.2.2.2.1 a e.1 hqe
          have p0 := hcell (j := 0) hal5
          have p1 := hcell (j := 1) hal5
          have p2 := hcell (j := 2) hal5
          have p3 := hcell (j := 3) hal5
          have pz := fun j => hfz (j := j) hal5
          have pl3 := hlt hal5
          have HA2 := Lib.hid (dAsk xt xr xW (fre L) txn m (.slice xq ql xc) q y3 (by have := HD.out.2.1; omega) hok hrd3)
          have hX2 : askR ⟨xt, xr, xW, q⟩ (fre L) txn m = (⟨xt, xr, (askQ xW q (fre L) txn m).1, (askQ xW q (fre L) txn m).2.1⟩, (askQ xW q (fre L) txn m).2.2, 0) := by unfold askR; rw [if_pos hke]
          rw [hX2] at HA2
          unfold hdV at HA2
          have HK := Lib.hid (And.intro hke (And.intro hfl (And.intro hnn (And.intro he0 hhq))))
          have HDb := Lib.hid (And.intro hDb1 (And.intro (show ∀ k, F1 k → F k ∨ w.heap.size ≤ k from fun k e => (hF1 k e).imp id (fun q => by omega)) (And.intro (show Tch (fun b => b = mb ∨ F b) w y3 from (Tch.nw HN5.out).trans ht1) (And.intro hpF1 hpn))))
          clear hke hfl hnn he0 hhq hX2 hDb1 hF1 ht1 hpt hpbF hpn htk hl0 hal4 pl2 c2' HTk hf
          have hsz3 : w.heap.size ≤ y3.heap.size := HDb.out.2.2.1.size
          have hpl3 : pb < y3.heap.size := pl3
          go_wp2_with fail
          refine HA2.out.mono ?_
          rintro e y4 ⟨v4, rfl, g4, rd4, cap4, fr4⟩
          obtain ⟨a4, c4, hv4⟩ := rd4.form
          have HRd4 := Lib.hid rd4
          have hal6 := g4.at' hal5
          have g4' := Lib.hid g4
          simp only at HRd4 hv4 ⊢
          generalize hQ : askQ xW q (fre L) txn m = Q at *
          obtain ⟨W4, q4, gr⟩ := Q
          simp only at HRd4 hv4 ⊢
          obtain ⟨q4l, hq4l⟩ : ∃ n, q4.length = n := ⟨_, rfl⟩
          rw [hq4l] at hv4
          subst hv4
          have HFr := Lib.hid fr4
          clear p0 p1 p2 p3 pz pl3 rd4 cap4 fr4 hal5
          have p0 := hcell (j := 0) hal6
          have p1 := hcell (j := 1) hal6
          have p2 := hcell (j := 2) hal6
          have p3 := hcell (j := 3) hal6
          have pz := fun j => hfz (j := j) hal6
          have pl4 := hlt hal6
          have hb6 := bxp_put hal6 (.int .i64 xt) (.int .i64 xr) (.slice a4 q4l c4) (.int .i64 W4)
          have ht6 := bxp_tch y4 pb (.int .i64 xt) (.int .i64 xr) (.slice a4 q4l c4) (.int .i64 W4)
          have hq4 : q4 ≠ [] := by have := ask_ne xW q (fre L) txn m; rw [hQ] at this; exact this
          have hW4 := HD.out.2.2.2.2.2.2.2
          have hok4 : Ok W4 q4 := by have := ok_ask hok (fre L) txn m HK.out.1 (by omega); rw [hQ] at this; exact this
          have hdn4 : Done q4 := by have := done_ask hok HD.out.1.done (fre L) txn m HK.out.1; rw [hQ] at this; exact this
          have hsc : scanQ q4 = ([], q4) := scan_done hdn4
          have hsb : askBS n (hsP l) L xt xr txn m = (putH (hsP l) ⟨xt, xr, W4, q4⟩, tkL L) := by
            unfold askBS askH
            rw [if_pos HK.out.2.2.2.1, HK.out.2.2.2.2]
            simp only
            rw [hQ]
          have hbr : askBR n (hsP l) L xt xr txn m = (↑(fre L), gr, 0) := by
            unfold askBR
            rw [if_pos HK.out.2.2.2.1, HK.out.2.2.2.2]
            simp only
            rw [hQ]
          have hes : endS (hsP l) ⟨xt, xr, W4, q4⟩ = putH (hsP l) ⟨xt, xr, W4, q4⟩ := by
            unfold endS scH
            simp only
            rw [hsc]
            simp only
            rw [if_neg hq4]
          have hbl := (binv_ask HB.out (by omega) xt xr txn m).len
          rw [hsb] at hbl
          simp only at hbl
          have hql4 : q4.length ≤ 1000 := by
            have := HD.out.2.1
            have e := congrArg (fun z => z.2.1.length) hQ
            simp only at e
            rw [← e]
            unfold askQ
            split <;> simp <;> omega
          have HS6 := Lib.hid (fun y5 (hd : Db y5 o mb po n l (tkL L) F1) (hr : RqAt y5 (.slice a4 q4l c4) q4) => settle_any hd xt xr W4 (.slice a4 q4l c4) q4 wa hql4 hok4 hr (by rw [hes]; omega))
          rw [hes, hsc] at HS6
          have hd5 : Db ((((y4.setCell ⟨pb, 0, none⟩ (.int .i64 xt)).setCell ⟨pb, 1, none⟩ (.int .i64 xr)).setCell ⟨pb, 2, none⟩ (.slice a4 q4l c4)).setCell ⟨pb, 3, none⟩ (.int .i64 W4)) o mb po n l (tkL L) F1 := by
            refine (HDb.out.1.nw g4'.out).tch ht6 (fun e => by omega) (fun e => HDb.out.2.2.2.2 e.symm) (fun k e q => HDb.out.2.2.2.1 (q ▸ e)) (fun x hx => ⟨fun e => ?_, fun b e hq e2 => ?_⟩)
            · have := (H.out.ok x hx).lt; omega
            · obtain ⟨a', c', e1, ⟨q1, _⟩ | ⟨b', o', e3, hc⟩⟩ := (H.out.ok x hx).rd
              · exact hq q1
              · unfold hpV at e1
                rw [e, e3] at e1
                injection e1 with e1 _ _
                injection e1 with e1
                subst e1
                have := hc.lt
                have e4 : (⟨b', o', none⟩ : Addr).block = b' := rfl
                omega
          have hr5 : RqAt ((((y4.setCell ⟨pb, 0, none⟩ (.int .i64 xt)).setCell ⟨pb, 1, none⟩ (.int .i64 xr)).setCell ⟨pb, 2, none⟩ (.slice a4 q4l c4)).setCell ⟨pb, 3, none⟩ (.int .i64 W4)) (.slice a4 q4l c4) q4 := by
            refine rq_tchM HRd4.out ht6 (fun a n' c e hqe e2 => ?_)
            obtain ⟨a', c', e1, ⟨q1, _⟩ | ⟨b', o', e3, hc⟩⟩ := HRd4.out
            · exact hqe q1
            · rw [e1, e3] at e
              simp only [Value.slice.injEq, Option.some.injEq] at e
              obtain ⟨rfl, _, _⟩ := e
              rw [e3] at e1
              rcases HFr.out b' o' _ _ e1 with q2 | q2
              · have : b' = pb := e2
                omega
              · exact hqe q2
          have HS7 := Lib.hid (HS6.out _ hd5 hr5)
          have HDt := Lib.hid (show DbTo w o mb po n F l ((((y4.setCell ⟨pb, 0, none⟩ (.int .i64 xt)).setCell ⟨pb, 1, none⟩ (.int .i64 xr)).setCell ⟨pb, 2, none⟩ (.slice a4 q4l c4)).setCell ⟨pb, 3, none⟩ (.int .i64 W4)) l (tkL L) from
            ⟨F1, hd5, HDb.out.2.1, ((HDb.out.2.2.1.trans (Tch.nw g4'.out))).trans' ht6 (fun i hi e => by omega), HdN.refl w l⟩)
          have HTc := Lib.hid (((HDb.out.2.2.1.trans (Tch.nw g4'.out))).trans' ht6 (fun i hi e => by omega))
          have HBS := Lib.hid (And.intro hsb hbr)
          simp only [hdV]
          clear HS6 hd5 hr5 hql4 hbl hes hbr hsb hsc hdn4 hok4 hW4 hq4 hQ hb6 ht6 hal6
          go_wp2_with fail
          refine HS7.out.mono ?_
          rintro e y6 ⟨vi, l', rfl, _, hl', hto, _⟩
          have HF := Lib.hid (show AskD w o mb po n F l L xt xr txn m (.returned (.tuple #[.int .i64 (fre L), .bool gr, .int .i64 0])) y6 by
            unfold AskD
            rw [HBS.out.1, HBS.out.2]
            exact ⟨rfl, l', hl', DbTo.comp HDb.out.2.1 HTc.out hto⟩)
          clear hl' hto p0 p1 p2 p3 pz pl4
          go_wp2
          exact bodyPost_ret (v := .tuple #[.int .i64 (fre L), .bool gr, .int .i64 0]) (by simp [results, Tryz.results89, go_sem, *]) rfl HF.out
        · have hl0 : L.length ≤ liv L := Nat.le_of_not_lt (fun e => hf (fre_lvI.2 e))
          have hkl : tkL L = L := tkL_full hf
          have htk : tkR L = (0, 8) := if_neg hf
          rw [hkl] at HPt
          rw [htk]
          have HR := Lib.hid (askD_rejT HPt.out (show askBE n (hsP l) L xt xr txn m = 8 by rw [HX.out, if_pos (HFu.out.2 hl0)]) (show (8 : Int) ≠ 0 by decide))
          clear hf hl0 hkl htk hpt hal4 pl2
          go_wp2
          exact bodyPost_ret (v := .tuple #[.int .i64 0, .bool false, .int .i64 8]) (by simp [results, Tryz.results89, go_sem, *]) rfl HR.out
  · have hne : (E1 != 0) = true := by simpa using he1
    have hne2 : (E1 == 0) = false := by simpa using he1
    have HR := Lib.hid (askD_rej (t := xt) (r := xr) (txn := txn) (m := m) H.out (HN3.out.alloc (.cells #[.int .i64 X1.t, .int .i64 X1.r, .slice av nv cv, .int .i64 X1.W] 63)) (show askBE n (hsP l) L xt xr txn m = E1 by
      unfold askBE
      rw [← HE.out]
      have := HE.out
      by_cases hb : badM m
      · rw [if_pos hb, if_pos hb]
      · rw [if_neg hb] at this ⊢
        rw [if_neg hb]
        by_cases ht : twB (hsP l) xt xr txn = true
        · rw [if_pos ht, if_pos ht]
        · rw [if_neg ht] at this; exact absurd this.symm he1) he1)
    clear hE hal2
    go_wp2
    exact bodyPost_ret (v := .tuple #[.int .i64 0, .bool false, .int .i64 E1]) (by simp [results, Tryz.results89, go_sem, *]) rfl HR.out
end Go.Proofs.YtpffldfpabglbaaGreatDoor
end

/- end: Leave and Abandon. -/
section
namespace Go.Proofs.YtpffldfpabglbaaGreatDoor
open Go.RowKit Go.Shelf
set_option linter.unusedVariables false      -- a contract need not use every name

/-- A box that is new does not lie in the bucket. -/
theorem Db.box {w w1 w2 : World} {o mb po n : Nat} {l : List Hp} {L L1 : List Bool} {F F1 : Nat → Prop} (h : Db w o mb po n l L F) (h1 : Db w1 o mb po n l L1 F1) {pb : Nat} (hpb : w.heap.size ≤ pb) (hF : ¬ F1 pb) (t : Tch (fun b => b = pb) w1 w2) : Db w2 o mb po n l L1 F1 := by
  have hol := h.ol
  have hml := h.map.lt
  refine h1.tch t (fun e => by omega) (fun e => by omega) (fun k e q => hF (q ▸ e)) (fun x hx => ⟨fun e => ?_, fun b e hq e2 => ?_⟩)
  · have := (h.ok x hx).lt; omega
  · obtain ⟨a', c', e1, ⟨q1, _⟩ | ⟨b', o', e3, hc⟩⟩ := (h.ok x hx).rd
    · exact hq q1
    · unfold hpV at e1
      rw [e, e3] at e1
      injection e1 with e1 _ _
      injection e1 with e1
      subst e1
      have := hc.lt
      have e4 : (⟨b', o', none⟩ : Addr).block = b' := rfl
      omega
theorem wth_some {l : List Hp} {id : Int} {x : Hp} (e : whP l id = some x) : wthP l id = x ∧ x ∈ l ∧ ∃ r, fnd x.h.q id = some r := by
  refine ⟨by unfold wthP; rw [e]; rfl, List.mem_of_find?_eq_some e, ?_⟩
  have := List.find?_some e
  exact Option.isSome_iff_exists.1 this
theorem wth_none {l : List Hp} {id : Int} (e : whP l id = none) : wthP l id = zeroHp := by unfold wthP; rw [e]; rfl
theorem wth_rd {w : World} {o mb po n : Nat} {l : List Hp} {L : List Bool} {F : Nat → Prop} (h : Db w o mb po n l L F) (id : Int) : RqAt w (hpV (wthP l id)) (wthP l id).h.q := by
  cases e : whP l id with
  | none => rw [wth_none e]; exact Rd.nil w
  | some x => rw [(wth_some e).1]; exact (h.ok x (wth_some e).2.1).rd
theorem wth_ok {n k : Nat} {l : List Hp} {L : List Bool} {X : List Int} (b : BInv n k (hsP l) X L) (id : Int) : HInv (wthP l id).h ∧ (wthP l id).h.W ≤ k ∧ (wthP l id).h.q.length ≤ k := by
  cases e : whP l id with
  | none => rw [wth_none e]; exact ⟨inv_nil 0 0, by show (0 : Int) ≤ (k : Int); omega, Nat.zero_le _⟩
  | some x =>
    rw [(wth_some e).1]
    have hm : x.h ∈ hsP l := List.mem_map.2 ⟨x, (wth_some e).2.1, rfl⟩
    exact ⟨b.inv _ hm, b.wt _ hm, b.ql _ hm⟩
/-- What end comes to. -/
def EndD (w : World) (o mb po n : Nat) (F : Nat → Prop) (l : List Hp) (L : List Bool) (id : Int) (X : Hq) (E : Int) (e : Ending) (w' : World) : Prop :=
  (E ≠ 0 → e = .returned (.tuple #[.slice none 0 0, .int .i64 E]) ∧ Nw w w') ∧
  (E = 0 → ∃ vi l', e = .returned (.tuple #[vi, .int .i64 0]) ∧ IS w' vi (scanQ X.q).1 ∧ hsP l' = endS (hsP l) X ∧ DbTo w o mb po n F l w' l' (if (fnd X.q id).isSome = true then L else gvL L id) ∧ ∀ b, vi.ownBlock = some b → w.heap.size ≤ b)
set_option maxRecDepth 20000 in
set_option maxHeartbeats 4000000 in
theorem end_d {w : World} {o mb po n : Nat} {l : List Hp} {L : List Bool} {F : Nat → Prop} (h : Db w o mb po n l L F) (id : Int) (g : Nat) (eg : ∀ args w, (callFunc g args).run Tryz.prog w = .ok (.enter g args) w) (X : Hq) (E : Int)
    (hC : ∀ w1, Nw w w1 → Calls Tryz.prog g #[hpH (wthP l id), .int .i64 id] w1 (HD1 (X, E) w1))
    (hX : E = 0 → wfN (X.t, X.r) ∧ X.q.length ≤ 1000 ∧ Ok X.W X.q ∧ (endS (hsP l) X).length ≤ 64) :
    Calls Tryz.prog 131 #[.pointer (some ⟨o, 0, none⟩), .int .i64 id, .func (.func g) #[] #[]] w (EndD w o mb po n F l L id X E) := by
  have H := Lib.hid h
  have hol := h.ol
  have HMd := Lib.hid (bmade_yes o w h.c0)
  have HWi := Lib.hid (with_any h id)
  have HC := Lib.hid hC
  have HX := Lib.hid hX
  obtain ⟨V, hV⟩ : ∃ V, hpH (wthP l id) = V := ⟨_, rfl⟩
  rw [hV] at HWi HC
  have hVa : ∃ c, V = .agg c := ⟨_, hV.symm⟩
  clear h hC hX hV
  obtain ⟨cs, rfl⟩ := hVa
  go_enter Tryz.func131, Tryz.ntmps131
  go_wp2_with fail
  refine HMd.out.mono ?_
  rintro e w' ⟨rfl, rfl⟩
  go_wp2_with fail
  refine HWi.out.mono ?_
  rintro e w1 ⟨rfl, g1⟩
  go_wp2_with fail
  refine (HC.out _ g1).mono ?_
  rintro e w2 ⟨v2, rfl, g2, rd2, cap2, fr2⟩
  obtain ⟨a2, c2, hv2⟩ := rd2.form
  obtain ⟨q2l, hq2⟩ : ∃ q2l, X.q.length = q2l := ⟨_, rfl⟩
  simp only at hv2 rd2
  rw [hq2] at hv2
  subst hv2
  have HG := Lib.hid (g1.trans g2)
  have HRd := Lib.hid (And.intro rd2 (And.intro fr2 (And.intro hq2 g1)))
  obtain ⟨Xt, Xr, XW, Xq⟩ := X
  simp only [hdV]
  clear g1 g2 rd2 cap2 fr2 hq2
  by_cases he : E = 0
  · subst he
    obtain ⟨hwa, hxl, hxo, hxe⟩ := HX.out rfl
    simp only at hwa hxl hxo hxe
    obtain ⟨y1, hy1⟩ : ∃ y1, w2.alloc (.cells #[.int .i64 Xt, .int .i64 Xr, .slice a2 q2l c2, .int .i64 XW] 63) = y1 := ⟨_, rfl⟩
    have hal := allocAt w2 (.cells #[.int .i64 Xt, .int .i64 Xr, .slice a2 q2l c2, .int .i64 XW] 63)
    rw [hy1] at hal
    have g3 : Nw w2 y1 := by rw [← hy1]; exact (Nw.refl w2).alloc _
    have hrd := HRd.out.1.nw g3
    have HFi := Lib.hid (fun w3 (g : Nw y1 w3) => dFindQ Xt Xr XW id (.slice a2 q2l c2) Xq w3 hxl (hrd.nw g))
    obtain ⟨b0, b1, b2, b3, b4, hv, _⟩ := fndV_eq Xq id
    rw [hv] at HFi
    unfold hdV at HFi
    obtain ⟨yb, hyb⟩ : ∃ yb, (fnd Xq id).isSome = yb := ⟨_, rfl⟩
    rw [hyb] at HFi
    have HY := Lib.hid hy1
    have HG1 := Lib.hid (HG.out.trans g3)
    have HXx := Lib.hid (And.intro hwa (And.intro hxl (And.intro hxo (And.intro hxe hyb))))
    have hpb : w.heap.size ≤ w2.heap.size := HG.out.sz
    clear hy1 g3 hv hwa hxl hxo hxe hyb
    go_wp2_with fail
    rw [HY.out]
    refine (HFi.out _ (Nw.refl _)).mono ?_
    rintro e y2 ⟨rfl, g4⟩
    obtain ⟨y3, hy3⟩ : ∃ y3, y2.alloc (.cells #[.int .i64 b0, .int .i64 b1, .int .i64 b2, .int .i64 b3, .int .i64 b4] 50) = y3 := ⟨_, rfl⟩
    have g5 : Nw y2 y3 := by rw [← hy3]; exact (Nw.refl y2).alloc _
    have HY3 := Lib.hid hy3
    have hal3 := (g4.trans g5).at' hal
    have hrd3 := hrd.nw (g4.trans g5)
    have HG3 := Lib.hid (HG1.out.trans (g4.trans g5))
    have hbl : w2.heap.size < y3.heap.size := hlt hal3
    have hal2 := g4.at' hal
    have HG2 := Lib.hid (HG1.out.trans g4)
    clear hy3 hal hrd HFi HY
    generalize w2.heap.size = pb at *
    have c2' := (H.out.nw HG2.out).c2
    have hol3 : o < y2.heap.size := Nat.lt_of_lt_of_le hol HG2.out.sz
    have p0 := hcell (j := 0) hal2
    have p1 := hcell (j := 1) hal2
    have p2 := hcell (j := 2) hal2
    have p3 := hcell (j := 3) hal2
    have pl2 := hlt hal2
    clear hal2
    have hes := HXx.out.2.2.2.1
    cases yb
    · have HGv := Lib.hid (give_any (H.out.nw HG3.out).pol id)
      go_wp2_with fail
      rw [HY3.out]
      refine HGv.out.mono ?_
      rintro e y4 ⟨rfl, hpt⟩
      obtain ⟨F1, hDb1, hF1, ht1, _⟩ := (H.out.nw HG3.out).pool hpt
      have hpbF : ¬ F pb := fun e => by have := H.out.pol.own _ e; omega
      obtain ⟨_, _, _, hpt'⟩ := hpt
      have hal4 := (hpt'.block pb hbl hpbF).trans hal3
      have hrd4 : RqAt y4 (.slice a2 q2l c2) Xq := rq_tchM hrd3 hpt' (fun a n c e hqe e2 => by
        simp only [Value.slice.injEq] at e
        obtain ⟨rfl, rfl, rfl⟩ := e
        obtain ⟨a', c', e1, ⟨q1, _⟩ | ⟨b', o', e3, _⟩⟩ := HRd.out.1
        · exact hqe q1
        · rw [e3] at e1
          injection e1 with e1 _ _
          injection e1 with e1
          subst e1
          rcases HRd.out.2.1 b' o' _ _ rfl with q2 | q2
          · have := H.out.pol.own _ e2
            have := HRd.out.2.2.2.sz
            have e4 : (⟨b', o', none⟩ : Addr).block = b' := rfl
            omega
          · exact hqe q2)
      have HS := Lib.hid (settle_any hDb1 Xt Xr XW (.slice a2 q2l c2) Xq HXx.out.1 HXx.out.2.1 HXx.out.2.2.1 hrd4 hes)
      have HK := Lib.hid (And.intro (show ∀ k, F1 k → F k ∨ w.heap.size ≤ k from fun k e => (hF1 k e).imp (fun q => q) (fun q => by have := HG3.out.sz; omega)) (show Tch (fun b => b = mb ∨ F b) w y4 from (Tch.nw HG3.out).trans ht1))
      have hys : w.heap.size ≤ y4.heap.size := HK.out.2.size
      have p0 := hcell (j := 0) hal4
      have p1 := hcell (j := 1) hal4
      have p2 := hcell (j := 2) hal4
      have p3 := hcell (j := 3) hal4
      have pl4 := hlt hal4
      clear hal3 hal4 hDb1 hF1 ht1 hpt' hpbF hrd4 hrd3 hes c2'
      go_wp2_with fail
      refine HS.out.mono ?_
      rintro e y5 ⟨vi, l', rfl, his, hl', hto, hin⟩
      have HR := Lib.hid (show EndD w o mb po n F l L id ⟨Xt, Xr, XW, Xq⟩ 0 (.returned (.tuple #[vi, .int .i64 0])) y5 from ⟨fun e => absurd rfl e, fun _ => ⟨vi, l', rfl, his, hl', by rw [if_neg (by rw [HXx.out.2.2.2.2]; simp)]; exact DbTo.comp HK.out.1 HK.out.2 hto, fun b e => Nat.le_trans hys (hin b e)⟩⟩)
      clear his hl' hto hin p0 p1 p2 p3
      go_wp2
      exact bodyPost_ret (v := .tuple #[vi, .int .i64 0]) (by simp [results, Tryz.results131, go_sem, *]) rfl HR.out
    · have HS := Lib.hid (settle_any (H.out.nw HG3.out) Xt Xr XW (.slice a2 q2l c2) Xq HXx.out.1 HXx.out.2.1 HXx.out.2.2.1 hrd3 hes)
      clear hal3 hrd3 hes c2'
      go_wp2_with fail
      rw [HY3.out]
      refine HS.out.mono ?_
      rintro e y5 ⟨vi, l', rfl, his, hl', hto, hin⟩
      have hys : w.heap.size ≤ y3.heap.size := HG3.out.sz
      have HR := Lib.hid (show EndD w o mb po n F l L id ⟨Xt, Xr, XW, Xq⟩ 0 (.returned (.tuple #[vi, .int .i64 0])) y5 from ⟨fun e => absurd rfl e, fun _ => ⟨vi, l', rfl, his, hl', by rw [if_pos (by rw [HXx.out.2.2.2.2])]; exact hto.pre HG3.out, fun b e => Nat.le_trans hys (hin b e)⟩⟩)
      clear his hl' hto hin p0 p1 p2 p3
      go_wp2
      exact bodyPost_ret (v := .tuple #[vi, .int .i64 0]) (by simp [results, Tryz.results131, go_sem, *]) rfl HR.out
  · have hne : (E != 0) = true := by simpa using he
    have hne2 : (E == 0) = false := by simpa using he
    have HR := Lib.hid (HG.out.alloc (.cells #[.int .i64 Xt, .int .i64 Xr, .slice a2 q2l c2, .int .i64 XW] 63))
    have HE := Lib.hid he
    clear he
    go_wp2
    exact bodyPost_ret (v := .tuple #[.slice none 0 0, .int .i64 E]) (by simp [results, Tryz.results131, go_sem, *]) rfl (show EndD w o mb po n F l L id ⟨Xt, Xr, XW, Xq⟩ E _ _ from ⟨fun _ => ⟨rfl, HR.out⟩, fun e => absurd e HE.out⟩)
end Go.Proofs.YtpffldfpabglbaaGreatDoor
end

/- Leave and Abandon, in plain words. -/
section
namespace Go.Proofs.YtpffldfpabglbaaGreatDoor
open Go.RowKit Go.Shelf
set_option linter.unusedVariables false      -- a contract need not use every name

theorem abd_found {q : List Rq} {id : Int} {r : Rq} (hf : fnd q id = some r) : (fnd (abQ r q) id).isSome = !decide (r.md = 0) := by
  obtain ⟨hr, hi⟩ := fnd_is hf
  unfold abQ
  by_cases hm : r.md = 0
  · rw [if_pos hm]
    have : fnd (lvQ r.id q) id = none := by
      refine List.find?_eq_none.2 fun x hx => ?_
      have := (List.mem_filter.1 hx).2
      rw [← hi]
      simpa using this
    rw [this]
    simp [hm]
  · rw [if_neg hm]
    have : (fnd (chg abR r.id q) id).isSome = true := by
      unfold fnd
      rw [List.find?_isSome]
      exact ⟨abR r, List.mem_map.2 ⟨r, hr, if_pos rfl⟩, by simp [abR, hi]⟩
    rw [this]
    simp [hm]
theorem lv_gone (q : List Rq) (id : Int) : fnd (lvQ id q) id = none := by
  unfold fnd lvQ
  rw [List.find?_eq_none]
  intro x hx
  have := (List.mem_filter.1 hx).2
  simpa using this
/-- What Leave and Abandon come to. -/
def OutD (w : World) (o mb po n : Nat) (F : Nat → Prop) (l : List Hp) (R : List Int × Int) (S : List Hq × List Bool) (e : Ending) (w' : World) : Prop :=
  ∃ vi l', e = .returned (.tuple #[vi, .int .i64 R.2]) ∧ IS w' vi R.1 ∧ hsP l' = S.1 ∧ DbTo w o mb po n F l w' l' S.2 ∧ ∀ b, vi.ownBlock = some b → w.heap.size ≤ b
theorem wth_of (l : List Hp) (id : Int) : ofId (hsP l) id = (whP l id).map Hp.h := of_map l id
theorem e_leave : ∀ args w, (callFunc 132 args).run Tryz.prog w = .ok (.enter 132 args) w := enters_of Tryz.func132 (by kernel_rfl) rfl
theorem e_abandon : ∀ args w, (callFunc 140 args).run Tryz.prog w = .ok (.enter 140 args) w := enters_of Tryz.func140 (by kernel_rfl) rfl
theorem leave_d {w : World} {o mb po n k : Nat} {l : List Hp} {L : List Bool} {F : Nat → Prop} (h : Db w o mb po n l L F) {X : List Int} (b : BInv n k (hsP l) X L) (hk : k ≤ 800) (hn : n ≤ 64) (id : Int) :
    Calls Tryz.prog 91 #[.pointer (some ⟨o, 0, none⟩), .int .i64 id] w (OutD w o mb po n F l (lvBR (hsP l) id) (lvBS (hsP l) L id)) := by
  obtain ⟨hi, hW, hql⟩ := wth_ok b id
  have hbl := (binv_lv b id).len
  obtain ⟨X, hX⟩ : ∃ X, lvR (wthP l id).h id = X := ⟨_, rfl⟩
  have hC := fun w1 (g : Nw w w1) => dLeave (wthP l id).h.t (wthP l id).h.r (wthP l id).h.W id (hpV (wthP l id)) (wthP l id).h.q w1 (by omega) ((wth_rd h id).nw g)
  rw [show (⟨(wthP l id).h.t, (wthP l id).h.r, (wthP l id).h.W, (wthP l id).h.q⟩ : Hq) = (wthP l id).h from rfl, hX] at hC
  have key : (X.2 = 0 → wfN (X.1.t, X.1.r) ∧ X.1.q.length ≤ 1000 ∧ Ok X.1.W X.1.q ∧ (endS (hsP l) X.1).length ≤ 64) ∧ ((X.2 = 5 ∧ lvBR (hsP l) id = ([], 5) ∧ lvBS (hsP l) L id = (hsP l, L)) ∨ (X.2 = 0 ∧ lvBR (hsP l) id = ((scanQ X.1.q).1, 0) ∧ lvBS (hsP l) L id = (endS (hsP l) X.1, gvL L id) ∧ (fnd X.1.q id).isSome = false)) := by
    cases e : whP l id with
    | none =>
      have e0 : X = (noH, 5) := by rw [← hX, wth_none e]; rfl
      have e1 : ofId (hsP l) id = none := by rw [wth_of, e]; rfl
      subst e0
      exact ⟨fun q => (by cases q), .inl ⟨rfl, by unfold lvBR; rw [e1], by unfold lvBS; rw [e1]⟩⟩
    | some x =>
      obtain ⟨ex, hx, r, hr⟩ := wth_some e
      have e1 : ofId (hsP l) id = some x.h := by rw [wth_of, e]; rfl
      have e0 : X = (⟨x.h.t, x.h.r, x.h.W, lvQ id x.h.q⟩, 0) := by rw [← hX, ex]; unfold lvR; rw [hr]
      rw [ex] at hi hW hql
      subst e0
      have hS : lvBS (hsP l) L id = (endS (hsP l) ⟨x.h.t, x.h.r, x.h.W, lvQ id x.h.q⟩, gvL L id) := by unfold lvBS; rw [e1]
      rw [hS] at hbl
      simp only at hbl
      exact ⟨fun _ => ⟨h.map.wf x hx, by have := lvQ_len id x.h.q; simp only; omega, ok_lv hi.ok id, by simp only; omega⟩, .inr ⟨rfl, by unfold lvBR; rw [e1], hS, by simp only; rw [lv_gone]; rfl⟩⟩
  have HDB := Lib.hid h
  have HE := Lib.hid (end_d h id 132 e_leave X.1 X.2 hC key.1)
  have HK := Lib.hid key.2
  clear hC key hbl hi hW hql hX h b
  go_enter Tryz.func91, Tryz.ntmps91
  go_wp2_with fail
  refine HE.out.mono ?_
  rintro e w' ⟨h1, h2⟩
  rcases HK.out with ⟨k1, k2, k3⟩ | ⟨k1, k2, k3, k4⟩
  · obtain ⟨rfl, g⟩ := h1 (by rw [k1]; decide)
    have HR := Lib.hid (And.intro k2 (And.intro k3 g))
    rw [k1]
    clear h1 h2 k2 k3 g
    go_wp2
    refine bodyPost_ret (v := .tuple #[.slice none 0 0, .int .i64 5]) (by simp [results, Tryz.results91, go_sem, *]) rfl ?_
    unfold OutD
    rw [HR.out.1, HR.out.2.1]
    exact ⟨_, l, rfl, IS.nil _, rfl, HDB.out.to HR.out.2.2, fun b e => by cases e⟩
  · obtain ⟨vi, l', rfl, his, hl', hto, hin⟩ := h2 k1
    have HR := Lib.hid (And.intro k2 (And.intro k3 (And.intro his (And.intro hl' (And.intro hto (And.intro hin k4))))))
    clear h1 h2 k2 k3 k4 his hl' hto hin
    go_wp2
    refine bodyPost_ret (v := .tuple #[vi, .int .i64 0]) (by simp [results, Tryz.results91, go_sem, *]) rfl ?_
    unfold OutD
    rw [HR.out.1, HR.out.2.1]
    exact ⟨_, l', rfl, HR.out.2.2.1, HR.out.2.2.2.1, by have := HR.out.2.2.2.2.1; rw [if_neg (by rw [HR.out.2.2.2.2.2.2]; simp)] at this; exact this, HR.out.2.2.2.2.2.1⟩
theorem abandon_d {w : World} {o mb po n k : Nat} {l : List Hp} {L : List Bool} {F : Nat → Prop} (h : Db w o mb po n l L F) {X : List Int} (b : BInv n k (hsP l) X L) (hk : k ≤ 800) (hn : n ≤ 64) (id : Int) :
    Calls Tryz.prog 99 #[.pointer (some ⟨o, 0, none⟩), .int .i64 id] w (OutD w o mb po n F l (abBR (hsP l) id) (abBS (hsP l) L id)) := by
  obtain ⟨hi, hW, hql⟩ := wth_ok b id
  have hbl := (binv_ab b id).len
  obtain ⟨X, hX⟩ : ∃ X, abRes (wthP l id).h id = X := ⟨_, rfl⟩
  have hC := fun w1 (g : Nw w w1) => dAbandon (wthP l id).h.t (wthP l id).h.r (wthP l id).h.W id (hpV (wthP l id)) (wthP l id).h.q w1 (by omega) hi.ok ((wth_rd h id).nw g)
  rw [show (⟨(wthP l id).h.t, (wthP l id).h.r, (wthP l id).h.W, (wthP l id).h.q⟩ : Hq) = (wthP l id).h from rfl, hX] at hC
  have key : (X.2 = 0 → wfN (X.1.t, X.1.r) ∧ X.1.q.length ≤ 1000 ∧ Ok X.1.W X.1.q ∧ (endS (hsP l) X.1).length ≤ 64) ∧ ((X.2 ≠ 0 ∧ abBR (hsP l) id = ([], X.2) ∧ abBS (hsP l) L id = (hsP l, L)) ∨ (X.2 = 0 ∧ abBR (hsP l) id = ((scanQ X.1.q).1, 0) ∧ abBS (hsP l) L id = (endS (hsP l) X.1, if (fnd X.1.q id).isSome = true then L else gvL L id))) := by
    cases e : whP l id with
    | none =>
      have e0 : X = (noH, 5) := by rw [← hX, wth_none e]; rfl
      have e1 : ofId (hsP l) id = none := by rw [wth_of, e]; rfl
      subst e0
      exact ⟨fun q => (by cases q), .inl ⟨by decide, by unfold abBR; rw [e1], by unfold abBS; rw [e1]⟩⟩
    | some x =>
      obtain ⟨ex, hx, r, hr⟩ := wth_some e
      have e1 : ofId (hsP l) id = some x.h := by rw [wth_of, e]; rfl
      have er := rqB_of hr
      rw [ex] at hi hW hql
      by_cases hsn : 0 < r.sn
      · have e0 : X = (⟨x.h.t, x.h.r, x.h.W, abQ r x.h.q⟩, 0) := by rw [← hX, ex]; unfold abRes; rw [hr]; simp only; rw [if_pos hsn]
        subst e0
        have hf := abd_found hr
        have hS : abBS (hsP l) L id = (endS (hsP l) ⟨x.h.t, x.h.r, x.h.W, abQ r x.h.q⟩, if (fnd (abQ r x.h.q) id).isSome = true then L else gvL L id) := by
          unfold abBS
          rw [e1]
          simp only [er]
          rw [if_pos hsn, hf]
          by_cases hm : r.md = 0 <;> simp [hm]
        rw [hS] at hbl
        simp only at hbl
        exact ⟨fun _ => ⟨h.map.wf x hx, by have := abQ_len r x.h.q; simp only; omega, ok_ab hi.ok r (fndI hr).1, by simp only; omega⟩, .inr ⟨rfl, by unfold abBR; rw [e1]; simp only [er]; rw [if_pos hsn], hS⟩⟩
      · have e0 : X = (noH, 7) := by rw [← hX, ex]; unfold abRes; rw [hr]; simp only; rw [if_neg hsn]
        subst e0
        exact ⟨fun q => (by cases q), .inl ⟨by decide, by unfold abBR; rw [e1]; simp only [er]; rw [if_neg hsn], by unfold abBS; rw [e1]; simp only [er]; rw [if_neg hsn]⟩⟩
  have HDB := Lib.hid h
  have HE := Lib.hid (end_d h id 140 e_abandon X.1 X.2 hC key.1)
  have HK := Lib.hid key.2
  clear hC key hbl hi hW hql hX h b
  go_enter Tryz.func99, Tryz.ntmps99
  go_wp2_with fail
  refine HE.out.mono ?_
  rintro e w' ⟨h1, h2⟩
  rcases HK.out with ⟨k1, k2, k3⟩ | ⟨k1, k2, k3⟩
  · obtain ⟨rfl, g⟩ := h1 k1
    have HR := Lib.hid (And.intro k2 (And.intro k3 g))
    generalize X.2 = E at *
    clear h1 h2 k1 k2 k3 g
    go_wp2
    refine bodyPost_ret (v := .tuple #[.slice none 0 0, .int .i64 E]) (by simp [results, Tryz.results99, go_sem, *]) rfl ?_
    unfold OutD
    rw [HR.out.1, HR.out.2.1]
    exact ⟨_, l, rfl, IS.nil _, rfl, HDB.out.to HR.out.2.2, fun b e => by cases e⟩
  · obtain ⟨vi, l', rfl, his, hl', hto, hin⟩ := h2 k1
    have HR := Lib.hid (And.intro k2 (And.intro k3 (And.intro his (And.intro hl' (And.intro hto hin)))))
    clear h1 h2 k2 k3 his hl' hto hin
    go_wp2
    refine bodyPost_ret (v := .tuple #[vi, .int .i64 0]) (by simp [results, Tryz.results99, go_sem, *]) rfl ?_
    unfold OutD
    rw [HR.out.1, HR.out.2.1]
    exact ⟨_, l', rfl, HR.out.2.2.1, HR.out.2.2.2.1, HR.out.2.2.2.2.1, HR.out.2.2.2.2.2⟩
end Go.Proofs.YtpffldfpabglbaaGreatDoor
end

/- The developers' package queue: Hand. -/
section
namespace Go.Proofs.YtpffldfpabglbaaGreatDoor
open Go.RowKit
set_option linter.unusedVariables false      -- a contract need not use every name

theorem hn_plc {W : Int} {q : List Rq} {id x : Int} {k : Nat} (h : Ok W q) (hk : k < q.length) (hf : fnd q id = some q[k]) :
    (q.any fun o => !(o.id == id) && o.txn == x) = ((plc (fun R => R.txn == x) q != -1) && (plc (fun R => R.txn == x) q != (k : Int))) := by
  rcases plc_form (fun R => R.txn == x) q with ⟨h1, h2⟩ | ⟨m, h1, hm, h3, h4⟩
  · rw [h1]
    rw [hn_none hk hf (fun m hm _ e => by have := h2 _ (List.getElem_mem hm); simp [e] at this)]
    rfl
  · rw [h1]
    have e1 : ((m : Int) != -1) = true := by rw [bne_iff_ne]; omega
    rw [e1, Bool.true_and]
    have h3' : q[m].txn = x := by simpa using h3
    by_cases e : m = k
    · subst e
      have : ((m : Int) != (m : Int)) = false := by simp
      rw [this]
      refine hn_none hk hf (fun j hj ne ej => ?_)
      have e5 : q[j] = q[m] := h.injT _ (List.getElem_mem hj) _ (List.getElem_mem hk) (by rw [ej, h3'])
      have e6 := id_ne h hj hk ne
      exact e6 (by rw [e5])
    · have : ((m : Int) != (k : Int)) = true := by rw [bne_iff_ne]; omega
      rw [this]
      exact hn_hit h hk hf hm e h3'
set_option maxRecDepth 100000 in
set_option maxHeartbeats 4000000 in
theorem dHand (t r W id x : Int) (v : Value) (q : List Rq) (w : World) (hl : q.length ≤ 1000) (hok : Ok W q) (h : RqAt w v q) :
    Calls Tryz.prog 142 #[hdV t r v W, .int .i64 id, .int .i64 x] w (HD1 (hnR ⟨t, r, W, q⟩ id x) w) := by
  have HOk := Lib.hid hok
  clear hok
  obtain ⟨X, hX⟩ : ∃ X, hnR ⟨t, r, W, q⟩ id x = X := ⟨_, rfl⟩
  rw [hX]
  unfold HD1
  have HCl := Lib.hid (fun (w1 : World) (g : Nw w w1) => dClone v q w1 hl (h.nw g))
  obtain ⟨px, hpx⟩ : ∃ px, plc (fun R => R.id == id) q = px := ⟨_, rfl⟩
  have hFi := fun (w1 : World) (g : Nw w w1) (f : Value) (hf : Tells w1 f (fun R => R.id == id)) => dFind t r W v f _ q w1 hl (h.nw g) hf
  rw [hpx] at hFi
  obtain ⟨py, hpy⟩ : ∃ py, plc (fun R => R.txn == x) q = py := ⟨_, rfl⟩
  have hFt := fun (w1 : World) (g : Nw w w1) (f : Value) (hf : Tells w1 f (fun R => R.txn == x)) => dFind t r W v f _ q w1 hl (h.nw g) hf
  rw [hpy] at hFt
  have HAt := Lib.hid h
  obtain ⟨a, c, rfl, _⟩ := h
  unfold hdV at hFi hFt ⊢
  have HFi := Lib.hid hFi
  have HFt := Lib.hid hFt
  clear hFi hFt
  have HWi := Lib.hid (dWithID id)
  have HTx := Lib.hid (dOfTxn x)
  obtain ⟨hx1, hx2, hx3, hx4⟩ := two_boxes w (.cells #[.int .i64 t, .int .i64 r, .slice a q.length c, .int .i64 W] 63) (.cells #[.int .i64 0, .int .i64 0, .slice none 0 0, .int .i64 0] 63)
  obtain ⟨w1, hw1⟩ : ∃ w1, (w.alloc (.cells #[.int .i64 t, .int .i64 r, .slice a q.length c, .int .i64 W] 63)).alloc (.cells #[.int .i64 0, .int .i64 0, .slice none 0 0, .int .i64 0] 63) = w1 := ⟨_, rfl⟩
  rw [hw1] at hx1 hx2 hx3
  have HB1 := Lib.hid (And.intro (And.intro hx1 hx2) hx3)
  have s0 : ∀ z, Nw w1 z → z.cell? ⟨w.heap.size, 0, none⟩ = some (.int .i64 t) := fun z hz => hz.kp (hcell (j := 0) hx1)
  have s1 : ∀ z, Nw w1 z → z.cell? ⟨w.heap.size, 1, none⟩ = some (.int .i64 r) := fun z hz => hz.kp (hcell (j := 1) hx1)
  have s2 : ∀ z, Nw w1 z → z.cell? ⟨w.heap.size, 2, none⟩ = some (.slice a q.length c) := fun z hz => hz.kp (hcell (j := 2) hx1)
  have s3 : ∀ z, Nw w1 z → z.cell? ⟨w.heap.size, 3, none⟩ = some (.int .i64 W) := fun z hz => hz.kp (hcell (j := 3) hx1)
  clear hx1 hx2 hx3 hx4
  have HW1 := Lib.hid hw1
  clear hw1
  have q1 := (Nw.refl w1).drewQ
  obtain ⟨wc, hwc⟩ : ∃ wc, w1.drew = wc := ⟨_, rfl⟩
  go_enter Tryz.func142, Tryz.ntmps142
  go_wp2
  rw [HW1.out]
  have hB : Nw w1 w1 := Nw.refl w1
  have HT : ∀ (z : World), Nw w1 z → Nw w z := fun z hz => HB1.out.2.trans hz
  clear q1 hwc
  go_region_held3 (fun y => Nw w1 y) (first | assumption | exact Nw.drewQ (by assumption) | exact Nw.trans (by assumption) (by assumption)) (first | (go_at_call 167; (with_reducible refine (HWi.out _).mono ?_); rintro e wy ⟨pa, rfl, hg, hbx⟩; replace hbx := Tells.withID hbx) | (go_at_call 171; (with_reducible refine (HTx.out _).mono ?_); rintro e wy ⟨pa, rfl, hg, hbx⟩; replace hbx := Tells.ofTxn hbx) | (go_at_call 166; (with_reducible refine (HFi.out _ (HT _ (by assumption)) _ hbx).mono ?_); rintro e wy ⟨rfl, hg⟩; clear hbx) | (go_at_call 166; (with_reducible refine (HFt.out _ (HT _ (by assumption)) _ hbx).mono ?_); rintro e wy ⟨rfl, hg⟩; clear hbx))

  rename_i q1
  have HN := Lib.hid (HB1.out.2.trans q1)
  have hp1 := q1.at' HB1.out.1.1
  have hq1 := q1.at' HB1.out.1.2
  have c0 := hcell (j := 0) hp1
  have c1 := hcell (j := 1) hp1
  have c2 := hcell (j := 2) hp1
  have c3 := hcell (j := 3) hp1
  have hpl := hlt hp1
  rcases at_plc q id with ⟨e1, hf⟩ | ⟨k, e1, hk, hf⟩
  · obtain rfl := hpx.symm.trans e1
    have hR := hX.symm.trans (show hnR ⟨t, r, W, q⟩ id x = (noH, 5) by unfold hnR; rw [hf])
    subst hR
    have d0 := hcell (j := 0) hq1
    have d1 := hcell (j := 1) hq1
    have d2 := hcell (j := 2) hq1
    have d3 := hcell (j := 3) hq1
    have fz := fun k => hfz (j := k) hq1
    have hsl2 := hlt hq1
    clear hpx hpy hX e1 hf s0 s1 s2 s3 HB1 HFi HFt HWi HTx HAt HW1 q1 hp1 hq1 HCl
    go_wp2
    exact bodyPost_ret (v := .tuple #[.agg #[.int .i64 0, .int .i64 0, .slice none 0 0, .int .i64 0], .int .i64 5]) (by simp only [results, Tryz.results142]; simp [go_sem, *]) rfl ⟨_, rfl, fill_nw HN.out (Nat.le_succ _) _ _ _ _, Rd.nil _, Nat.le_refl _, Fresh.nil _ _⟩
  · obtain rfl := hpx.symm.trans e1
    have dk : ((k : Int) == -1) = false := by simp
    have hpl2 := hn_plc (x := x) HOk.out hk hf
    rw [hpy] at hpl2
    have hX1 : (q.any fun o => !(o.id == id) && o.txn == x) = true → X = (noH, 4) := fun s => hX.symm.trans (by unfold hnR; rw [hf]; exact if_pos s)
    have hX2 : ¬ (q.any fun o => !(o.id == id) && o.txn == x) = true → 0 < q[k].sn → X = (noH, 7) := fun s m => hX.symm.trans (by unfold hnR; rw [hf]; simp only [if_neg s]; exact if_pos m)
    have hX3 : ¬ (q.any fun o => !(o.id == id) && o.txn == x) = true → ¬ 0 < q[k].sn → X = (⟨t, r, W, q.set k ⟨q[k].id, x, q[k].md, q[k].wt, q[k].sn⟩⟩, 0) := fun s m => hX.symm.trans (by unfold hnR; rw [hf]; simp only [if_neg s]; rw [if_neg m, hn_at HOk.out hk hf])
    rw [hpl2] at hX1 hX2 hX3
    obtain ⟨bx, hbx⟩ : ∃ bx, (py != -1) = bx := ⟨_, rfl⟩
    obtain ⟨by2, hby2⟩ : ∃ by2, (py != (k : Int)) = by2 := ⟨_, rfl⟩
    rw [hbx, hby2] at hX1 hX2 hX3
    by_cases hy : (bx && by2) = true
    · have hR := hX1 hy
      subst hR
      rw [Bool.and_eq_true] at hy
      obtain ⟨rfl, rfl⟩ := hy
      have d0 := hcell (j := 0) hq1
      have d1 := hcell (j := 1) hq1
      have d2 := hcell (j := 2) hq1
      have d3 := hcell (j := 3) hq1
      have fz := fun k => hfz (j := k) hq1
      have hsl2 := hlt hq1
      clear hpx hpy hX e1 hf s0 s1 s2 s3 HB1 HFi HFt HWi HTx HAt HW1 q1 hp1 hq1 HCl hX1 hX2 hX3 hpl2
      go_wp2
      exact bodyPost_ret (v := .tuple #[.agg #[.int .i64 0, .int .i64 0, .slice none 0 0, .int .i64 0], .int .i64 4]) (by simp only [results, Tryz.results142]; simp [go_sem, *]) rfl ⟨_, rfl, fill_nw HN.out (Nat.le_succ _) _ _ _ _, Rd.nil _, Nat.le_refl _, Fresh.nil _ _⟩
    rcases HAt.out with ⟨a', c', e3, ⟨e4, _⟩ | ⟨b, o, e4, hc⟩⟩
    · subst e4; simp at hk
    simp only [Value.slice.injEq, true_and] at e3
    obtain ⟨rfl, rfl⟩ := e3
    subst e4
    have hki : (k : Int) < (q.length : Int) := by omega
    have hce := (hc.nw HN.out).cell k hk
    have HCe := Lib.hid (fun (z : World) (g : Nw w z) => (hc.nw g).cell k hk)
    have HWa := Lib.hid (fun z => dWaits q[k] z)
    have HHo := Lib.hid (fun z => dHolds q[k] z)
    have HRow := Lib.hid (fun (z : World) (g0 g cap : Nat) (j : Nat) (hj : j < 5) (u : Value) (new : Rq) (e : (rqrow q[k]).set j u = rqrow new) (h : RqOwn z g0 (.slice (some ⟨g, 0, none⟩) q.length cap) q) => own_upd h rfl k hk j hj u new e)
    have HRow2 := Lib.hid (fun (z : World) (g0 g cap : Nat) (X : Rq) (j : Nat) (hj : j < 5) (u : Value) (new : Rq) (e : (rqrow X).set j u = rqrow new) (h : RqOwn z g0 (.slice (some ⟨g, 0, none⟩) q.length cap) (q.set k X)) => own_upd h (by rw [List.length_set]) k (by rw [List.length_set]; exact hk) j hj u new (by rw [List.getElem_set_self]; exact e))
    simp only [List.set_set] at HRow2
    have HCo := Lib.hid (fun (z : World) (g0 g cap : Nat) (h : RqOwn z g0 (.slice (some ⟨g, 0, none⟩) q.length cap) q) => own_cell h rfl k hk)
    generalize q[k] = R at *
    obtain ⟨b0, b1, b2, b3, b4⟩ := R
    unfold rqV at HWa HHo
    have m0 := hce 0 _ rfl
    have m1 := hce 1 _ rfl
    have m2 := hce 2 _ rfl
    have m3 := hce 3 _ rfl
    have m4 := hce 4 _ rfl
    simp only [Nat.add_zero] at m0
    clear hce
    have HX2 := Lib.hid (hX2 hy)
    have HX3 := Lib.hid (hX3 hy)
    have HY := Lib.hid hy
    have HP := Lib.hid (And.intro hp1 hq1)
    clear hX1 hX2 hX3 hpl2 hpx hpy hX e1 hf s0 s1 s2 s3 HB1 HFi HFt HWi HTx HW1 q1 hc HOk HHo hy
    cases bx <;> cases by2 <;> first
     | (exfalso; exact absurd rfl HY.out)
     | skip
    all_goals
      clear HY
      go_wp2_with fail
      go_at_call 179
      refine (HWa.out _).mono ?_
      rintro e w2 ⟨rfl, g2⟩
      have hp2 := g2.at' HP.out.1
      have hq2 := g2.at' HP.out.2
      have HN2 := Lib.hid (HN.out.trans g2)
      clear c0 c1 c2 c3 hpl hp1 hq1
      have c0 := hcell (j := 0) hp2
      have c1 := hcell (j := 1) hp2
      have c2 := hcell (j := 2) hp2
      have c3 := hcell (j := 3) hp2
      have hpl := hlt hp2
      clear m0 m1 m2 m3 m4 g2 HWa HP
      by_cases hs : 0 < b4
      · have ds : decide (0 < b4) = true := by simpa using hs
        have hR := HX2.out hs
        subst hR
        have d0 := hcell (j := 0) hq2
        have d1 := hcell (j := 1) hq2
        have d2 := hcell (j := 2) hq2
        have d3 := hcell (j := 3) hq2
        have fz := fun k => hfz (j := k) hq2
        have hsl2 := hlt hq2
        clear hs HX2 HX3 HCe HRow HRow2 HCo HCl HAt HN hp2 hq2
        go_wp2
        exact bodyPost_ret (v := .tuple #[.agg #[.int .i64 0, .int .i64 0, .slice none 0 0, .int .i64 0], .int .i64 7]) (by simp only [results, Tryz.results142]; simp [go_sem, *]) rfl ⟨_, rfl, fill_nw HN2.out (Nat.le_succ _) _ _ _ _, Rd.nil _, Nat.le_refl _, Fresh.nil _ _⟩
      have ds : decide (0 < b4) = false := by simpa using hs
      have hR := HX3.out (by first | exact hs | exact Int.not_lt.1 hs)
      subst hR
      have HQ := Lib.hid (And.intro hp2 hq2)
      have HCl2 := Lib.hid (HCl.out _ HN2.out)
      clear hs HX2 HX3 HCe HCl HAt hp2 hq2
      go_wp2_with fail
      go_at_call 148
      refine HCl2.out.mono ?_
      rintro e w4 ⟨v4, rfl, g4, hO⟩
      obtain ⟨g, cap, rfl, hg0, hgl, _⟩ := RqOwn.at hO hk
      have hne : ¬ g = w.heap.size := by have := hlt HQ.out.1; omega
      have hne' : ¬ w.heap.size = g := fun e => hne e.symm
      have hn2 : ¬ g = w.heap.size + 1 := by have := hlt HQ.out.2; omega
      have hn2' : ¬ w.heap.size + 1 = g := fun e => hn2 e.symm
      have hp4 := g4.at' HQ.out.1
      have hq4 := g4.at' HQ.out.2
      have HB := Lib.hid (And.intro (hlt HQ.out.1) (hlt HQ.out.2))
      have hO1 := own_st hO (p := ⟨w.heap.size, 2, none⟩) (by exact HB.out.1) (.slice (some ⟨g, 0, none⟩) q.length cap)
      have hO2 := HRow.out _ _ _ _ 1 (by decide) (.int .i64 x) ⟨b0, x, b2, b3, b4⟩ rfl hO1
      have hO4 := fill_own hO2 (rb := w.heap.size + 1) HB.out.2 (.int .i64 t) (.int .i64 r) (.slice (some ⟨g, 0, none⟩) q.length cap) (.int .i64 W)
      have HO4 := Lib.hid hO4
      have HN4 := Lib.hid (HN2.out.trans g4)
      have HG := Lib.hid (And.intro hg0 HN2.out.sz)
      have hoc := HCo.out _ _ _ _ hO
      have c0 := hcell (j := 0) hp4
      have c1 := hcell (j := 1) hp4
      have c2 := hcell (j := 2) hp4
      have c3 := hcell (j := 3) hp4
      have hpl := hlt hp4
      have fp := fun k => hfz (j := k) hp4
      have fg := fun k => own_frz hO rfl k
      have m1 := hoc 1 _ rfl
      have d0 := hcell (j := 0) hq4
      have d1 := hcell (j := 1) hq4
      have d2 := hcell (j := 2) hq4
      have d3 := hcell (j := 3) hq4
      have fz := fun k => hfz (j := k) hq4
      have hsl2 := hlt hq4
      clear hq4 hp4 hO hO1 hO2 hO4 hoc g4 HCl2 HN HRow HRow2 HCo hg0
      go_wp2
      exact bodyPost_ret (v := .tuple #[.agg #[.int .i64 t, .int .i64 r, .slice (some ⟨g, 0, none⟩) q.length cap, .int .i64 W], .int .i64 0]) (by simp only [results, Tryz.results142]; simp [go_sem, *]) rfl ⟨_, rfl, fill_nw ((HN4.out.st (Nat.le_refl _) _).st (by show w.heap.size ≤ g; have := HG.out; omega) _) (Nat.le_succ _) _ _ _ _, RqOwn.rd HO4.out, HO4.out.cap, HO4.out.fresh HG.out.2⟩
end Go.Proofs.YtpffldfpabglbaaGreatDoor
end

/- Upgrade and Hand. -/
section
namespace Go.Proofs.YtpffldfpabglbaaGreatDoor
open Go.RowKit Go.Shelf
set_option linter.unusedVariables false      -- a contract need not use every name

theorem scan_end {hs : List Hq} {X : Hq} (hd : Done X.q) (hn : X.q ≠ []) : endS hs X = putH hs X := by
  unfold endS
  have : scH X = X := by unfold scH; rw [scan_done hd]
  rw [this, if_neg hn]
theorem upQ_ne {W : Int} {q : List Rq} {r : Rq} {m : Int} (hq : q ≠ []) : (upQ W q r m).2.1 ≠ [] := by
  have h1 : ∀ f id, chg f id q ≠ [] := fun f id e => by
    have := congrArg List.length e
    unfold chg at this
    rw [List.length_map] at this
    exact hq (List.length_eq_zero_iff.1 this)
  unfold upQ
  split
  · exact hq
  · split
    · exact h1 _ _
    · exact h1 _ _
/-- What Upgrade comes to. -/
def UpD (w : World) (o mb po n : Nat) (F : Nat → Prop) (l : List Hp) (L : List Bool) (id a : Int) (e : Ending) (w' : World) : Prop :=
  e = .returned (.tuple #[.bool (upBG (hsP l) id a), .int .i64 (upBE (hsP l) id a)]) ∧ ∃ l', hsP l' = upBS (hsP l) id a ∧ DbTo w o mb po n F l w' l' L
set_option maxRecDepth 20000 in
set_option maxHeartbeats 4000000 in
theorem upgrade_d {w : World} {o mb po n k : Nat} {l : List Hp} {L : List Bool} {F : Nat → Prop} (h : Db w o mb po n l L F) {X : List Int} (b : BInv n k (hsP l) X L) (hk : k ≤ 800) (hn : n ≤ 64) (id a : Int) :
    Calls Tryz.prog 96 #[.pointer (some ⟨o, 0, none⟩), .int .i64 id, .int .i64 a] w (UpD w o mb po n F l L id a) := by
  have H := Lib.hid h
  have hol := h.ol
  have HMd := Lib.hid (bmade_yes o w h.c0)
  have HWi := Lib.hid (with_any h id)
  obtain ⟨hi, hW, hql⟩ := wth_ok b id
  have hbl := (binv_up b (by omega) id a).len
  obtain ⟨X, hX⟩ : ∃ X, upR (wthP l id).h id a = X := ⟨_, rfl⟩
  have hC := fun w1 (g : Nw w w1) => dUpgrade (wthP l id).h.t (wthP l id).h.r (wthP l id).h.W id a (hpV (wthP l id)) (wthP l id).h.q w1 (by omega) hi.ok ((wth_rd h id).nw g)
  rw [show (⟨(wthP l id).h.t, (wthP l id).h.r, (wthP l id).h.W, (wthP l id).h.q⟩ : Hq) = (wthP l id).h from rfl, hX] at hC
  have key : (X.2.2 ≠ 0 ∧ upBE (hsP l) id a = X.2.2 ∧ upBG (hsP l) id a = false ∧ upBS (hsP l) id a = hsP l) ∨ (X.2.2 = 0 ∧ (upBE (hsP l) id a = 0 ∧ upBG (hsP l) id a = X.2.1) ∧ upBS (hsP l) id a = putH (hsP l) X.1 ∧ endS (hsP l) X.1 = putH (hsP l) X.1 ∧ wfN (X.1.t, X.1.r) ∧ X.1.q.length ≤ 1000 ∧ Ok X.1.W X.1.q ∧ (endS (hsP l) X.1).length ≤ 64) := by
    cases e : whP l id with
    | none =>
      have e1 : ofId (hsP l) id = none := by rw [wth_of, e]; rfl
      have e0 : X = (noH, false, if badM a then 2 else 5) := by
        rw [← hX, wth_none e]
        by_cases hb : a = 0 ∨ knI a = false
        · rw [if_pos (show badM a from hb)]; unfold upR; rw [if_pos hb]
        · rw [if_neg (show ¬ badM a from hb)]; unfold upR; rw [if_neg hb]; rfl
      have e2 : upBE (hsP l) id a = if badM a then 2 else 5 := by unfold upBE; rw [e1]
      subst e0
      refine .inl ⟨?_, ?_, ?_, ?_⟩
      · simp only; split <;> decide
      · exact e2
      · unfold upBG; rw [if_neg (by rw [e2]; split <;> decide)]
      · unfold upBS; rw [if_neg (by rw [e2]; split <;> decide)]
    | some x =>
      obtain ⟨ex, hx, r, hr⟩ := wth_some e
      have e1 : ofId (hsP l) id = some x.h := by rw [wth_of, e]; rfl
      rw [ex] at hi hW hql hX
      have e2 : upBE (hsP l) id a = X.2.2 := by
        unfold upBE
        rw [e1, ← hX]
        by_cases hb : a = 0 ∨ knI a = false
        · rw [if_pos (show badM a from hb)]; unfold upR; rw [if_pos hb]
        · rw [if_neg (show ¬ badM a from hb)]
      by_cases h0 : X.2.2 = 0
      · have hup := h0
        rw [← hX] at hup
        obtain ⟨r', u1, u2, u3, u4, u5, u6, u7⟩ := up_is hi.ok hup
        have hS : upBS (hsP l) id a = putH (hsP l) X.1 := by unfold upBS; rw [if_pos (e2.trans h0), e1]; simp only; rw [hX]
        have hG : upBG (hsP l) id a = X.2.1 := by unfold upBG; rw [if_pos (e2.trans h0), e1]; simp only; rw [hX]
        have hx1 : X.1 = ⟨x.h.t, x.h.r, (upQ x.h.W x.h.q r' a).1, (upQ x.h.W x.h.q r' a).2.1⟩ := by rw [← hX, u7]
        have hne : x.h.q ≠ [] := List.ne_nil_of_mem u1
        have hdn : Done X.1.q := by rw [hx1]; exact done_upg hi.ok hi.done r' u1 a u4 u5
        have hok : Ok X.1.W X.1.q := by rw [hx1]; exact ok_up hi.ok r' u1 a u4 u5 (by omega)
        have hen := scan_end (hs := hsP l) hdn (by rw [hx1]; exact upQ_ne hne)
        rw [hS] at hbl
        refine .inr ⟨h0, ⟨e2.trans h0, hG⟩, hS, hen, by rw [hx1]; exact h.map.wf x hx, ?_, hok, by rw [hen]; omega⟩
        rw [hx1]
        have := (upQ_W x.h.W x.h.q r' a).2.2
        simp only
        omega
      · refine .inl ⟨h0, e2, ?_, ?_⟩
        · unfold upBG; rw [if_neg (by rw [e2]; exact h0)]
        · unfold upBS; rw [if_neg (by rw [e2]; exact h0)]
  have HK := Lib.hid key
  have HC := Lib.hid hC
  clear h b hC key hi hW hql hbl hX
  obtain ⟨V, hV⟩ : ∃ V, hpH (wthP l id) = V := ⟨_, rfl⟩
  change Hid (∀ w1, Nw w w1 → Calls Tryz.prog _ #[hpH (wthP l id), _, _] w1 _) at HC
  rw [hV] at HWi HC
  have hVa : ∃ c, V = .agg c := ⟨_, hV.symm⟩
  clear hV
  obtain ⟨cs, rfl⟩ := hVa
  go_enter Tryz.func96, Tryz.ntmps96
  go_wp2_with fail
  refine HMd.out.mono ?_
  rintro e w' ⟨rfl, rfl⟩
  go_wp2_with fail
  refine HWi.out.mono ?_
  rintro e w1 ⟨rfl, g1⟩
  go_wp2_with fail
  refine (HC.out _ g1).mono ?_
  rintro e w2 ⟨v2, rfl, g2, rd2, cap2, fr2⟩
  obtain ⟨a2, c2, hv2⟩ := rd2.form
  obtain ⟨q2l, hq2⟩ : ∃ q2l, X.1.q.length = q2l := ⟨_, rfl⟩
  rw [hq2] at hv2
  subst hv2
  have HG := Lib.hid (g1.trans g2)
  have hrd := rd2
  obtain ⟨⟨Xt, Xr, XW, Xq⟩, XG, E⟩ := X
  simp only [hdV] at hrd ⊢
  clear g1 g2 rd2 cap2 fr2 hq2
  obtain ⟨y1, hy1⟩ : ∃ y1, w2.alloc (.cells #[.int .i64 Xt, .int .i64 Xr, .slice a2 q2l c2, .int .i64 XW] 63) = y1 := ⟨_, rfl⟩
  have g3 : Nw w2 y1 := by rw [← hy1]; exact (Nw.refl w2).alloc _
  have HG1 := Lib.hid (HG.out.trans g3)
  have hrd1 := hrd.nw g3
  have HY := Lib.hid hy1
  clear hy1 g3 hrd
  rcases HK.out with ⟨k1, k2⟩ | ⟨k1, k2, k3, k4, k5, k6, k7, k8⟩
  · simp only at k1 k2
    have hne : (E != 0) = true := by simpa using k1
    have hne2 : (E == 0) = false := by simpa using k1
    have HR := Lib.hid (show UpD w o mb po n F l L id a (.returned (.tuple #[.bool false, .int .i64 E])) y1 from by
      unfold UpD
      obtain ⟨q1, q2, q3⟩ := k2
      rw [q1, q2, q3]
      exact ⟨rfl, l, rfl, H.out.to HG1.out⟩)
    clear k1 k2 hrd1
    go_wp2
    rw [HY.out]
    exact bodyPost_ret (v := .tuple #[.bool false, .int .i64 E]) (by simp [results, Tryz.results96, go_sem, *]) rfl HR.out
  · simp only at k1 k2 k3 k4 k5 k6 k7 k8
    subst k1
    have HS := Lib.hid (settle_any (H.out.nw HG1.out) Xt Xr XW (.slice a2 q2l c2) Xq k5 k6 k7 hrd1 k8)
    have HR := Lib.hid (fun (y2 : World) (l' : List Hp) (hl' : hsP l' = endS (hsP l) ⟨Xt, Xr, XW, Xq⟩) (hto : DbTo y1 o mb po n F l y2 l' L) => (show UpD w o mb po n F l L id a (.returned (.tuple #[.bool XG, .int .i64 0])) y2 from by
      unfold UpD
      obtain ⟨q1, q2⟩ := k2
      rw [q1, q2, k3]
      exact ⟨rfl, l', by rw [hl', k4], hto.pre HG1.out⟩))
    clear k2 k3 k4 k5 k6 k7 k8 hrd1
    go_wp2_with fail
    rw [HY.out]
    refine HS.out.mono ?_
    rintro e y2 ⟨vi, l', rfl, _, hl', hto, _⟩
    have HF := Lib.hid (HR.out y2 l' hl' hto)
    clear hl' hto
    go_wp2
    exact bodyPost_ret (v := .tuple #[.bool XG, .int .i64 0]) (by simp [results, Tryz.results96, go_sem, *]) rfl HF.out
end Go.Proofs.YtpffldfpabglbaaGreatDoor
end

/- Hand. -/
section
namespace Go.Proofs.YtpffldfpabglbaaGreatDoor
open Go.RowKit Go.Shelf
set_option linter.unusedVariables false      -- a contract need not use every name

/-- What Hand comes to. -/
def HnD (w : World) (o mb po n : Nat) (F : Nat → Prop) (l : List Hp) (L : List Bool) (id a : Int) (e : Ending) (w' : World) : Prop :=
  e = .returned (.int .i64 (hnBE (hsP l) id a)) ∧ ∃ l', hsP l' = hnBS (hsP l) id a ∧ DbTo w o mb po n F l w' l' L
set_option maxRecDepth 20000 in
set_option maxHeartbeats 4000000 in
theorem hand_d {w : World} {o mb po n k : Nat} {l : List Hp} {L : List Bool} {F : Nat → Prop} (h : Db w o mb po n l L F) {X : List Int} (b : BInv n k (hsP l) X L) (hk : k ≤ 800) (hn : n ≤ 64) (id a : Int) :
    Calls Tryz.prog 101 #[.pointer (some ⟨o, 0, none⟩), .int .i64 id, .int .i64 a] w (HnD w o mb po n F l L id a) := by
  have H := Lib.hid h
  have hol := h.ol
  have HMd := Lib.hid (bmade_yes o w h.c0)
  have HWi := Lib.hid (with_any h id)
  obtain ⟨hi, hW, hql⟩ := wth_ok b id
  have hbl := (binv_hn b id a).len
  obtain ⟨X, hX⟩ : ∃ X, hnR (wthP l id).h id a = X := ⟨_, rfl⟩
  have hC := fun w1 (g : Nw w w1) => dHand (wthP l id).h.t (wthP l id).h.r (wthP l id).h.W id a (hpV (wthP l id)) (wthP l id).h.q w1 (by omega) hi.ok ((wth_rd h id).nw g)
  rw [show (⟨(wthP l id).h.t, (wthP l id).h.r, (wthP l id).h.W, (wthP l id).h.q⟩ : Hq) = (wthP l id).h from rfl, hX] at hC
  have key : (X.2 ≠ 0 ∧ hnBE (hsP l) id a = X.2 ∧ hnBS (hsP l) id a = hsP l) ∨ (X.2 = 0 ∧ hnBE (hsP l) id a = 0 ∧ hnBS (hsP l) id a = putH (hsP l) X.1 ∧ endS (hsP l) X.1 = putH (hsP l) X.1 ∧ wfN (X.1.t, X.1.r) ∧ X.1.q.length ≤ 1000 ∧ Ok X.1.W X.1.q ∧ (endS (hsP l) X.1).length ≤ 64) := by
    cases e : whP l id with
    | none =>
      have e1 : ofId (hsP l) id = none := by rw [wth_of, e]; rfl
      have e0 : X = (noH, 5) := by rw [← hX, wth_none e]; rfl
      have e2 : hnBE (hsP l) id a = 5 := by unfold hnBE; rw [e1]
      subst e0
      exact .inl ⟨by decide, e2, by unfold hnBS; rw [if_neg (by rw [e2]; decide)]⟩
    | some x =>
      obtain ⟨ex, hx, r, hr⟩ := wth_some e
      have e1 : ofId (hsP l) id = some x.h := by rw [wth_of, e]; rfl
      rw [ex] at hi hW hql hX
      have e2 : hnBE (hsP l) id a = X.2 := by unfold hnBE; rw [e1, ← hX]
      by_cases h0 : X.2 = 0
      · have hup := h0
        rw [← hX] at hup
        obtain ⟨r', u1, u2, u3, u4, u5, u7⟩ := hn_is hi.ok hup
        have hS : hnBS (hsP l) id a = putH (hsP l) X.1 := by unfold hnBS; rw [if_pos (e2.trans h0), e1]; simp only; rw [hX]
        have hx1 : X.1 = ⟨x.h.t, x.h.r, x.h.W, chg (hnF a) r'.id x.h.q⟩ := by rw [← hX, u7]
        have hcl : (chg (hnF a) r'.id x.h.q).length = x.h.q.length := by unfold chg; rw [List.length_map]
        have hne : chg (hnF a) r'.id x.h.q ≠ [] := fun e => by
          rw [e] at hcl
          have := List.length_pos_of_mem u1
          simp at hcl
          omega
        have hdn : Done X.1.q := by rw [hx1]; exact done_hn hi.done r'.id a
        have hok : Ok X.1.W X.1.q := by rw [hx1]; exact ok_hn hi.ok r' u1 a u5
        have hen := scan_end (hs := hsP l) hdn (by rw [hx1]; exact hne)
        rw [hS] at hbl
        exact .inr ⟨h0, e2.trans h0, hS, hen, by rw [hx1]; exact h.map.wf x hx, by rw [hx1]; simp only; omega, hok, by rw [hen]; omega⟩
      · exact .inl ⟨h0, e2, by unfold hnBS; rw [if_neg (by rw [e2]; exact h0)]⟩
  have HK := Lib.hid key
  have HC := Lib.hid hC
  clear h b hC key hi hW hql hbl hX
  obtain ⟨V, hV⟩ : ∃ V, hpH (wthP l id) = V := ⟨_, rfl⟩
  change Hid (∀ w1, Nw w w1 → Calls Tryz.prog _ #[hpH (wthP l id), _, _] w1 _) at HC
  rw [hV] at HWi HC
  have hVa : ∃ c, V = .agg c := ⟨_, hV.symm⟩
  clear hV
  obtain ⟨cs, rfl⟩ := hVa
  go_enter Tryz.func101, Tryz.ntmps101
  go_wp2_with fail
  refine HMd.out.mono ?_
  rintro e w' ⟨rfl, rfl⟩
  go_wp2_with fail
  refine HWi.out.mono ?_
  rintro e w1 ⟨rfl, g1⟩
  go_wp2_with fail
  refine (HC.out _ g1).mono ?_
  rintro e w2 ⟨v2, rfl, g2, rd2, cap2, fr2⟩
  obtain ⟨a2, c2, hv2⟩ := rd2.form
  obtain ⟨q2l, hq2⟩ : ∃ q2l, X.1.q.length = q2l := ⟨_, rfl⟩
  rw [hq2] at hv2
  subst hv2
  have HG := Lib.hid (g1.trans g2)
  have hrd := rd2
  obtain ⟨⟨Xt, Xr, XW, Xq⟩, E⟩ := X
  simp only [hdV] at hrd ⊢
  clear g1 g2 rd2 cap2 fr2 hq2
  obtain ⟨y1, hy1⟩ : ∃ y1, w2.alloc (.cells #[.int .i64 Xt, .int .i64 Xr, .slice a2 q2l c2, .int .i64 XW] 63) = y1 := ⟨_, rfl⟩
  have g3 : Nw w2 y1 := by rw [← hy1]; exact (Nw.refl w2).alloc _
  have HG1 := Lib.hid (HG.out.trans g3)
  have hrd1 := hrd.nw g3
  have HY := Lib.hid hy1
  clear hy1 g3 hrd
  rcases HK.out with ⟨k1, k2⟩ | ⟨k1, k2, k3, k4, k5, k6, k7, k8⟩
  · simp only at k1 k2
    have hne : (E != 0) = true := by simpa using k1
    have hne2 : (E == 0) = false := by simpa using k1
    have HR := Lib.hid (show HnD w o mb po n F l L id a (.returned (.int .i64 E)) y1 from by
      unfold HnD
      obtain ⟨q1, q3⟩ := k2
      rw [q1, q3]
      exact ⟨rfl, l, rfl, H.out.to HG1.out⟩)
    clear k1 k2 hrd1
    go_wp2
    rw [HY.out]
    exact bodyPost_ret (v := .int .i64 E) (by simp [results, Tryz.results101, go_sem, *]) rfl HR.out
  · simp only at k1 k2 k3 k4 k5 k6 k7 k8
    subst k1
    have HS := Lib.hid (settle_any (H.out.nw HG1.out) Xt Xr XW (.slice a2 q2l c2) Xq k5 k6 k7 hrd1 k8)
    have HR := Lib.hid (fun (y2 : World) (l' : List Hp) (hl' : hsP l' = endS (hsP l) ⟨Xt, Xr, XW, Xq⟩) (hto : DbTo y1 o mb po n F l y2 l' L) => (show HnD w o mb po n F l L id a (.returned (.int .i64 0)) y2 from by
      unfold HnD
      rw [k2, k3]
      exact ⟨rfl, l', by rw [hl', k4], hto.pre HG1.out⟩))
    clear k2 k3 k4 k5 k6 k7 k8 hrd1
    go_wp2_with fail
    rw [HY.out]
    refine HS.out.mono ?_
    rintro e y2 ⟨vi, l', rfl, _, hl', hto, _⟩
    have HF := Lib.hid (HR.out y2 l' hl' hto)
    clear hl' hto
    go_wp2
    exact bodyPost_ret (v := .int .i64 0) (by simp [results, Tryz.results101, go_sem, *]) rfl HF.out
end Go.Proofs.YtpffldfpabglbaaGreatDoor
end

/- Find. -/
section
namespace Go.Proofs.YtpffldfpabglbaaGreatDoor
open Go.RowKit Go.Shelf
set_option linter.unusedVariables false      -- a contract need not use every name

end Go.Proofs.YtpffldfpabglbaaGreatDoor
end
