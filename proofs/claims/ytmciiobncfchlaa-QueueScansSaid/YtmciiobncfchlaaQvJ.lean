
/- The developers' package queue: Ask. -/
import Derived.Test.YtmciiobncfchlaaQvI
namespace Go.Proofs.Ytmciiobncfchlaa
open Go.RowKit Go.Maps Go.ChangeMaps
set_option linter.unusedVariables false      -- a contract need not use every name

theorem plc_ne (p : Rq → Bool) (q : List Rq) : (plc p q != -1) = q.any p := by
  rw [← plc_any]
  rcases plc_form p q with ⟨h1, _⟩ | ⟨k, h1, _⟩
  · rw [h1]; rfl
  · rw [h1]
    have : ((k : Int) != -1) = true := by rw [bne_iff_ne]; omega
    rw [this]; simp
theorem any_or {α : Type} (q : List α) (a b : α → Bool) : (q.any fun x => a x || b x) = (q.any a || q.any b) := by
  induction q with
  | nil => rfl
  | cons x q ih => rw [List.any_cons, List.any_cons, List.any_cons, ih]; cases a x <;> cases b x <;> cases q.any a <;> cases q.any b <;> rfl
/-- A slice that lies in new blocks. -/
def Fresh (w : World) (v : Value) (q : List Rq) : Prop := ∀ b o n c, v = .slice (some ⟨b, o, none⟩) n c → w.heap.size ≤ b ∨ q = []
theorem Fresh.nil (w : World) (q : List Rq) : Fresh w (.slice none 0 0) q := fun b o n c e => by simp at e
theorem RqOwn.fresh {w w0 : World} {g0 : Nat} {v : Value} {q : List Rq} (h : RqOwn w g0 v q) (hb : w0.heap.size ≤ g0) : Fresh w0 v q := fun b o n c e => by
  subst e
  exact .inl (Nat.le_trans hb (oge h rfl))
theorem Fresh.old {w0 w : World} {v : Value} {q : List Rq} (h : Fresh w v q) (g : Nw w0 w) : Fresh w0 v q := fun b o n c e => (h b o n c e).imp (fun h => Nat.le_trans g.sz h) (fun h => h)
/-- What a call of the developers' gives that returns a head, whether it was granted, and an error; a head and an error. -/
def HD2 (X : Hq × Bool × Int) (w : World) (e : Ending) (w' : World) : Prop := ∃ v', e = .returned (.tuple #[hdV X.1.t X.1.r v' X.1.W, .bool X.2.1, .int .i64 X.2.2]) ∧ Nw w w' ∧ RqAt w' v' X.1.q ∧ capOk v' ∧ Fresh w v' X.1.q
def HD1 (X : Hq × Int) (w : World) (e : Ending) (w' : World) : Prop := ∃ v', e = .returned (.tuple #[hdV X.1.t X.1.r v' X.1.W, .int .i64 X.2]) ∧ Nw w w' ∧ RqAt w' v' X.1.q ∧ capOk v' ∧ Fresh w v' X.1.q
theorem Ln.done {w : World} {g0 p : Nat} {t r W : Int} {v : Value} {b n : Nat} {q : List Rq} {c : Int → Int} (h : Ln w g0 p t r W v b n q c) {rb : Nat} (hb : rb < g0) (u0 u1 u2 u3 : Value) :
    RqAt ((((w.setCell ⟨rb, 0, none⟩ u0).setCell ⟨rb, 1, none⟩ u1).setCell ⟨rb, 2, none⟩ u2).setCell ⟨rb, 3, none⟩ u3) v q ∧ capOk v := ⟨(fill_own h.own hb _ _ _ _).rd, h.own.cap⟩
set_option maxRecDepth 100000 in
set_option maxHeartbeats 8000000 in
theorem dAsk (t r W id x m : Int) (v : Value) (q : List Rq) (w : World) (hl : q.length ≤ 900) (hok : Ok W q) (h : RqAt w v q) :
    Calls Try.prog 8 #[hdV t r v W, .int .i64 id, .int .i64 x, .int .i64 m] w (HD2 (askR ⟨t, r, W, q⟩ id x m) w) := by
  obtain ⟨X, hX⟩ : ∃ X, askR ⟨t, r, W, q⟩ id x m = X := ⟨_, rfl⟩
  rw [hX]
  have HLo := Lib.hid (fun w => dLockable m w)
  have hat := h
  obtain ⟨a, c, rfl⟩ := h.form
  unfold HD2 hdV
  have HX := Lib.hid (two_boxes w (.cells #[.int .i64 t, .int .i64 r, .slice a q.length c, .int .i64 W] 27) (.cells #[.int .i64 0, .int .i64 0, .slice none 0 0, .int .i64 0] 27))
  obtain ⟨y, hy⟩ : ∃ y, ((m != 0) && knI m) = y := ⟨_, rfl⟩
  rw [hy] at HLo
  by_cases hi : id < 0
  · subst hX
    rw [ask_bad (h := ⟨t, r, W, q⟩) (.inl hi)]
    have di : decide (id < 0) = true := by simpa using hi
    have hq1 := HX.out.2.1
    have fz := fun k => hfz (j := k) hq1
    have hsl2 := hlt hq1
    have HQ := Lib.hid HX.out.2.2.1
    have d0 := hcell (j := 0) hq1
    have d1 := hcell (j := 1) hq1
    have d2 := hcell (j := 2) hq1
    have d3 := hcell (j := 3) hq1
    clear hq1 hi hy hat h hok HX HLo
    go_enter Try.func8, Try.ntmps8
    go_wp2
    exact bodyPost_ret (v := .tuple #[.agg #[.int .i64 0, .int .i64 0, .slice none 0 0, .int .i64 0], .bool false, .int .i64 2]) (by simp only [results, Try.results8]; simp [go_sem, *]) rfl ⟨_, rfl, HQ.out, Rd.nil _, Nat.le_refl _, Fresh.nil _ _⟩
  have di : decide (id < 0) = false := by simpa using hi
  cases y
  · subst hX
    rw [ask_bad (h := ⟨t, r, W, q⟩) (by cases e : knI m with | false => exact .inr (.inr rfl) | true => rw [e, Bool.and_true] at hy; exact .inr (.inl (by simpa using hy)))]
    clear hi hy hat h hok
    go_enter Try.func8, Try.ntmps8
    go_wp2_with fail
    go_at_call 35
    refine (HLo.out _).mono ?_
    rintro e w1 ⟨rfl, g1⟩
    have hq1 := g1.at' HX.out.2.1
    have HQ := Lib.hid (HX.out.2.2.1.trans g1)
    have d0 := hcell (j := 0) hq1
    have d1 := hcell (j := 1) hq1
    have d2 := hcell (j := 2) hq1
    have d3 := hcell (j := 3) hq1
    have fz := fun k => hfz (j := k) hq1
    have hsl2 := hlt hq1
    clear g1 hq1 HX HLo
    go_wp2
    exact bodyPost_ret (v := .tuple #[.agg #[.int .i64 0, .int .i64 0, .slice none 0 0, .int .i64 0], .bool false, .int .i64 2]) (by simp only [results, Try.results8]; simp [go_sem, *]) rfl ⟨_, rfl, fill_nw HQ.out (Nat.le_succ _) _ _ _ _, Rd.nil _, Nat.le_refl _, Fresh.nil _ _⟩
  have hgood : ¬ (id < 0 ∨ m = 0 ∨ knI m = false) := by
    rw [Bool.and_eq_true, bne_iff_ne] at hy
    rintro (e | e | e)
    · exact hi e
    · exact hy.1 e
    · rw [hy.2] at e; cases e
  have hkm : knI m = true := by
    rw [Bool.and_eq_true] at hy
    exact hy.2
  obtain ⟨px, hpx⟩ : ∃ px, plc (fun R => R.id == id) q = px := ⟨_, rfl⟩
  obtain ⟨py, hpy⟩ : ∃ py, plc (fun R => R.txn == x) q = py := ⟨_, rfl⟩
  have hFi := fun (w1 : World) (g : Nw w w1) (f : Value) (hf : Tells w1 f (fun R => R.id == id)) => dFind t r W (.slice a q.length c) f _ q w1 (by omega) (hat.nw g) hf
  have hFt := fun (w1 : World) (g : Nw w w1) (f : Value) (hf : Tells w1 f (fun R => R.txn == x)) => dFind t r W (.slice a q.length c) f _ q w1 (by omega) (hat.nw g) hf
  rw [hpx] at hFi
  rw [hpy] at hFt
  unfold hdV at hFi hFt
  have HFi := Lib.hid hFi
  have HFt := Lib.hid hFt
  have HLi := Lib.hid (fun (w1 : World) (g : Nw w w1) => dLineOf t r W (.slice a q.length c) q w1 (by omega) (fun R hR => (hok.rt R hR).md) (hat.nw g))
  unfold hdV at HLi
  have hany : (q.any fun R => R.id == id || R.txn == x) = ((px != -1) || (py != -1)) := by rw [any_or, ← plc_ne (fun R => R.id == id), ← plc_ne (fun R => R.txn == x), hpx, hpy]
  obtain ⟨bx, hbx⟩ : ∃ bx, (px != -1) = bx := ⟨_, rfl⟩
  obtain ⟨b2, hb2⟩ : ∃ b2, (py != -1) = b2 := ⟨_, rfl⟩
  rw [hbx, hb2] at hany
  clear hFi hFt hpx hpy
  have HWi := Lib.hid (dWithID id)
  have HTx := Lib.hid (dOfTxn x)
  go_enter Try.func8, Try.ntmps8
  go_wp2_with fail
  go_at_call 35
  refine (HLo.out _).mono ?_
  rintro e w1 ⟨rfl, g1⟩
  have HB1 := Lib.hid (And.intro (g1.at' HX.out.1) (And.intro (g1.at' HX.out.2.1) (HX.out.2.2.1.trans g1)))
  have hp1 := g1.at' HX.out.1
  have hN1 := HX.out.2.2.1.trans g1
  have s0 : ∀ z, Nw w1 z → z.cell? ⟨w.heap.size, 0, none⟩ = some (.int .i64 t) := fun z hz => hz.kp (hcell (j := 0) hp1)
  have s1 : ∀ z, Nw w1 z → z.cell? ⟨w.heap.size, 1, none⟩ = some (.int .i64 r) := fun z hz => hz.kp (hcell (j := 1) hp1)
  have s2 : ∀ z, Nw w1 z → z.cell? ⟨w.heap.size, 2, none⟩ = some (.slice a q.length c) := fun z hz => hz.kp (hcell (j := 2) hp1)
  have s3 : ∀ z, Nw w1 z → z.cell? ⟨w.heap.size, 3, none⟩ = some (.int .i64 W) := fun z hz => hz.kp (hcell (j := 3) hp1)
  clear hp1 g1 HX HLo
  go_wp2
  have q1 := (Nw.refl w1).drew1
  obtain ⟨wc, hwc⟩ : ∃ wc, w1.drew = wc := ⟨_, rfl⟩
  have HH := Lib.hid (And.intro hok hat)
  clear hok hat h hi
  cases bx <;> cases b2
  all_goals
   refine region_told [some true, some true, some false, none, some false, none, some true, some true, some true, some true, some false, none, some false, none, some true, some true, some true] (Nw w1) (by kernel_rfl) (by kernel_rfl) (by kernel_rfl) q1 ?_
   rw [hwc] at q1 ⊢
   clear hwc
   repeat (first
    | (refine HW.off ?_)
    | (refine HW.take' ?_; (first | (refine ⟨undef, Or.inr ⟨by rfl, rfl⟩, ?_⟩) | (apply Exists.intro; refine ⟨Or.inl ⟨by rfl, ?_⟩, ?_⟩; (intro x hx; go_simp; first | done | with_reducible rfl))); (try simp only [Act.put, List.setIfInBounds_toArray, List.set_cons_zero, List.set_cons_succ]))
    | (refine HW.go (fun K hK => ?_); go_simp; (first
      | (go_at_call 37; (with_reducible refine (HWi.out _).mono ?_); rintro e wy ⟨pa, rfl, g2, hbx⟩; refine hK.out _ _ (q1.trans g2) ?_; intro _; replace q1 := q1.trans g2; clear hK K g2; replace hbx := Tells.withID hbx)
      | (go_at_call 38; (with_reducible refine (HTx.out _).mono ?_); rintro e wy ⟨pa, rfl, g2, hbx⟩; refine hK.out _ _ (q1.trans g2) ?_; intro _; replace q1 := q1.trans g2; clear hK K g2; replace hbx := Tells.ofTxn hbx)
      | (go_at_call 36; (first | (with_reducible refine (HFi.out _ (HB1.out.2.2.trans q1) _ hbx).mono ?_) | (with_reducible refine (HFt.out _ (HB1.out.2.2.trans q1) _ hbx).mono ?_)); rintro e wy ⟨rfl, g2⟩; refine hK.out _ _ (q1.trans g2) ?_; intro _; replace q1 := q1.trans g2; clear hK K g2 hbx)
      | (refine hK.out _ _ q1 ?_; intro _; clear hK K))))
   refine HW.end_ ?_
   refine NoPanic.normal ?_
  · have hq1 := q1.at' HB1.out.2.1
    have hp1 := q1.at' HB1.out.1
    have HQ := Lib.hid (And.intro hq1 (HB1.out.2.2.trans q1))
    have c0 := hcell (j := 0) hp1
    have c1 := hcell (j := 1) hp1
    have c2 := hcell (j := 2) hp1
    have c3 := hcell (j := 3) hp1
    have hpl := hlt hp1
    have HXX := Lib.hid (And.intro hX (And.intro hgood hany))
    clear hq1 hp1 q1 s0 s1 s2 s3 hX hgood hany HB1 HFi HFt HWi HTx hN1 hy
    go_wp2_with fail
    go_at_call 39
    refine (HLi.out _ HQ.out.2).mono ?_
    rintro e w2 ⟨p, v1, b, n, rfl, g2, hL2, hnq⟩
    have HQ2 := Lib.hid HQ.out
    clear c0 c1 c2 c3 hpl HLi HQ
    have hA := dAdd hL2 ⟨id, x, 0, m, 0⟩ rfl (fun y => by have := cntQ_bd q y; omega) (by omega) (by omega)
    unfold rqV at hA
    simp only at hA
    have HA := Lib.hid hA
    have HG2 := Lib.hid g2
    clear hA hL2 g2
    go_wp2_with fail
    go_at_call 41
    refine HA.out.mono ?_
    rintro e w3 ⟨rfl, v2, hL3, g3⟩
    have hlk : q.length < (q ++ [(⟨id, x, 0, m, 0⟩ : Rq)]).length := by simp
    have hke : (q ++ [(⟨id, x, 0, m, 0⟩ : Rq)])[q.length]'hlk = ⟨id, x, 0, m, 0⟩ := by simp
    obtain ⟨fr, hfr⟩ : ∃ fr, free q m = fr := ⟨_, rfl⟩
    have hE := dEnterB (hL3.eq (cntQ_snoc q ⟨id, x, 0, m, 0⟩).symm) q.length hlk ⟨HH.out.1.w0, HH.out.1.wB⟩ (fun R hR => by
      rcases List.mem_append.1 hR with hR | hR
      · exact (HH.out.1.rt R hR).md
      · rw [List.mem_singleton] at hR; subst hR; rfl) (by omega) (by simp; omega) ⟨id, x, 0, m, 0⟩ hke hkm fr ((ask_en HH.out.1 id x m).trans hfr)
    simp only [enR] at hE
    have HE := Lib.hid hE
    have HG3 := Lib.hid (And.intro HG2.out g3)
    clear hE hL3 g3 HA HG2 hke
    go_wp2_with fail
    go_at_call 40
    refine HE.out.mono ?_
    rintro e w5 ⟨rfl, g4, n5, _, hL5⟩
    have g5 : Nw wy w5 := Below.trans (Below.trans HG3.out.1 HG3.out.2) g4
    obtain ⟨hX, hgood, hany⟩ := HXX.out
    clear HE HG3 HXX
    have hset : ∀ R : Rq, (q ++ [(⟨id, x, 0, m, 0⟩ : Rq)]).set q.length R = q ++ [R] := fun R => by simp
    cases fr
    · have hR := hX.symm.trans (ask_no (h := ⟨t, r, W, q⟩) hgood hany (by rw [hfr]; simp))
      subst hR
      simp only [Bool.false_eq_true, if_true, if_false] at hL5
      rw [hset] at hL5
      obtain ⟨a2, k2, hv2⟩ := (RqOwn.rd hL5.own).form
      obtain ⟨n2, hn2⟩ : ∃ n, (q ++ [(⟨id, x, 0, m, W + 1⟩ : Rq)]).length = n := ⟨_, rfl⟩
      rw [hn2] at hv2
      subst hv2
      have HL5 := Lib.hid hL5
      have hpl := hlt hL5.obj
      have e0 := hcell (j := 0) hL5.obj
      have e1 := hcell (j := 1) hL5.obj
      have e2 := hcell (j := 2) hL5.obj
      have e3 := hcell (j := 3) hL5.obj
      have hq5 := g5.at' HQ2.out.1
      have HN5 := Lib.hid (HQ2.out.2.trans g5)
      have HS := Lib.hid (hlt HQ2.out.1)
      have HQF := Lib.hid (HQ2.out.2.sz)
      have d0 := hcell (j := 0) hq5
      have d1 := hcell (j := 1) hq5
      have d2 := hcell (j := 2) hq5
      have d3 := hcell (j := 3) hq5
      have fz := fun k => hfz (j := k) hq5
      have hsl2 := hlt hq5
      clear hL5 hset hq5 g5 HQ2 hn2 hX hfr
      go_wp2
      exact bodyPost_ret (v := .tuple #[.agg #[.int .i64 t, .int .i64 r, .slice a2 n2 k2, .int .i64 (W + 1)], .bool false, .int .i64 0]) (by simp only [results, Try.results8]; simp [go_sem, *]) rfl ⟨_, rfl, fill_nw HN5.out (Nat.le_succ _) _ _ _ _, (HL5.out.done HS.out _ _ _ _).1, HL5.out.own.cap, HL5.out.own.fresh HQF.out⟩
    · have hR := hX.symm.trans (ask_yes (h := ⟨t, r, W, q⟩) hgood hany (by rw [hfr]))
      subst hR
      simp only [Bool.false_eq_true, if_true, if_false] at hL5
      rw [hset] at hL5
      obtain ⟨a2, k2, hv2⟩ := (RqOwn.rd hL5.own).form
      obtain ⟨n2, hn2⟩ : ∃ n, (q ++ [(⟨id, x, m, m, 0⟩ : Rq)]).length = n := ⟨_, rfl⟩
      rw [hn2] at hv2
      subst hv2
      have HL5 := Lib.hid hL5
      have hpl := hlt hL5.obj
      have e0 := hcell (j := 0) hL5.obj
      have e1 := hcell (j := 1) hL5.obj
      have e2 := hcell (j := 2) hL5.obj
      have e3 := hcell (j := 3) hL5.obj
      have hq5 := g5.at' HQ2.out.1
      have HN5 := Lib.hid (HQ2.out.2.trans g5)
      have HS := Lib.hid (hlt HQ2.out.1)
      have HQF := Lib.hid (HQ2.out.2.sz)
      have d0 := hcell (j := 0) hq5
      have d1 := hcell (j := 1) hq5
      have d2 := hcell (j := 2) hq5
      have d3 := hcell (j := 3) hq5
      have fz := fun k => hfz (j := k) hq5
      have hsl2 := hlt hq5
      clear hL5 hset hq5 g5 HQ2 hn2 hX hfr
      go_wp2
      exact bodyPost_ret (v := .tuple #[.agg #[.int .i64 t, .int .i64 r, .slice a2 n2 k2, .int .i64 W], .bool true, .int .i64 0]) (by simp only [results, Try.results8]; simp [go_sem, *]) rfl ⟨_, rfl, fill_nw HN5.out (Nat.le_succ _) _ _ _ _, (HL5.out.done HS.out _ _ _ _).1, HL5.out.own.cap, HL5.out.own.fresh HQF.out⟩
  · have hR := hX.symm.trans (ask_two (h := ⟨t, r, W, q⟩) hgood hany)
    subst hR
    have hq1 := q1.at' HB1.out.2.1
    have HQ := Lib.hid (HB1.out.2.2.trans q1)
    have d0 := hcell (j := 0) hq1
    have d1 := hcell (j := 1) hq1
    have d2 := hcell (j := 2) hq1
    have d3 := hcell (j := 3) hq1
    have fz := fun k => hfz (j := k) hq1
    have hsl2 := hlt hq1
    clear hq1 q1 s0 s1 s2 s3 hX hgood hany HB1 HFi HFt HLi HWi HTx HH hN1 hy hkm
    go_wp2
    exact bodyPost_ret (v := .tuple #[.agg #[.int .i64 0, .int .i64 0, .slice none 0 0, .int .i64 0], .bool false, .int .i64 4]) (by simp only [results, Try.results8]; simp [go_sem, *]) rfl ⟨_, rfl, fill_nw HQ.out (Nat.le_succ _) _ _ _ _, Rd.nil _, Nat.le_refl _, Fresh.nil _ _⟩
  · have hR := hX.symm.trans (ask_two (h := ⟨t, r, W, q⟩) hgood hany)
    subst hR
    have hq1 := q1.at' HB1.out.2.1
    have HQ := Lib.hid (HB1.out.2.2.trans q1)
    have d0 := hcell (j := 0) hq1
    have d1 := hcell (j := 1) hq1
    have d2 := hcell (j := 2) hq1
    have d3 := hcell (j := 3) hq1
    have fz := fun k => hfz (j := k) hq1
    have hsl2 := hlt hq1
    clear hq1 q1 s0 s1 s2 s3 hX hgood hany HB1 HFi HFt HLi HWi HTx HH hN1 hy hkm
    go_wp2
    exact bodyPost_ret (v := .tuple #[.agg #[.int .i64 0, .int .i64 0, .slice none 0 0, .int .i64 0], .bool false, .int .i64 4]) (by simp only [results, Try.results8]; simp [go_sem, *]) rfl ⟨_, rfl, fill_nw HQ.out (Nat.le_succ _) _ _ _ _, Rd.nil _, Nat.le_refl _, Fresh.nil _ _⟩
  · have hR := hX.symm.trans (ask_two (h := ⟨t, r, W, q⟩) hgood hany)
    subst hR
    have hq1 := q1.at' HB1.out.2.1
    have HQ := Lib.hid (HB1.out.2.2.trans q1)
    have d0 := hcell (j := 0) hq1
    have d1 := hcell (j := 1) hq1
    have d2 := hcell (j := 2) hq1
    have d3 := hcell (j := 3) hq1
    have fz := fun k => hfz (j := k) hq1
    have hsl2 := hlt hq1
    clear hq1 q1 s0 s1 s2 s3 hX hgood hany HB1 HFi HFt HLi HWi HTx HH hN1 hy hkm
    go_wp2
    exact bodyPost_ret (v := .tuple #[.agg #[.int .i64 0, .int .i64 0, .slice none 0 0, .int .i64 0], .bool false, .int .i64 4]) (by simp only [results, Try.results8]; simp [go_sem, *]) rfl ⟨_, rfl, fill_nw HQ.out (Nat.le_succ _) _ _ _ _, Rd.nil _, Nat.le_refl _, Fresh.nil _ _⟩
end Go.Proofs.Ytmciiobncfchlaa
