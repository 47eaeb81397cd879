/- Texts merged: QvX, BdS, BdT, BdU, BdV, Rt, BdW, BdX -/
import Derived.Test.YtfemopcichmlmaaGreatRRRBucketFullB18

/- The developers' package queue: Hand. -/
section
namespace Go.Proofs.YtfemopcichmlmaaGreatRRR
open Go.RowKit
set_option linter.unusedVariables false      -- a contract need not use every name

theorem hn_plc {W : Int} {q : List Rq} {id x : Int} {k : Nat} (h : Ok W q) (hk : k < q.length) (hf : fnd q id = some q[k]) :
    (q.any fun o => !(o.id == id) && o.txn == x) = ((plc (fun R => R.txn == x) q != -1) && (plc (fun R => R.txn == x) q != (k : Int))) := by
  rcases plc_form (fun R => R.txn == x) q with ⟨h1, h2⟩ | ⟨m, h1, hm, h3, h4⟩
  · rw [h1]
    rw [hn_none hk hf (fun m hm _ e => by have := h2 _ (List.getElem_mem hm); simp [e] at this)]
    rfl
  · rw [h1]
    have e1 : ((m : Int) != -1) = true := by rw [bne_iff_ne]; omega
    rw [e1, Bool.true_and]
    have h3' : q[m].txn = x := by simpa using h3
    by_cases e : m = k
    · subst e
      have : ((m : Int) != (m : Int)) = false := by simp
      rw [this]
      refine hn_none hk hf (fun j hj ne ej => ?_)
      have e5 : q[j] = q[m] := h.injT _ (List.getElem_mem hj) _ (List.getElem_mem hk) (by rw [ej, h3'])
      have e6 := id_ne h hj hk ne
      exact e6 (by rw [e5])
    · have : ((m : Int) != (k : Int)) = true := by rw [bne_iff_ne]; omega
      rw [this]
      exact hn_hit h hk hf hm e h3'
set_option maxRecDepth 100000 in
set_option maxHeartbeats 4000000 in
theorem dHand (t r W id x : Int) (v : Value) (q : List Rq) (w : World) (hl : q.length ≤ 1000) (hok : Ok W q) (h : RqAt w v q) :
    Calls Tryz.prog 40 #[hdV t r v W, .int .i64 id, .int .i64 x] w (HD1 (hnR ⟨t, r, W, q⟩ id x) w) := by
  have HOk := Lib.hid hok
  clear hok
  obtain ⟨X, hX⟩ : ∃ X, hnR ⟨t, r, W, q⟩ id x = X := ⟨_, rfl⟩
  rw [hX]
  unfold HD1
  have HCl := Lib.hid (fun (w1 : World) (g : Nw w w1) => dClone v q w1 hl (h.nw g))
  obtain ⟨px, hpx⟩ : ∃ px, plc (fun R => R.id == id) q = px := ⟨_, rfl⟩
  have hFi := fun (w1 : World) (g : Nw w w1) (f : Value) (hf : Tells w1 f (fun R => R.id == id)) => dFind t r W v f _ q w1 hl (h.nw g) hf
  rw [hpx] at hFi
  obtain ⟨py, hpy⟩ : ∃ py, plc (fun R => R.txn == x) q = py := ⟨_, rfl⟩
  have hFt := fun (w1 : World) (g : Nw w w1) (f : Value) (hf : Tells w1 f (fun R => R.txn == x)) => dFind t r W v f _ q w1 hl (h.nw g) hf
  rw [hpy] at hFt
  have HAt := Lib.hid h
  obtain ⟨a, c, rfl, _⟩ := h
  unfold hdV at hFi hFt ⊢
  have HFi := Lib.hid hFi
  have HFt := Lib.hid hFt
  clear hFi hFt
  have HWi := Lib.hid (dWithID id)
  have HTx := Lib.hid (dOfTxn x)
  obtain ⟨hx1, hx2, hx3, hx4⟩ := two_boxes w (.cells #[.int .i64 t, .int .i64 r, .slice a q.length c, .int .i64 W] 52) (.cells #[.int .i64 0, .int .i64 0, .slice none 0 0, .int .i64 0] 52)
  obtain ⟨w1, hw1⟩ : ∃ w1, (w.alloc (.cells #[.int .i64 t, .int .i64 r, .slice a q.length c, .int .i64 W] 52)).alloc (.cells #[.int .i64 0, .int .i64 0, .slice none 0 0, .int .i64 0] 52) = w1 := ⟨_, rfl⟩
  rw [hw1] at hx1 hx2 hx3
  have HB1 := Lib.hid (And.intro (And.intro hx1 hx2) hx3)
  have s0 : ∀ z, Nw w1 z → z.cell? ⟨w.heap.size, 0, none⟩ = some (.int .i64 t) := fun z hz => hz.kp (hcell (j := 0) hx1)
  have s1 : ∀ z, Nw w1 z → z.cell? ⟨w.heap.size, 1, none⟩ = some (.int .i64 r) := fun z hz => hz.kp (hcell (j := 1) hx1)
  have s2 : ∀ z, Nw w1 z → z.cell? ⟨w.heap.size, 2, none⟩ = some (.slice a q.length c) := fun z hz => hz.kp (hcell (j := 2) hx1)
  have s3 : ∀ z, Nw w1 z → z.cell? ⟨w.heap.size, 3, none⟩ = some (.int .i64 W) := fun z hz => hz.kp (hcell (j := 3) hx1)
  clear hx1 hx2 hx3 hx4
  have HW1 := Lib.hid hw1
  clear hw1
  have q1 := (Nw.refl w1).drewQ
  obtain ⟨wc, hwc⟩ : ∃ wc, w1.drew = wc := ⟨_, rfl⟩
  go_enter Tryz.func40, Tryz.ntmps40
  go_wp2
  rw [HW1.out]
  have hB : Nw w1 w1 := Nw.refl w1
  have HT : ∀ (z : World), Nw w1 z → Nw w z := fun z hz => HB1.out.2.trans hz
  clear q1 hwc
  go_region_held3 (fun y => Nw w1 y) (first | assumption | exact Nw.drewQ (by assumption) | exact Nw.trans (by assumption) (by assumption)) (first | (go_at_call 49; (with_reducible refine (HWi.out _).mono ?_); rintro e wy ⟨pa, rfl, hg, hbx⟩; replace hbx := Tells.withID hbx) | (go_at_call 50; (with_reducible refine (HTx.out _).mono ?_); rintro e wy ⟨pa, rfl, hg, hbx⟩; replace hbx := Tells.ofTxn hbx) | (go_at_call 48; (with_reducible refine (HFi.out _ (HT _ (by assumption)) _ hbx).mono ?_); rintro e wy ⟨rfl, hg⟩; clear hbx) | (go_at_call 48; (with_reducible refine (HFt.out _ (HT _ (by assumption)) _ hbx).mono ?_); rintro e wy ⟨rfl, hg⟩; clear hbx))

  rename_i q1
  have HN := Lib.hid (HB1.out.2.trans q1)
  have hp1 := q1.at' HB1.out.1.1
  have hq1 := q1.at' HB1.out.1.2
  have c0 := hcell (j := 0) hp1
  have c1 := hcell (j := 1) hp1
  have c2 := hcell (j := 2) hp1
  have c3 := hcell (j := 3) hp1
  have hpl := hlt hp1
  rcases at_plc q id with ⟨e1, hf⟩ | ⟨k, e1, hk, hf⟩
  · obtain rfl := hpx.symm.trans e1
    have hR := hX.symm.trans (show hnR ⟨t, r, W, q⟩ id x = (noH, 5) by unfold hnR; rw [hf])
    subst hR
    have d0 := hcell (j := 0) hq1
    have d1 := hcell (j := 1) hq1
    have d2 := hcell (j := 2) hq1
    have d3 := hcell (j := 3) hq1
    have fz := fun k => hfz (j := k) hq1
    have hsl2 := hlt hq1
    clear hpx hpy hX e1 hf s0 s1 s2 s3 HB1 HFi HFt HWi HTx HAt HW1 q1 hp1 hq1 HCl
    go_wp2
    exact bodyPost_ret (v := .tuple #[.agg #[.int .i64 0, .int .i64 0, .slice none 0 0, .int .i64 0], .int .i64 5]) (by simp only [results, Tryz.results40]; simp [go_sem, *]) rfl ⟨_, rfl, fill_nw HN.out (Nat.le_succ _) _ _ _ _, Rd.nil _, Nat.le_refl _, Fresh.nil _ _⟩
  · obtain rfl := hpx.symm.trans e1
    have dk : ((k : Int) == -1) = false := by simp
    have hpl2 := hn_plc (x := x) HOk.out hk hf
    rw [hpy] at hpl2
    have hX1 : (q.any fun o => !(o.id == id) && o.txn == x) = true → X = (noH, 4) := fun s => hX.symm.trans (by unfold hnR; rw [hf]; exact if_pos s)
    have hX2 : ¬ (q.any fun o => !(o.id == id) && o.txn == x) = true → 0 < q[k].sn → X = (noH, 7) := fun s m => hX.symm.trans (by unfold hnR; rw [hf]; simp only [if_neg s]; exact if_pos m)
    have hX3 : ¬ (q.any fun o => !(o.id == id) && o.txn == x) = true → ¬ 0 < q[k].sn → X = (⟨t, r, W, q.set k ⟨q[k].id, x, q[k].md, q[k].wt, q[k].sn⟩⟩, 0) := fun s m => hX.symm.trans (by unfold hnR; rw [hf]; simp only [if_neg s]; rw [if_neg m, hn_at HOk.out hk hf])
    rw [hpl2] at hX1 hX2 hX3
    obtain ⟨bx, hbx⟩ : ∃ bx, (py != -1) = bx := ⟨_, rfl⟩
    obtain ⟨by2, hby2⟩ : ∃ by2, (py != (k : Int)) = by2 := ⟨_, rfl⟩
    rw [hbx, hby2] at hX1 hX2 hX3
    by_cases hy : (bx && by2) = true
    · have hR := hX1 hy
      subst hR
      rw [Bool.and_eq_true] at hy
      obtain ⟨rfl, rfl⟩ := hy
      have d0 := hcell (j := 0) hq1
      have d1 := hcell (j := 1) hq1
      have d2 := hcell (j := 2) hq1
      have d3 := hcell (j := 3) hq1
      have fz := fun k => hfz (j := k) hq1
      have hsl2 := hlt hq1
      clear hpx hpy hX e1 hf s0 s1 s2 s3 HB1 HFi HFt HWi HTx HAt HW1 q1 hp1 hq1 HCl hX1 hX2 hX3 hpl2
      go_wp2
      exact bodyPost_ret (v := .tuple #[.agg #[.int .i64 0, .int .i64 0, .slice none 0 0, .int .i64 0], .int .i64 4]) (by simp only [results, Tryz.results40]; simp [go_sem, *]) rfl ⟨_, rfl, fill_nw HN.out (Nat.le_succ _) _ _ _ _, Rd.nil _, Nat.le_refl _, Fresh.nil _ _⟩
    rcases HAt.out with ⟨a', c', e3, ⟨e4, _⟩ | ⟨b, o, e4, hc⟩⟩
    · subst e4; simp at hk
    simp only [Value.slice.injEq, true_and] at e3
    obtain ⟨rfl, rfl⟩ := e3
    subst e4
    have hki : (k : Int) < (q.length : Int) := by omega
    have hce := (hc.nw HN.out).cell k hk
    have HCe := Lib.hid (fun (z : World) (g : Nw w z) => (hc.nw g).cell k hk)
    have HWa := Lib.hid (fun z => dWaits q[k] z)
    have HHo := Lib.hid (fun z => dHolds q[k] z)
    have HRow := Lib.hid (fun (z : World) (g0 g cap : Nat) (j : Nat) (hj : j < 5) (u : Value) (new : Rq) (e : (rqrow q[k]).set j u = rqrow new) (h : RqOwn z g0 (.slice (some ⟨g, 0, none⟩) q.length cap) q) => own_upd h rfl k hk j hj u new e)
    have HRow2 := Lib.hid (fun (z : World) (g0 g cap : Nat) (X : Rq) (j : Nat) (hj : j < 5) (u : Value) (new : Rq) (e : (rqrow X).set j u = rqrow new) (h : RqOwn z g0 (.slice (some ⟨g, 0, none⟩) q.length cap) (q.set k X)) => own_upd h (by rw [List.length_set]) k (by rw [List.length_set]; exact hk) j hj u new (by rw [List.getElem_set_self]; exact e))
    simp only [List.set_set] at HRow2
    have HCo := Lib.hid (fun (z : World) (g0 g cap : Nat) (h : RqOwn z g0 (.slice (some ⟨g, 0, none⟩) q.length cap) q) => own_cell h rfl k hk)
    generalize q[k] = R at *
    obtain ⟨b0, b1, b2, b3, b4⟩ := R
    unfold rqV at HWa HHo
    have m0 := hce 0 _ rfl
    have m1 := hce 1 _ rfl
    have m2 := hce 2 _ rfl
    have m3 := hce 3 _ rfl
    have m4 := hce 4 _ rfl
    simp only [Nat.add_zero] at m0
    clear hce
    have HX2 := Lib.hid (hX2 hy)
    have HX3 := Lib.hid (hX3 hy)
    have HY := Lib.hid hy
    have HP := Lib.hid (And.intro hp1 hq1)
    clear hX1 hX2 hX3 hpl2 hpx hpy hX e1 hf s0 s1 s2 s3 HB1 HFi HFt HWi HTx HW1 q1 hc HOk HHo hy
    cases bx <;> cases by2 <;> first
     | (exfalso; exact absurd rfl HY.out)
     | skip
    all_goals
      clear HY
      go_wp2_with fail
      go_at_call 57
      refine (HWa.out _).mono ?_
      rintro e w2 ⟨rfl, g2⟩
      have hp2 := g2.at' HP.out.1
      have hq2 := g2.at' HP.out.2
      have HN2 := Lib.hid (HN.out.trans g2)
      clear c0 c1 c2 c3 hpl hp1 hq1
      have c0 := hcell (j := 0) hp2
      have c1 := hcell (j := 1) hp2
      have c2 := hcell (j := 2) hp2
      have c3 := hcell (j := 3) hp2
      have hpl := hlt hp2
      clear m0 m1 m2 m3 m4 g2 HWa HP
      by_cases hs : 0 < b4
      · have ds : decide (0 < b4) = true := by simpa using hs
        have hR := HX2.out hs
        subst hR
        have d0 := hcell (j := 0) hq2
        have d1 := hcell (j := 1) hq2
        have d2 := hcell (j := 2) hq2
        have d3 := hcell (j := 3) hq2
        have fz := fun k => hfz (j := k) hq2
        have hsl2 := hlt hq2
        clear hs HX2 HX3 HCe HRow HRow2 HCo HCl HAt HN hp2 hq2
        go_wp2
        exact bodyPost_ret (v := .tuple #[.agg #[.int .i64 0, .int .i64 0, .slice none 0 0, .int .i64 0], .int .i64 7]) (by simp only [results, Tryz.results40]; simp [go_sem, *]) rfl ⟨_, rfl, fill_nw HN2.out (Nat.le_succ _) _ _ _ _, Rd.nil _, Nat.le_refl _, Fresh.nil _ _⟩
      have ds : decide (0 < b4) = false := by simpa using hs
      have hR := HX3.out (by first | exact hs | exact Int.not_lt.1 hs)
      subst hR
      have HQ := Lib.hid (And.intro hp2 hq2)
      have HCl2 := Lib.hid (HCl.out _ HN2.out)
      clear hs HX2 HX3 HCe HCl HAt hp2 hq2
      go_wp2_with fail
      go_at_call 27
      refine HCl2.out.mono ?_
      rintro e w4 ⟨v4, rfl, g4, hO⟩
      obtain ⟨g, cap, rfl, hg0, hgl, _⟩ := RqOwn.at hO hk
      have hne : ¬ g = w.heap.size := by have := hlt HQ.out.1; omega
      have hne' : ¬ w.heap.size = g := fun e => hne e.symm
      have hn2 : ¬ g = w.heap.size + 1 := by have := hlt HQ.out.2; omega
      have hn2' : ¬ w.heap.size + 1 = g := fun e => hn2 e.symm
      have hp4 := g4.at' HQ.out.1
      have hq4 := g4.at' HQ.out.2
      have HB := Lib.hid (And.intro (hlt HQ.out.1) (hlt HQ.out.2))
      have hO1 := own_st hO (p := ⟨w.heap.size, 2, none⟩) (by exact HB.out.1) (.slice (some ⟨g, 0, none⟩) q.length cap)
      have hO2 := HRow.out _ _ _ _ 1 (by decide) (.int .i64 x) ⟨b0, x, b2, b3, b4⟩ rfl hO1
      have hO4 := fill_own hO2 (rb := w.heap.size + 1) HB.out.2 (.int .i64 t) (.int .i64 r) (.slice (some ⟨g, 0, none⟩) q.length cap) (.int .i64 W)
      have HO4 := Lib.hid hO4
      have HN4 := Lib.hid (HN2.out.trans g4)
      have HG := Lib.hid (And.intro hg0 HN2.out.sz)
      have hoc := HCo.out _ _ _ _ hO
      have c0 := hcell (j := 0) hp4
      have c1 := hcell (j := 1) hp4
      have c2 := hcell (j := 2) hp4
      have c3 := hcell (j := 3) hp4
      have hpl := hlt hp4
      have fp := fun k => hfz (j := k) hp4
      have fg := fun k => own_frz hO rfl k
      have m1 := hoc 1 _ rfl
      have d0 := hcell (j := 0) hq4
      have d1 := hcell (j := 1) hq4
      have d2 := hcell (j := 2) hq4
      have d3 := hcell (j := 3) hq4
      have fz := fun k => hfz (j := k) hq4
      have hsl2 := hlt hq4
      clear hq4 hp4 hO hO1 hO2 hO4 hoc g4 HCl2 HN HRow HRow2 HCo hg0
      go_wp2
      exact bodyPost_ret (v := .tuple #[.agg #[.int .i64 t, .int .i64 r, .slice (some ⟨g, 0, none⟩) q.length cap, .int .i64 W], .int .i64 0]) (by simp only [results, Tryz.results40]; simp [go_sem, *]) rfl ⟨_, rfl, fill_nw ((HN4.out.st (Nat.le_refl _) _).st (by show w.heap.size ≤ g; have := HG.out; omega) _) (Nat.le_succ _) _ _ _ _, RqOwn.rd HO4.out, HO4.out.cap, HO4.out.fresh HG.out.2⟩
end Go.Proofs.YtfemopcichmlmaaGreatRRR
end

/- Upgrade and Hand. -/
section
namespace Go.Proofs.YtfemopcichmlmaaGreatRRR
open Go.RowKit Go.Shelf
set_option linter.unusedVariables false      -- a contract need not use every name

theorem scan_end {hs : List Hq} {X : Hq} (hd : Done X.q) (hn : X.q ≠ []) : endS hs X = putH hs X := by
  unfold endS
  have : scH X = X := by unfold scH; rw [scan_done hd]
  rw [this, if_neg hn]
theorem upQ_ne {W : Int} {q : List Rq} {r : Rq} {m : Int} (hq : q ≠ []) : (upQ W q r m).2.1 ≠ [] := by
  have h1 : ∀ f id, chg f id q ≠ [] := fun f id e => by
    have := congrArg List.length e
    unfold chg at this
    rw [List.length_map] at this
    exact hq (List.length_eq_zero_iff.1 this)
  unfold upQ
  split
  · exact hq
  · split
    · exact h1 _ _
    · exact h1 _ _
/-- What Upgrade comes to. -/
def UpD (w : World) (o mb po n : Nat) (F : Nat → Prop) (l : List Hp) (L : List Bool) (id a : Int) (e : Ending) (w' : World) : Prop :=
  e = .returned (.tuple #[.bool (upBG (hsP l) id a), .int .i64 (upBE (hsP l) id a)]) ∧ ∃ l', hsP l' = upBS (hsP l) id a ∧ DbTo w o mb po n F w' l' L
set_option maxRecDepth 20000 in
set_option maxHeartbeats 4000000 in
theorem upgrade_d {w : World} {o mb po n k : Nat} {l : List Hp} {L : List Bool} {F : Nat → Prop} (h : Db w o mb po n l L F) (b : BInv n k (hsP l) L) (hk : k ≤ 800) (hn : n ≤ 64) (id a : Int) :
    Calls Tryz.prog 23 #[.pointer (some ⟨o, 0, none⟩), .int .i64 id, .int .i64 a] w (UpD w o mb po n F l L id a) := by
  have H := Lib.hid h
  have hol := h.ol
  have HMd := Lib.hid (bmade_yes o w h.c0)
  have HWi := Lib.hid (with_any h id)
  obtain ⟨hi, hW, hql⟩ := wth_ok b id
  have hbl := (binv_up b (by omega) id a).len
  obtain ⟨X, hX⟩ : ∃ X, upR (wthP l id).h id a = X := ⟨_, rfl⟩
  have hC := fun w1 (g : Nw w w1) => dUpgrade (wthP l id).h.t (wthP l id).h.r (wthP l id).h.W id a (hpV (wthP l id)) (wthP l id).h.q w1 (by omega) hi.ok ((wth_rd h id).nw g)
  rw [show (⟨(wthP l id).h.t, (wthP l id).h.r, (wthP l id).h.W, (wthP l id).h.q⟩ : Hq) = (wthP l id).h from rfl, hX] at hC
  have key : (X.2.2 ≠ 0 ∧ upBE (hsP l) id a = X.2.2 ∧ upBG (hsP l) id a = false ∧ upBS (hsP l) id a = hsP l) ∨ (X.2.2 = 0 ∧ (upBE (hsP l) id a = 0 ∧ upBG (hsP l) id a = X.2.1) ∧ upBS (hsP l) id a = putH (hsP l) X.1 ∧ endS (hsP l) X.1 = putH (hsP l) X.1 ∧ wfN (X.1.t, X.1.r) ∧ X.1.q.length ≤ 1000 ∧ Ok X.1.W X.1.q ∧ (endS (hsP l) X.1).length ≤ 64) := by
    cases e : whP l id with
    | none =>
      have e1 : ofId (hsP l) id = none := by rw [wth_of, e]; rfl
      have e0 : X = (noH, false, if badM a then 2 else 5) := by
        rw [← hX, wth_none e]
        by_cases hb : a = 0 ∨ knI a = false
        · rw [if_pos (show badM a from hb)]; unfold upR; rw [if_pos hb]
        · rw [if_neg (show ¬ badM a from hb)]; unfold upR; rw [if_neg hb]; rfl
      have e2 : upBE (hsP l) id a = if badM a then 2 else 5 := by unfold upBE; rw [e1]
      subst e0
      refine .inl ⟨?_, ?_, ?_, ?_⟩
      · simp only; split <;> decide
      · exact e2
      · unfold upBG; rw [if_neg (by rw [e2]; split <;> decide)]
      · unfold upBS; rw [if_neg (by rw [e2]; split <;> decide)]
    | some x =>
      obtain ⟨ex, hx, r, hr⟩ := wth_some e
      have e1 : ofId (hsP l) id = some x.h := by rw [wth_of, e]; rfl
      rw [ex] at hi hW hql hX
      have e2 : upBE (hsP l) id a = X.2.2 := by
        unfold upBE
        rw [e1, ← hX]
        by_cases hb : a = 0 ∨ knI a = false
        · rw [if_pos (show badM a from hb)]; unfold upR; rw [if_pos hb]
        · rw [if_neg (show ¬ badM a from hb)]
      by_cases h0 : X.2.2 = 0
      · have hup := h0
        rw [← hX] at hup
        obtain ⟨r', u1, u2, u3, u4, u5, u6, u7⟩ := up_is hi.ok hup
        have hS : upBS (hsP l) id a = putH (hsP l) X.1 := by unfold upBS; rw [if_pos (e2.trans h0), e1]; simp only; rw [hX]
        have hG : upBG (hsP l) id a = X.2.1 := by unfold upBG; rw [if_pos (e2.trans h0), e1]; simp only; rw [hX]
        have hx1 : X.1 = ⟨x.h.t, x.h.r, (upQ x.h.W x.h.q r' a).1, (upQ x.h.W x.h.q r' a).2.1⟩ := by rw [← hX, u7]
        have hne : x.h.q ≠ [] := List.ne_nil_of_mem u1
        have hdn : Done X.1.q := by rw [hx1]; exact done_upg hi.ok hi.done r' u1 a u4 u5
        have hok : Ok X.1.W X.1.q := by rw [hx1]; exact ok_up hi.ok r' u1 a u4 u5 (by omega)
        have hen := scan_end (hs := hsP l) hdn (by rw [hx1]; exact upQ_ne hne)
        rw [hS] at hbl
        refine .inr ⟨h0, ⟨e2.trans h0, hG⟩, hS, hen, by rw [hx1]; exact h.map.wf x hx, ?_, hok, by rw [hen]; omega⟩
        rw [hx1]
        have := (upQ_W x.h.W x.h.q r' a).2.2
        simp only
        omega
      · refine .inl ⟨h0, e2, ?_, ?_⟩
        · unfold upBG; rw [if_neg (by rw [e2]; exact h0)]
        · unfold upBS; rw [if_neg (by rw [e2]; exact h0)]
  have HK := Lib.hid key
  have HC := Lib.hid hC
  clear h b hC key hi hW hql hbl hX
  obtain ⟨V, hV⟩ : ∃ V, hpH (wthP l id) = V := ⟨_, rfl⟩
  change Hid (∀ w1, Nw w w1 → Calls Tryz.prog _ #[hpH (wthP l id), _, _] w1 _) at HC
  rw [hV] at HWi HC
  have hVa : ∃ c, V = .agg c := ⟨_, hV.symm⟩
  clear hV
  obtain ⟨cs, rfl⟩ := hVa
  go_enter Tryz.func23, Tryz.ntmps23
  go_wp2_with fail
  refine HMd.out.mono ?_
  rintro e w' ⟨rfl, rfl⟩
  go_wp2_with fail
  refine HWi.out.mono ?_
  rintro e w1 ⟨rfl, g1⟩
  go_wp2_with fail
  refine (HC.out _ g1).mono ?_
  rintro e w2 ⟨v2, rfl, g2, rd2, cap2, fr2⟩
  obtain ⟨a2, c2, hv2⟩ := rd2.form
  obtain ⟨q2l, hq2⟩ : ∃ q2l, X.1.q.length = q2l := ⟨_, rfl⟩
  rw [hq2] at hv2
  subst hv2
  have HG := Lib.hid (g1.trans g2)
  have hrd := rd2
  obtain ⟨⟨Xt, Xr, XW, Xq⟩, XG, E⟩ := X
  simp only [hdV] at hrd ⊢
  clear g1 g2 rd2 cap2 fr2 hq2
  obtain ⟨y1, hy1⟩ : ∃ y1, w2.alloc (.cells #[.int .i64 Xt, .int .i64 Xr, .slice a2 q2l c2, .int .i64 XW] 52) = y1 := ⟨_, rfl⟩
  have g3 : Nw w2 y1 := by rw [← hy1]; exact (Nw.refl w2).alloc _
  have HG1 := Lib.hid (HG.out.trans g3)
  have hrd1 := hrd.nw g3
  have HY := Lib.hid hy1
  clear hy1 g3 hrd
  rcases HK.out with ⟨k1, k2⟩ | ⟨k1, k2, k3, k4, k5, k6, k7, k8⟩
  · simp only at k1 k2
    have hne : (E != 0) = true := by simpa using k1
    have hne2 : (E == 0) = false := by simpa using k1
    have HR := Lib.hid (show UpD w o mb po n F l L id a (.returned (.tuple #[.bool false, .int .i64 E])) y1 from by
      unfold UpD
      obtain ⟨q1, q2, q3⟩ := k2
      rw [q1, q2, q3]
      exact ⟨rfl, l, rfl, H.out.to HG1.out⟩)
    clear k1 k2 hrd1
    go_wp2
    rw [HY.out]
    exact bodyPost_ret (v := .tuple #[.bool false, .int .i64 E]) (by simp [results, Tryz.results23, go_sem, *]) rfl HR.out
  · simp only at k1 k2 k3 k4 k5 k6 k7 k8
    subst k1
    have HS := Lib.hid (settle_any (H.out.nw HG1.out) Xt Xr XW (.slice a2 q2l c2) Xq k5 k6 k7 hrd1 k8)
    have HR := Lib.hid (fun (y2 : World) (l' : List Hp) (hl' : hsP l' = endS (hsP l) ⟨Xt, Xr, XW, Xq⟩) (hto : DbTo y1 o mb po n F y2 l' L) => (show UpD w o mb po n F l L id a (.returned (.tuple #[.bool XG, .int .i64 0])) y2 from by
      unfold UpD
      obtain ⟨q1, q2⟩ := k2
      rw [q1, q2, k3]
      exact ⟨rfl, l', by rw [hl', k4], hto.pre HG1.out⟩))
    clear k2 k3 k4 k5 k6 k7 k8 hrd1
    go_wp2_with fail
    rw [HY.out]
    refine HS.out.mono ?_
    rintro e y2 ⟨vi, l', rfl, _, hl', hto, _⟩
    have HF := Lib.hid (HR.out y2 l' hl' hto)
    clear hl' hto
    go_wp2
    exact bodyPost_ret (v := .tuple #[.bool XG, .int .i64 0]) (by simp [results, Tryz.results23, go_sem, *]) rfl HF.out
end Go.Proofs.YtfemopcichmlmaaGreatRRR
end

/- Hand. -/
section
namespace Go.Proofs.YtfemopcichmlmaaGreatRRR
open Go.RowKit Go.Shelf
set_option linter.unusedVariables false      -- a contract need not use every name

/-- What Hand comes to. -/
def HnD (w : World) (o mb po n : Nat) (F : Nat → Prop) (l : List Hp) (L : List Bool) (id a : Int) (e : Ending) (w' : World) : Prop :=
  e = .returned (.int .i64 (hnBE (hsP l) id a)) ∧ ∃ l', hsP l' = hnBS (hsP l) id a ∧ DbTo w o mb po n F w' l' L
set_option maxRecDepth 20000 in
set_option maxHeartbeats 4000000 in
theorem hand_d {w : World} {o mb po n k : Nat} {l : List Hp} {L : List Bool} {F : Nat → Prop} (h : Db w o mb po n l L F) (b : BInv n k (hsP l) L) (hk : k ≤ 800) (hn : n ≤ 64) (id a : Int) :
    Calls Tryz.prog 17 #[.pointer (some ⟨o, 0, none⟩), .int .i64 id, .int .i64 a] w (HnD w o mb po n F l L id a) := by
  have H := Lib.hid h
  have hol := h.ol
  have HMd := Lib.hid (bmade_yes o w h.c0)
  have HWi := Lib.hid (with_any h id)
  obtain ⟨hi, hW, hql⟩ := wth_ok b id
  have hbl := (binv_hn b id a).len
  obtain ⟨X, hX⟩ : ∃ X, hnR (wthP l id).h id a = X := ⟨_, rfl⟩
  have hC := fun w1 (g : Nw w w1) => dHand (wthP l id).h.t (wthP l id).h.r (wthP l id).h.W id a (hpV (wthP l id)) (wthP l id).h.q w1 (by omega) hi.ok ((wth_rd h id).nw g)
  rw [show (⟨(wthP l id).h.t, (wthP l id).h.r, (wthP l id).h.W, (wthP l id).h.q⟩ : Hq) = (wthP l id).h from rfl, hX] at hC
  have key : (X.2 ≠ 0 ∧ hnBE (hsP l) id a = X.2 ∧ hnBS (hsP l) id a = hsP l) ∨ (X.2 = 0 ∧ hnBE (hsP l) id a = 0 ∧ hnBS (hsP l) id a = putH (hsP l) X.1 ∧ endS (hsP l) X.1 = putH (hsP l) X.1 ∧ wfN (X.1.t, X.1.r) ∧ X.1.q.length ≤ 1000 ∧ Ok X.1.W X.1.q ∧ (endS (hsP l) X.1).length ≤ 64) := by
    cases e : whP l id with
    | none =>
      have e1 : ofId (hsP l) id = none := by rw [wth_of, e]; rfl
      have e0 : X = (noH, 5) := by rw [← hX, wth_none e]; rfl
      have e2 : hnBE (hsP l) id a = 5 := by unfold hnBE; rw [e1]
      subst e0
      exact .inl ⟨by decide, e2, by unfold hnBS; rw [if_neg (by rw [e2]; decide)]⟩
    | some x =>
      obtain ⟨ex, hx, r, hr⟩ := wth_some e
      have e1 : ofId (hsP l) id = some x.h := by rw [wth_of, e]; rfl
      rw [ex] at hi hW hql hX
      have e2 : hnBE (hsP l) id a = X.2 := by unfold hnBE; rw [e1, ← hX]
      by_cases h0 : X.2 = 0
      · have hup := h0
        rw [← hX] at hup
        obtain ⟨r', u1, u2, u3, u4, u5, u7⟩ := hn_is hi.ok hup
        have hS : hnBS (hsP l) id a = putH (hsP l) X.1 := by unfold hnBS; rw [if_pos (e2.trans h0), e1]; simp only; rw [hX]
        have hx1 : X.1 = ⟨x.h.t, x.h.r, x.h.W, chg (hnF a) r'.id x.h.q⟩ := by rw [← hX, u7]
        have hcl : (chg (hnF a) r'.id x.h.q).length = x.h.q.length := by unfold chg; rw [List.length_map]
        have hne : chg (hnF a) r'.id x.h.q ≠ [] := fun e => by
          rw [e] at hcl
          have := List.length_pos_of_mem u1
          simp at hcl
          omega
        have hdn : Done X.1.q := by rw [hx1]; exact done_hn hi.done r'.id a
        have hok : Ok X.1.W X.1.q := by rw [hx1]; exact ok_hn hi.ok r' u1 a u5
        have hen := scan_end (hs := hsP l) hdn (by rw [hx1]; exact hne)
        rw [hS] at hbl
        exact .inr ⟨h0, e2.trans h0, hS, hen, by rw [hx1]; exact h.map.wf x hx, by rw [hx1]; simp only; omega, hok, by rw [hen]; omega⟩
      · exact .inl ⟨h0, e2, by unfold hnBS; rw [if_neg (by rw [e2]; exact h0)]⟩
  have HK := Lib.hid key
  have HC := Lib.hid hC
  clear h b hC key hi hW hql hbl hX
  obtain ⟨V, hV⟩ : ∃ V, hpH (wthP l id) = V := ⟨_, rfl⟩
  change Hid (∀ w1, Nw w w1 → Calls Tryz.prog _ #[hpH (wthP l id), _, _] w1 _) at HC
  rw [hV] at HWi HC
  have hVa : ∃ c, V = .agg c := ⟨_, hV.symm⟩
  clear hV
  obtain ⟨cs, rfl⟩ := hVa
  go_enter Tryz.func17, Tryz.ntmps17
  go_wp2_with fail
  refine HMd.out.mono ?_
  rintro e w' ⟨rfl, rfl⟩
  go_wp2_with fail
  refine HWi.out.mono ?_
  rintro e w1 ⟨rfl, g1⟩
  go_wp2_with fail
  refine (HC.out _ g1).mono ?_
  rintro e w2 ⟨v2, rfl, g2, rd2, cap2, fr2⟩
  obtain ⟨a2, c2, hv2⟩ := rd2.form
  obtain ⟨q2l, hq2⟩ : ∃ q2l, X.1.q.length = q2l := ⟨_, rfl⟩
  rw [hq2] at hv2
  subst hv2
  have HG := Lib.hid (g1.trans g2)
  have hrd := rd2
  obtain ⟨⟨Xt, Xr, XW, Xq⟩, E⟩ := X
  simp only [hdV] at hrd ⊢
  clear g1 g2 rd2 cap2 fr2 hq2
  obtain ⟨y1, hy1⟩ : ∃ y1, w2.alloc (.cells #[.int .i64 Xt, .int .i64 Xr, .slice a2 q2l c2, .int .i64 XW] 52) = y1 := ⟨_, rfl⟩
  have g3 : Nw w2 y1 := by rw [← hy1]; exact (Nw.refl w2).alloc _
  have HG1 := Lib.hid (HG.out.trans g3)
  have hrd1 := hrd.nw g3
  have HY := Lib.hid hy1
  clear hy1 g3 hrd
  rcases HK.out with ⟨k1, k2⟩ | ⟨k1, k2, k3, k4, k5, k6, k7, k8⟩
  · simp only at k1 k2
    have hne : (E != 0) = true := by simpa using k1
    have hne2 : (E == 0) = false := by simpa using k1
    have HR := Lib.hid (show HnD w o mb po n F l L id a (.returned (.int .i64 E)) y1 from by
      unfold HnD
      obtain ⟨q1, q3⟩ := k2
      rw [q1, q3]
      exact ⟨rfl, l, rfl, H.out.to HG1.out⟩)
    clear k1 k2 hrd1
    go_wp2
    rw [HY.out]
    exact bodyPost_ret (v := .int .i64 E) (by simp [results, Tryz.results17, go_sem, *]) rfl HR.out
  · simp only at k1 k2 k3 k4 k5 k6 k7 k8
    subst k1
    have HS := Lib.hid (settle_any (H.out.nw HG1.out) Xt Xr XW (.slice a2 q2l c2) Xq k5 k6 k7 hrd1 k8)
    have HR := Lib.hid (fun (y2 : World) (l' : List Hp) (hl' : hsP l' = endS (hsP l) ⟨Xt, Xr, XW, Xq⟩) (hto : DbTo y1 o mb po n F y2 l' L) => (show HnD w o mb po n F l L id a (.returned (.int .i64 0)) y2 from by
      unfold HnD
      rw [k2, k3]
      exact ⟨rfl, l', by rw [hl', k4], hto.pre HG1.out⟩))
    clear k2 k3 k4 k5 k6 k7 k8 hrd1
    go_wp2_with fail
    rw [HY.out]
    refine HS.out.mono ?_
    rintro e y2 ⟨vi, l', rfl, _, hl', hto, _⟩
    have HF := Lib.hid (HR.out y2 l' hl' hto)
    clear hl' hto
    go_wp2
    exact bodyPost_ret (v := .int .i64 0) (by simp [results, Tryz.results17, go_sem, *]) rfl HF.out
end Go.Proofs.YtfemopcichmlmaaGreatRRR
end

/- Get, Len; the calls of no bucket. -/
section
namespace Go.Proofs.YtfemopcichmlmaaGreatRRR
open Go.RowKit Go.Shelf
set_option linter.unusedVariables false      -- a contract need not use every name

def getBD (hs : List Hq) (id : Int) : Int × Int × Rq × Bool := match ofId hs id with
  | none => (0, 0, ⟨0, 0, 0, 0, 0⟩, false)
  | some h => (h.t, h.r, rqB h id, true)
theorem get_is (l : List Hp) (id : Int) : ∃ b0 b1 b2 b3 b4 yb, fndV (wthP l id).h.q id = .tuple #[.agg #[.int .i64 b0, .int .i64 b1, .int .i64 b2, .int .i64 b3, .int .i64 b4], .bool yb] ∧ getBD (hsP l) id = ((wthP l id).h.t, (wthP l id).h.r, ⟨b0, b1, b2, b3, b4⟩, yb) := by
  cases e : whP l id with
  | none =>
    have e1 : ofId (hsP l) id = none := by rw [wth_of, e]; rfl
    refine ⟨0, 0, 0, 0, 0, false, ?_, ?_⟩
    · rw [wth_none e]; rfl
    · unfold getBD; rw [e1, wth_none e]; rfl
  | some x =>
    obtain ⟨ex, hx, r, hr⟩ := wth_some e
    have e1 : ofId (hsP l) id = some x.h := by rw [wth_of, e]; rfl
    have er := rqB_of hr
    obtain ⟨b0, b1, b2, b3, b4⟩ := r
    refine ⟨b0, b1, b2, b3, b4, true, ?_, ?_⟩
    · rw [ex]; unfold fndV; rw [hr]; rfl
    · unfold getBD; rw [e1, ex]; simp only; rw [er]
set_option maxRecDepth 20000 in
set_option maxHeartbeats 4000000 in
theorem get_d {w : World} {o mb po n : Nat} {l : List Hp} {L : List Bool} {F : Nat → Prop} (h : Db w o mb po n l L F) (hq : ∀ x ∈ l, x.h.q.length ≤ 1000) (id : Int) :
    Calls Tryz.prog 12 #[.pointer (some ⟨o, 0, none⟩), .int .i64 id] w fun e w' => e = .returned (.tuple #[.agg #[.int .i64 (getBD (hsP l) id).1, .int .i64 (getBD (hsP l) id).2.1], rqV (getBD (hsP l) id).2.2.1, .bool (getBD (hsP l) id).2.2.2]) ∧ Nw w w' := by
  obtain ⟨b0, b1, b2, b3, b4, yb, hv, hg⟩ := get_is l id
  rw [hg]
  unfold rqV
  simp only
  have hrd := wth_rd h id
  have hql : (wthP l id).h.q.length ≤ 1000 := by
    cases e : whP l id with
    | none => rw [wth_none e]; exact Nat.zero_le _
    | some x => rw [(wth_some e).1]; exact hq x (wth_some e).2.1
  have hN : Nw w ((w.alloc (.cells #[.int .i64 0, .int .i64 0] 24)).alloc (.cells #[.int .i64 0, .int .i64 0, .int .i64 0, .int .i64 0, .int .i64 0] 42)) := ((Nw.refl w).alloc _).alloc _
  have hA := ((Nw.refl (w.alloc (.cells #[.int .i64 0, .int .i64 0] 24))).alloc (.cells #[.int .i64 0, .int .i64 0, .int .i64 0, .int .i64 0, .int .i64 0] 42)).at' (allocAt w (.cells #[.int .i64 0, .int .i64 0] 24))
  have hB := allocAt (w.alloc (.cells #[.int .i64 0, .int .i64 0] 24)) (.cells #[.int .i64 0, .int .i64 0, .int .i64 0, .int .i64 0, .int .i64 0] 42)
  rw [World.size_alloc] at hB
  obtain ⟨z, hz⟩ : ∃ z, (w.alloc (.cells #[.int .i64 0, .int .i64 0] 24)).alloc (.cells #[.int .i64 0, .int .i64 0, .int .i64 0, .int .i64 0, .int .i64 0] 42) = z := ⟨_, rfl⟩
  rw [hz] at hN hA hB
  have HZ := Lib.hid hz
  have H := Lib.hid (h.nw hN)
  have HMd := Lib.hid (bmade_yes o z (hN.kp h.c0))
  have HWi := Lib.hid (with_any (h.nw hN) id)
  have HFi := Lib.hid (fun w1 (g : Nw w w1) => dFindQ (wthP l id).h.t (wthP l id).h.r (wthP l id).h.W id (hpV (wthP l id)) (wthP l id).h.q w1 hql (hrd.nw g))
  rw [hv] at HFi
  unfold hdV hpV at HFi
  unfold hpH at HWi
  clear hz hv hg hrd hql h
  revert HFi HWi
  generalize wthP l id = x
  obtain ⟨⟨xt, xr, xW, q⟩, xp, xa, xc⟩ := x
  simp only
  generalize q.length = ql
  intro HWi HFi
  have HN := Lib.hid hN
  go_enter Tryz.func12, Tryz.ntmps12
  go_wp2_with fail
  rw [HZ.out]
  refine HMd.out.mono ?_
  rintro e w' ⟨rfl, rfl⟩
  go_wp2_with fail
  refine HWi.out.mono ?_
  rintro e w1 ⟨rfl, g1⟩
  obtain ⟨y1, hy1⟩ : ∃ y1, w1.alloc (.cells #[.int .i64 xt, .int .i64 xr, .slice xa ql xc, .int .i64 xW] 52) = y1 := ⟨_, rfl⟩
  have hal := allocAt w1 (.cells #[.int .i64 xt, .int .i64 xr, .slice xa ql xc, .int .i64 xW] 52)
  rw [hy1] at hal
  have g2 : Nw w1 y1 := by rw [← hy1]; exact (Nw.refl w1).alloc _
  have HY1 := Lib.hid hy1
  have HN1 := Lib.hid (HN.out.trans (g1.trans g2))
  have hA1 := (g1.trans g2).at' hA
  have hB1 := (g1.trans g2).at' hB
  clear hy1 hN hA hB g1 g2
  have hzw : w.heap.size + 2 ≤ w1.heap.size := by
    have h1 := hlt hB1
    have h2 := hlt hal
    have h3 : y1.heap.size = w1.heap.size + 1 := by rw [← HY1.out]; simp
    have h4 : w1.heap.size ≠ w.heap.size + 1 := fun e => by rw [e] at hal; rw [hB1] at hal; cases hal
    omega
  go_wp2_with fail
  rw [HY1.out]
  generalize w1.heap.size = pb at *
  refine (HFi.out _ HN1.out).mono ?_
  rintro e y2 ⟨rfl, g3⟩
  obtain ⟨y3, hy3⟩ : ∃ y3, y2.alloc (.cells #[.int .i64 b0, .int .i64 b1, .int .i64 b2, .int .i64 b3, .int .i64 b4] 42) = y3 := ⟨_, rfl⟩
  have hal2 := allocAt y2 (.cells #[.int .i64 b0, .int .i64 b1, .int .i64 b2, .int .i64 b3, .int .i64 b4] 42)
  rw [hy3] at hal2
  have g4 : Nw y2 y3 := by rw [← hy3]; exact (Nw.refl y2).alloc _
  have HY3 := Lib.hid hy3
  have HN3 := Lib.hid (HN1.out.trans (g3.trans g4))
  have hA3 := (g3.trans g4).at' hA1
  have hB3 := (g3.trans g4).at' hB1
  have hal3 := (g3.trans g4).at' hal
  have hpy : pb < y2.heap.size := Nat.lt_of_lt_of_le (hlt hal) g3.sz
  clear hy3 hA1 hB1 hal g3 g4
  go_wp2_with fail
  rw [HY3.out]
  generalize y2.heap.size = qb at *
  have m0 := hcell (j := 0) hA3
  have m1 := hcell (j := 1) hA3
  have mz := fun j => hfz (j := j) hA3
  have ml := hlt hA3
  have n0 := hcell (j := 0) hB3
  have n1 := hcell (j := 1) hB3
  have n2 := hcell (j := 2) hB3
  have n3 := hcell (j := 3) hB3
  have n4 := hcell (j := 4) hB3
  have nz := fun j => hfz (j := j) hB3
  have nl := hlt hB3
  have p0 := hcell (j := 0) hal3
  have p1 := hcell (j := 1) hal3
  have q0 := hcell (j := 0) hal2
  have q1 := hcell (j := 1) hal2
  have q2 := hcell (j := 2) hal2
  have q3 := hcell (j := 3) hal2
  have q4 := hcell (j := 4) hal2
  clear hA3 hB3 hal2 hal3
  have ng1 : ¬ (w.heap.size = pb) := by omega
  have ng2 : ¬ (w.heap.size + 1 = pb) := by omega
  have ng3 : ¬ (w.heap.size = qb) := by omega
  have ng4 : ¬ (w.heap.size + 1 = qb) := by omega
  have ng5 : ¬ (w.heap.size + 1 = w.heap.size) := by omega
  obtain ⟨y0, hy0⟩ : ∃ y0, y3.drew = y0 := ⟨_, rfl⟩
  obtain ⟨S, hSe⟩ : ∃ S : World → Prop, S = fun x => x = y0 ∨ x = ((y0.setCell ⟨w.heap.size, 0, none⟩ (.int .i64 xt)).setCell ⟨w.heap.size, 1, none⟩ (.int .i64 xr)) ∨ x = (((((((y0.setCell ⟨w.heap.size, 0, none⟩ (.int .i64 xt)).setCell ⟨w.heap.size, 1, none⟩ (.int .i64 xr)).setCell ⟨w.heap.size + 1, 0, none⟩ (.int .i64 b0)).setCell ⟨w.heap.size + 1, 1, none⟩ (.int .i64 b1)).setCell ⟨w.heap.size + 1, 2, none⟩ (.int .i64 b2)).setCell ⟨w.heap.size + 1, 3, none⟩ (.int .i64 b3)).setCell ⟨w.heap.size + 1, 4, none⟩ (.int .i64 b4)) := ⟨_, rfl⟩
  have s0 : y0.cell? ⟨pb, 0, none⟩ = some (.int .i64 xt) := by subst hy0; exact p0
  have t0 : ∀ x, Hs S x → x.cell? ⟨pb, 0, none⟩ = some (.int .i64 xt) := fun x h => by subst hSe; rcases h with rfl | rfl | rfl <;> simp [go_sem, s0, ng1, ng2, ng3, ng4, ng5]
  have s1 : y0.cell? ⟨pb, 1, none⟩ = some (.int .i64 xr) := by subst hy0; exact p1
  have t1 : ∀ x, Hs S x → x.cell? ⟨pb, 1, none⟩ = some (.int .i64 xr) := fun x h => by subst hSe; rcases h with rfl | rfl | rfl <;> simp [go_sem, s1, ng1, ng2, ng3, ng4, ng5]
  have s2 : y0.cell? ⟨qb, 0, none⟩ = some (.int .i64 b0) := by subst hy0; exact q0
  have t2 : ∀ x, Hs S x → x.cell? ⟨qb, 0, none⟩ = some (.int .i64 b0) := fun x h => by subst hSe; rcases h with rfl | rfl | rfl <;> simp [go_sem, s2, ng1, ng2, ng3, ng4, ng5]
  have s3 : y0.cell? ⟨qb, 1, none⟩ = some (.int .i64 b1) := by subst hy0; exact q1
  have t3 : ∀ x, Hs S x → x.cell? ⟨qb, 1, none⟩ = some (.int .i64 b1) := fun x h => by subst hSe; rcases h with rfl | rfl | rfl <;> simp [go_sem, s3, ng1, ng2, ng3, ng4, ng5]
  have s4 : y0.cell? ⟨qb, 2, none⟩ = some (.int .i64 b2) := by subst hy0; exact q2
  have t4 : ∀ x, Hs S x → x.cell? ⟨qb, 2, none⟩ = some (.int .i64 b2) := fun x h => by subst hSe; rcases h with rfl | rfl | rfl <;> simp [go_sem, s4, ng1, ng2, ng3, ng4, ng5]
  have s5 : y0.cell? ⟨qb, 3, none⟩ = some (.int .i64 b3) := by subst hy0; exact q3
  have t5 : ∀ x, Hs S x → x.cell? ⟨qb, 3, none⟩ = some (.int .i64 b3) := fun x h => by subst hSe; rcases h with rfl | rfl | rfl <;> simp [go_sem, s5, ng1, ng2, ng3, ng4, ng5]
  have s6 : y0.cell? ⟨qb, 4, none⟩ = some (.int .i64 b4) := by subst hy0; exact q4
  have t6 : ∀ x, Hs S x → x.cell? ⟨qb, 4, none⟩ = some (.int .i64 b4) := fun x h => by subst hSe; rcases h with rfl | rfl | rfl <;> simp [go_sem, s6, ng1, ng2, ng3, ng4, ng5]
  have m0' : y0.cell? ⟨w.heap.size, 0, none⟩ = some (.int .i64 0) := by subst hy0; exact m0
  have m1' : y0.cell? ⟨w.heap.size, 1, none⟩ = some (.int .i64 0) := by subst hy0; exact m1
  have mz' : ∀ j, y0.frozen? ⟨w.heap.size, j, none⟩ = false := by subst hy0; exact mz
  have n0' : y0.cell? ⟨w.heap.size + 1, 0, none⟩ = some (.int .i64 0) := by subst hy0; exact n0
  have n1' : y0.cell? ⟨w.heap.size + 1, 1, none⟩ = some (.int .i64 0) := by subst hy0; exact n1
  have n2' : y0.cell? ⟨w.heap.size + 1, 2, none⟩ = some (.int .i64 0) := by subst hy0; exact n2
  have n3' : y0.cell? ⟨w.heap.size + 1, 3, none⟩ = some (.int .i64 0) := by subst hy0; exact n3
  have n4' : y0.cell? ⟨w.heap.size + 1, 4, none⟩ = some (.int .i64 0) := by subst hy0; exact n4
  have nz' : ∀ j, y0.frozen? ⟨w.heap.size + 1, j, none⟩ = false := by subst hy0; exact nz
  have hS0 : Hs S y3.drew := by rw [hy0, hSe]; exact .inl rfl
  have hS1 : Hs S ((y0.setCell ⟨w.heap.size, 0, none⟩ (.int .i64 xt)).setCell ⟨w.heap.size, 1, none⟩ (.int .i64 xr)) := by rw [hSe]; exact .inr (.inl rfl)
  have hS2 : Hs S (((((((y0.setCell ⟨w.heap.size, 0, none⟩ (.int .i64 xt)).setCell ⟨w.heap.size, 1, none⟩ (.int .i64 xr)).setCell ⟨w.heap.size + 1, 0, none⟩ (.int .i64 b0)).setCell ⟨w.heap.size + 1, 1, none⟩ (.int .i64 b1)).setCell ⟨w.heap.size + 1, 2, none⟩ (.int .i64 b2)).setCell ⟨w.heap.size + 1, 3, none⟩ (.int .i64 b3)).setCell ⟨w.heap.size + 1, 4, none⟩ (.int .i64 b4)) := by rw [hSe]; exact .inr (.inr rfl)
  clear hSe p0 p1 q0 q1 q2 q3 q4 hzw hpy
  refine region_plan (.take (.take (.take (.take (.off (.go1 (.off (.go1 (.take .fin))))))))) (Hs S) (by kernel_rfl) (by kernel_rfl) (by kernel_rfl) hS0 ?_
  rw [hy0]
  iterate 4 (refine HP.take' ?_; (first | (refine ⟨undef, Or.inr ⟨by rfl, rfl⟩, ?_⟩) | (apply Exists.intro; refine ⟨Or.inl ⟨by rfl, ?_⟩, ?_⟩; (intro x hx'; go_simp; first | done | with_reducible rfl))); (try simp only [Act.put, List.setIfInBounds_toArray, List.set_cons_zero, List.set_cons_succ]))
  refine HP.off ?_
  refine HP.go1 (fun KK hKK => ?_)
  go_simp
  refine hKK.out _ _ hS1 ?_
  intro _
  clear hKK KK
  (try simp only [Act.put, List.setIfInBounds_toArray, List.set_cons_zero, List.set_cons_succ])
  refine HP.off ?_
  refine HP.go1 (fun KK hKK => ?_)
  go_simp
  refine hKK.out _ _ hS2 ?_
  intro _
  clear hKK KK
  (try simp only [Act.put, List.setIfInBounds_toArray, List.set_cons_zero, List.set_cons_succ])
  iterate 1 (refine HP.take' ?_; (first | (refine ⟨undef, Or.inr ⟨by rfl, rfl⟩, ?_⟩) | (apply Exists.intro; refine ⟨Or.inl ⟨by rfl, ?_⟩, ?_⟩; (intro x hx'; go_simp; first | done | with_reducible rfl))); (try simp only [Act.put, List.setIfInBounds_toArray, List.set_cons_zero, List.set_cons_succ]))
  refine HP.end_ ?_
  refine NoPanic.normal ?_
  subst hy0
  clear hS0 hS1 hS2
  go_wp2
  have HR := Lib.hid (show Nw w (((((((y3.drew.setCell ⟨w.heap.size, 0, none⟩ (.int .i64 xt)).setCell ⟨w.heap.size, 1, none⟩ (.int .i64 xr)).setCell ⟨w.heap.size + 1, 0, none⟩ (.int .i64 b0)).setCell ⟨w.heap.size + 1, 1, none⟩ (.int .i64 b1)).setCell ⟨w.heap.size + 1, 2, none⟩ (.int .i64 b2)).setCell ⟨w.heap.size + 1, 3, none⟩ (.int .i64 b3)).setCell ⟨w.heap.size + 1, 4, none⟩ (.int .i64 b4)) from
    (((((((HN3.out.dr.st (p := ⟨w.heap.size, 0, none⟩) (Nat.le_refl _) _).st (p := ⟨w.heap.size, 1, none⟩) (Nat.le_refl _) _).st (p := ⟨w.heap.size + 1, 0, none⟩) (Nat.le_succ _) _).st (p := ⟨w.heap.size + 1, 1, none⟩) (Nat.le_succ _) _).st (p := ⟨w.heap.size + 1, 2, none⟩) (Nat.le_succ _) _).st (p := ⟨w.heap.size + 1, 3, none⟩) (Nat.le_succ _) _).st (p := ⟨w.heap.size + 1, 4, none⟩) (Nat.le_succ _) _))
  exact bodyPost_ret (v := .tuple #[.agg #[.int .i64 xt, .int .i64 xr], .agg #[.int .i64 b0, .int .i64 b1, .int .i64 b2, .int .i64 b3, .int .i64 b4], .bool yb]) (by simp [results, Tryz.results12, go_sem, *]) rfl ⟨rfl, HR.out⟩
theorem len_d {w : World} {o mb po n : Nat} {l : List Hp} {L : List Bool} {F : Nat → Prop} (h : Db w o mb po n l L F) :
    Calls Tryz.prog 127 #[.pointer (some ⟨o, 0, none⟩)] w fun e w' => e = .returned (.int .i64 l.length) ∧ w = w' := by
  have HMd := Lib.hid (bmade_yes o w h.c0)
  have c3 := h.c3
  have hol := h.ol
  have hle := h.map.len 3
  clear h
  go_enter Tryz.func127, Tryz.ntmps127
  go_wp2_with (go_at_call 25; refine HMd.out.mono ?_; rintro e w' ⟨rfl, rfl⟩)
  go_ret
  exact ⟨rfl, rfl⟩
end Go.Proofs.YtfemopcichmlmaaGreatRRR
end

/- Find. -/
section
namespace Go.Proofs.YtfemopcichmlmaaGreatRRR
open Go.RowKit Go.Shelf
set_option linter.unusedVariables false      -- a contract need not use every name

theorem findD_none {q : List Rq} {x : Int} (h : ∀ j (hj : j < q.length), q[j].txn ≠ x) : q.find? (fun r => r.txn == x) = none := by
  refine List.find?_eq_none.2 fun r hr => ?_
  obtain ⟨j, hj, rfl⟩ := List.getElem_of_mem hr
  simpa using h j hj
theorem findD_at {q : List Rq} {x : Int} {k : Nat} (hk : k < q.length) (e : q[k].txn = x) (h : ∀ j (hj : j < q.length), j < k → q[j].txn ≠ x) : q.find? (fun r => r.txn == x) = some q[k] := by
  rw [List.find?_eq_some_iff_getElem]
  exact ⟨by simpa using e, k, hk, rfl, fun j hj => by simpa using h j (by omega) hj⟩
theorem findD_hd (l : List Hp) (t r txn : Int) : findB (hsP l) t r txn = match (atP l (t, r)).h.q.find? (fun x => x.txn == txn) with
    | none => (0, false)
    | some x => (x.id, true) := by unfold findB; rw [at_hd]; cases (hdB (hsP l) t r).q.find? (fun x => x.txn == txn) <;> rfl
theorem fieldQ (t r W : Int) (a : Option Addr) (n c : Nat) (w : World) : Sem.run Tryz.prog (Instr.field 52 (.agg #[.int .i64 t, .int .i64 r, .slice a n c, .int .i64 W]) 1) w = .ok (.slice a n c) w := by kernel_rfl
set_option maxRecDepth 20000 in
set_option maxHeartbeats 4000000 in
theorem find_d {w : World} {o mb po n : Nat} {l : List Hp} {L : List Bool} {F : Nat → Prop} (h : Db w o mb po n l L F) (hq : ∀ x ∈ l, x.h.q.length ≤ 1000) (t r txn : Int) (wa : wfN (t, r)) :
    Calls Tryz.prog 18 #[.pointer (some ⟨o, 0, none⟩), .agg #[.int .i64 t, .int .i64 r], .int .i64 txn] w fun e w' => e = .returned (.tuple #[.int .i64 (findB (hsP l) t r txn).1, .bool (findB (hsP l) t r txn).2]) ∧ Nw w w' := by
  obtain ⟨X, hX⟩ : ∃ X, findB (hsP l) t r txn = X := ⟨_, rfl⟩
  rw [hX]
  have HX := Lib.hid (hX.symm.trans (findD_hd l t r txn))
  have hrd := at_rd h t r
  have hql : (atP l (t, r)).h.q.length ≤ 1000 := by
    unfold atP
    cases e : getP l (t, r) with
    | none => exact Nat.zero_le _
    | some x => exact hq x (getP_some e).1
  obtain ⟨z, hz⟩ : ∃ z, w.alloc (.cells #[.int .i64 t, .int .i64 r] 24) = z := ⟨_, rfl⟩
  have hb0 := allocAt w (.cells #[.int .i64 t, .int .i64 r] 24)
  have hN : Nw w (w.alloc (.cells #[.int .i64 t, .int .i64 r] 24)) := (Nw.refl w).alloc _
  rw [hz] at hN hb0
  have n0 : z.cell? ⟨w.heap.size, 0, none⟩ = some (.int .i64 t) := hcell hb0
  have n1 : z.cell? ⟨w.heap.size, 1, none⟩ = some (.int .i64 r) := hcell hb0
  have HZ := Lib.hid hz
  have HMd := Lib.hid (bmade_yes o z (hN.kp h.c0))
  have HAt := Lib.hid (at_any (h.nw hN) t r wa)
  have HRd := Lib.hid (fun w1 (g : Nw w w1) => hrd.nw g)
  unfold hpV at HRd
  unfold hpH at HAt
  clear hz hX hrd h hq hb0
  revert HAt HRd HX hql
  generalize atP l (t, r) = x
  obtain ⟨⟨xt, xr, xW, q⟩, xp, xa, xc⟩ := x
  simp only
  intro HX hql HAt HRd
  have HN := Lib.hid hN
  have hfq := fieldQ
  go_enter Tryz.func18, Tryz.ntmps18
  go_wp2_with fail
  rw [HZ.out]
  refine HMd.out.mono ?_
  rintro e w' ⟨rfl, rfl⟩
  go_wp2_with fail
  refine HAt.out.mono ?_
  rintro e w1 ⟨rfl, g1⟩
  have HN1 := Lib.hid (HN.out.trans g1)
  clear n0 n1 hN g1 HAt HMd HZ
  go_wp2
  go_loopw [18] (fun i wr => ∃ j : Nat, j ≤ q.length ∧ i = .int .i64 j ∧ (∀ m (hm : m < q.length), m < j → q[m].txn ≠ txn) ∧ Nw w wr) (fun i _ => q.length - (intOf i).toNat)
  case atStart => exact ⟨0, Nat.zero_le _, rfl, fun j _ hj => by omega, HN1.out⟩
  case round =>
    obtain ⟨j, hj, rfl, hno, hG⟩ := hrel
    have HG := Lib.hid hG
    have HNo := Lib.hid hno
    clear hno
    by_cases hlt : j < q.length
    · have hji : (j : Int) < (q.length : Int) := by omega
      obtain ⟨qa', qc', e, ⟨e', _⟩ | ⟨qb, qo, e', hc⟩⟩ := HRd.out _ hG
      · subst e'; simp at hlt
      cases e
      subst e'
      have hce := hc.cell j hlt
      have HA := Lib.hid (fun e => findD_at hlt e HNo.out)
      have HB := Lib.hid (fun (e : q[j].txn ≠ txn) m (hm : m < q.length) (hmj : m < j + 1) => (Nat.lt_succ_iff_lt_or_eq.1 hmj).elim (HNo.out m hm) (fun q' => by subst q'; exact e))
      generalize q[j] = R at *
      obtain ⟨b0, b1, b2, b3, b4⟩ := R
      have d0 := hce 0 _ rfl
      have d1 := hce 1 _ rfl
      have d2 := hce 2 _ rfl
      have d3 := hce 3 _ rfl
      have d4 := hce 4 _ rfl
      simp only [Nat.add_zero] at d0
      clear hce hG hc
      by_cases he : b1 = txn
      · have d : (b1 == txn) = true := by simpa using he
        have HF2 := HA.out he
        rw [HF2] at HX
        clear he HA HB HF2
        go_wp2
        refine bodyPost_ret (v := .tuple #[.int .i64 b0, .bool true]) (by simp [results, Tryz.results18, go_sem, *]) rfl ⟨by rw [HX.out], HG.out.alloc _⟩
      · have d : (b1 == txn) = false := by simpa using he
        have HS2 := Lib.hid (HB.out he)
        clear he HA HB
        go_wp2
        go_roundw
        case rel => exact ⟨j + 1, by omega, by go_num, HS2.out, HG.out.alloc _⟩
        case measure => simp [intOf]; omega
    · obtain rfl : j = q.length := by omega
      have HF2 := findD_none (x := txn) (fun j hj => HNo.out j hj hj)
      rw [HF2] at HX
      clear hG HF2
      go_wp2
      refine bodyPost_ret (v := .tuple #[.int .i64 0, .bool false]) (by simp [results, Tryz.results18, go_sem, *]) rfl ⟨by rw [HX.out], HG.out⟩
end Go.Proofs.YtfemopcichmlmaaGreatRRR
end

/- A region that draws its order and whose last operation may change what the others read. Of no program. -/
section
namespace Go.Proofs.YtfemopcichmlmaaGreatRRR
open Go.RowKit Go.Shelf

variable {P : Program} {md : Region.Mode} {ops : Array Oper} {Q : Exit → Act → World → Prop} {S : World → Prop}
/-- Whatever order is picked from here on, and S holds behind every operation but the last. -/
def wpAnyT (P : Program) (md : Region.Mode) (ops : Array Oper) (Q : Exit → Act → World → Prop) (S : World → Prop) (t : Nat) : Nat → Array Bool → Act → World → Prop
  | 0, listed, a, w => Region.ready md ops listed = [] ∧ Q .normal a w
  | fuel + 1, listed, a, w =>
    (Region.ready md ops listed = [] → Q .normal a w) ∧
    ∀ i ∈ Region.ready md ops listed, wpOp P ops Q i (fun a' w' => (i = t ∨ S w') ∧ wpAnyT P md ops Q S t fuel (listed.setIfInBounds i true) a' w') a w
theorem wpAny_of_tail {t : Nat} : ∀ (fuel : Nat) (listed : Array Bool) (a : Act) (w : World), wpAnyT P md ops Q S t fuel listed a w → wpAny P md ops Q fuel listed a w
  | 0, _, _, _, h => h
  | fuel + 1, _, _, _, h => ⟨h.1, fun i hi => wpOp_mono (fun a' w' h' => wpAny_of_tail fuel _ a' w' h'.2) (h.2 i hi)⟩
def waitsFor (md : Region.Mode) (ops : Array Oper) (t i : Nat) : Bool := match ops[t]? with
  | some o => o.after.any fun e => Region.binds md e && e.on == i
  | none => true
theorem wpAnyT_first {t i : Nat} {oi : Oper} {v : Value} (hi : ops[i]? = some oi) (ht : waitsFor md ops t i = true) (hsel : ∀ (j : Nat) (o : Oper) cs b, ops[j]? = some o → o.op ≠ .select cs b)
    (hQ : ∀ c a w, Q (.panic c) (a.put oi.dst v) w → Q (.panic c) a w) :
    ∀ (fuel : Nat) (listed : Array Bool) (a : Act) (w : World),
      (∀ j oj, ops[j]? = some oj → j ≠ i → listed.getD j true = false → (∀ e ∈ oj.after, Region.binds md e = true → e.on ≠ i) → oi.apart ops oj = true) →
      i ∈ Region.ready md ops listed → YieldsIf P ops S oi v a → S w →
      wpAnyT P md ops Q S t fuel (listed.setIfInBounds i true) (a.put oi.dst v) w → wpAnyT P md ops Q S t (fuel + 1) listed a w := by
  intro fuel
  induction fuel with
  | zero =>
    intro listed a w _ hr hy hS H
    refine ⟨fun h => (by rw [h] at hr; cases hr), fun j hj => ?_⟩
    by_cases hji : j = i
    · subst hji; exact hy.wpOp hi hS ⟨.inr hS, H⟩
    · have := ready_mono hj hji
      rw [H.1] at this
      cases this
  | succ fuel ih =>
    intro listed a w hfree hr hy hS H
    refine ⟨fun h => (by rw [h] at hr; cases hr), fun j hj => ?_⟩
    by_cases hji : j = i
    · subst hji; exact hy.wpOp hi hS ⟨.inr hS, H⟩
    · have h1 := H.2 j (ready_mono hj hji)
      obtain ⟨hjun, oj, hoj, hall⟩ := mem_ready.1 hj
      have hnot : ∀ e ∈ oj.after, Region.binds md e = true → e.on ≠ i := fun e he hb heq => by
        have h1 := hall e he hb
        have h0 := (mem_ready.1 hr).1
        rw [heq] at h1
        rcases Nat.lt_or_ge i listed.size with h' | h'
        · simp [h'] at h0 h1; rw [h0] at h1; cases h1
        · simp [Array.getElem?_eq_none h'] at h1
      have hjt : j ≠ t := by
        rintro rfl
        unfold waitsFor at ht
        rw [hoj] at ht
        obtain ⟨e, he, hb⟩ := Array.any_eq_true'.1 ht
        rw [Bool.and_eq_true, beq_iff_eq] at hb
        exact hnot e he hb.1 hb.2
      have h2 := wpOp_putIf hoj (hfree j oj hoj hji hjun hnot) (fun cs b => hsel i oi cs b hi) (fun cs b => hsel j oj cs b hoj) hQ hy h1
      have hfree' : ∀ k ok, ops[k]? = some ok → k ≠ i → (listed.setIfInBounds j true).getD k true = false →
          (∀ e ∈ ok.after, Region.binds md e = true → e.on ≠ i) → oi.apart ops ok = true := fun k ok hk hki hun hno => by
        refine hfree k ok hk hki ?_ hno
        by_cases hjk : j = k
        · subst hjk; exact hjun
        · rw [getD_set_ne true hjk] at hun; exact hun
      refine wpOp_mono (fun a' w' h3 => ⟨h3.2.1, ih (listed.setIfInBounds j true) a' w' hfree' (ready_mono hr (Ne.symm hji)) h3.1 (h3.2.1.resolve_left hjt) ?_⟩) h2
      rw [Array.setIfInBounds_comm _ _ hji]
      exact h3.2.2
theorem wpAnyT_take {t i : Nat} {oi : Oper} {v : Value} {fuel : Nat} {listed : Array Bool} {a : Act} {w : World} (hi : ops[i]? = some oi) (ht : waitsFor md ops t i = true)
    (hs : Region.noSelect ops = true) (hf : Region.free md ops listed i = true) (hr : (Region.ready md ops listed).contains i = true)
    (hQ : ∀ c a w, Q (.panic c) (a.put oi.dst v) w → Q (.panic c) a w) (hy : YieldsIf P ops S oi v a) (hS : S w)
    (h : wpAnyT P md ops Q S t fuel (listed.setIfInBounds i true) (a.put oi.dst v) w) : wpAnyT P md ops Q S t (fuel + 1) listed a w :=
  wpAnyT_first hi ht (Region.noSelect_spec hs) hQ fuel listed a w (Region.free_spec hi hf) (by simpa using hr) hy hS h
theorem wpAnyT_done {t : Nat} {listed : Array Bool} {a : Act} {w : World} (hr : Region.ready md ops listed = []) (h : Q .normal a w) :
    ∀ fuel, wpAnyT P md ops Q S t fuel listed a w
  | 0 => ⟨hr, h⟩
  | _ + 1 => ⟨fun _ => h, by rw [hr]; simp⟩
/-- One that comes up now, ahead of the last. -/
theorem oneT {t i : Nat} {o : Oper} {fuel : Nat} {listed : Array Bool} {a : Act} {w : World} (hr : Region.ready md ops listed = [i]) (ho : ops[i]? = some o)
    (h : ∀ K' : Act → World → Prop, (∀ a w, i = t ∨ S w → wpAnyT P md ops Q S t fuel (listed.setIfInBounds i true) a w → K' a w) → if Region.wanted o (yielded ops a.tmps) = true then Oper.wp P o a w K' Q else K' (a.put o.dst undef) w) : wpAnyT P md ops Q S t (fuel + 1) listed a w :=
  ⟨fun h0 => absurd (hr ▸ h0) (by simp), fun j hj => by
    rw [hr] at hj
    obtain rfl : j = i := by simpa using hj
    exact opH ho (fun K' hK => h K' (fun a w q1 q2 => hK a w ⟨q1, q2⟩))⟩
theorem region_roundT {r n id : Nat} {l : List Oper} {a : Act} {w : World} (t : Nat) (S : World → Prop) (hm : P.follows .mixedOrders = true) (hd : l.all notDefer = true)
    (h : wpAnyT P .any l.toArray (NOr Q) S t l.toArray.size (Array.replicate l.toArray.size false) a w.drew) : (Code.region id l.toArray true).wpIn (Fence.wide.inRound r) n P Q a w :=
  wpIn_mono (wpIn_region_any hm (anyRound (fun o ho => List.all_eq_true.1 hd o (by simpa using ho)) _ _ _ _ (wpAny_of_tail _ _ _ _ h))) NOr.imp
end Go.Proofs.YtfemopcichmlmaaGreatRRR
end

/- Heads: what a round holds. -/
section
namespace Go.Proofs.YtfemopcichmlmaaGreatRRR
open Go.RowKit Go.Shelf
set_option linter.unusedVariables false      -- a contract need not use every name

theorem rq_blk {A B : World} {v : Value} {q : List Rq} (h : RqAt A v q) (hk : ∀ a n c j u, v = .slice (some a) n c → q ≠ [] → A.cell? ⟨a.block, j, none⟩ = some u → B.heap[a.block]? = A.heap[a.block]?) : RqAt B v q := by
  by_cases hq : q = []
  · subst hq
    obtain ⟨a, c, e, ⟨_, h⟩ | ⟨b, o, e2, hc⟩⟩ := h
    · exact ⟨a, c, e, .inl ⟨rfl, h⟩⟩
    · subst e2; exact ⟨_, c, e, .inl ⟨rfl, fun q => by cases q⟩⟩
  · obtain ⟨a, c, e, ⟨h, _⟩ | ⟨b, o, e2, hc⟩⟩ := h
    · exact absurd h hq
    · subst e2
      obtain ⟨y, t, hy⟩ := List.exists_cons_of_ne_nil hq
      have h0 : 0 < q.length := by rw [hy]; simp
      have hc0 := hc.cell 0 h0 0 _ rfl
      have hb : B.heap[b]? = A.heap[b]? := hk _ _ _ _ _ e hq hc0
      exact ⟨_, c, e, .inr ⟨b, o, rfl, World.block_lt_of_cell? _ _ ((World.cell?_of_block hb).trans hc0), fun i hi c u hu => (World.cell?_of_block hb).trans (hc.cell i hi c u hu)⟩⟩
theorem HmOk.blk {A B : World} {o : Nat} {u u' : Option Nat} {x : Hm} (h : HmOk A o u x) (hk : ∀ b j z, x.a = some b → x.h.q ≠ [] → A.cell? ⟨b.block, j, none⟩ = some z → B.heap[b.block]? = A.heap[b.block]? ∧ u' ≠ some b.block) : HmOk B o u' x := by
  refine ⟨rq_blk h.rd fun a n c j z e hq hc => (hk a j z (by unfold hmV at e; injection e) hq hc).1, h.cap, h.len, h.new, fun b e hq => ?_⟩
  obtain ⟨a, c, e1, ⟨q1, _⟩ | ⟨b', o', e2, hc⟩⟩ := h.rd
  · exact absurd q1 hq
  · unfold hmV at e1
    rw [e, e2] at e1
    injection e1 with e1 _ _
    injection e1 with e1
    subst e1
    obtain ⟨y, t, hy⟩ := List.exists_cons_of_ne_nil hq
    have h0 : 0 < x.h.q.length := by rw [hy]; simp
    exact (hk _ _ _ e hq (hc.cell 0 h0 0 _ rfl)).2
/-- A round's append, and what else stays. -/
theorem BxI.push2 {α : Type} {P : Program} {ST T sz bytes c : Nat} {row : α → List Value} (E : Elem P ST T sz bytes row) {w : World} {S0 S : Nat → Prop} {v : Value} {pre : List α} {A A1 : World} (h : BxI T sz row w c S0 S v pre A) (hw : w.heap.size ≤ c) (hex : ∀ k, S k → k < A.heap.size) (g : Nw A A1) (x : α) (b cc : Nat) (hx : ∀ j u, (row x)[j]? = some u → A1.cell? ⟨b, j, none⟩ = some u) (hsm : pre.length < 100000)
    {n₀ : Nat} (hD : ∀ k, (k = n₀ ∨ k = n₀ + 1) → ∃ o, A.heap[k]? = some o ∧ o.isCells = false) :
    ∃ v' w1, (Builtin.append_ #[ST, ST] ST #[v, .slice (some ⟨b, 0, none⟩) 1 cc]).run P A1 = .ok v' w1 ∧ (∃ g cap, v' = .slice (some ⟨g, 0, none⟩) (pre.length + 1) cap) ∧ w1.cell? ⟨c, 0, none⟩ = some v ∧ w1.frozen? ⟨c, 0, none⟩ = false ∧
      BxI T sz row w c S0 S v' (pre ++ [x]) (w1.setCell ⟨c, 0, none⟩ v') ∧ KpS S A (w1.setCell ⟨c, 0, none⟩ v') ∧ KpD n₀ A (w1.setCell ⟨c, 0, none⟩ v') ∧
      (∀ k, k < A1.heap.size → v.ownBlock ≠ some k → w1.heap[k]? = A1.heap[k]?) ∧ (v'.ownBlock = v.ownBlock ∨ v'.ownBlock = some A1.heap.size) := by
  have hc := h.lt
  obtain ⟨v', w1, h1, h2, h3, h4, h5⟩ := Own.push E (onw h.own g) x b cc hx hsm (by have := g.sz; omega)
  have hvc : ∀ k, v.ownBlock = some k → c < k := fun k hk => oge h.own hk
  have c1 : w1.cell? ⟨c, 0, none⟩ = some v := by
    have e : w1.heap[c]? = A1.heap[c]? := h3.block c (Nat.lt_of_lt_of_le hc g.sz) (fun q => by have := hvc c q.symm; omega)
    rw [World.cell?_of_block e]; exact g.kp h.cell
  have f1 : w1.frozen? ⟨c, 0, none⟩ = false := by
    have e : w1.heap[c]? = A1.heap[c]? := h3.block c (Nat.lt_of_lt_of_le hc g.sz) (fun q => by have := hvc c q.symm; omega)
    rw [World.frozen?_of_block e]; exact (g.froz hc).trans h.froz
  have hkeep : ∀ k, k < A.heap.size → v.ownBlock ≠ some k → k ≠ c → (w1.setCell ⟨c, 0, none⟩ v').heap[k]? = A.heap[k]? := fun k hk q1 q2 => by
    rw [Below.heap_setCell _ _ _ _ (by simpa using q2), h3.block k (Nat.lt_of_lt_of_le hk g.sz) (fun q => q1 q.symm)]
    exact g.block k hk
  refine ⟨v', w1, h1, h5, c1, f1, ⟨World.cell?_setCell_same _ _ _ c1, by rw [World.frozen?_setCell]; exact f1, own_st h2 (Nat.lt_succ_self c) _, fun k hk => ?_, h.box, h.sub, ?_⟩, ⟨?_, fun k hk => ?_⟩, fun k hk => ?_, fun k hk q => h3.block k hk (fun e => q e.symm), h4⟩
  · rcases h4 with q | q
    · exact h.row k (q ▸ hk)
    · rw [q] at hk
      have := Option.some.inj hk
      have := g.sz
      intro hs
      have := hex k hs
      omega
  · refine ((h.nw.trans g).gro h3 (fun k hk => ?_)).st (p := ⟨c, 0, none⟩) hw v'
    have := hvc k hk
    omega
  · have := h3.size
    have := g.sz
    have e : (w1.setCell ⟨c, 0, none⟩ v').heap.size = w1.heap.size := by simp
    omega
  · exact hkeep k (hex k hk) (fun q => h.row k q hk) (fun q => h.box (q ▸ hk))
  · obtain ⟨o, ho, hno⟩ := hD k hk
    refine hkeep k (hlt ho) (fun q => ?_) (fun q => ?_)
    · obtain ⟨cc, hcc⟩ := oheap h.own q
      rw [hcc] at ho; cases ho; cases hno
    · subst q
      obtain ⟨o', ho', hc'⟩ := cellsB h.cell
      rw [show (⟨k, 0, none⟩ : Addr).block = k from rfl, ho] at ho'; cases ho'; rw [hno] at hc'; cases hc'
/-- What Heads holds between two rounds. -/
structure HdI (w : World) (S0 S : Nat → Prop) (v : Value) (lm : List Hm) (pre : List Hp) (A : World) : Prop where
  bx : BxI 52 4 hmrow w w.heap.size S0 S v lm A
  eq : lm.map Hm.h = pre.map Hp.h
  ok : ∀ x ∈ lm, HmOk A w.heap.size v.ownBlock x ∧ ∀ b, x.a = some b → x.h.q ≠ [] → ¬ S b.block
theorem HdI.step {w A B : World} {n₀ : Nat} {S0 S S' : Nat → Prop} {v : Value} {lm : List Hm} {pre : List Hp} (hn : w.heap.size ≤ n₀) (h : HdI w S0 S v lm pre A) (k : Ch' n₀ (fun k => S k ∧ ¬ S0 k) A B) (h2 : ∀ k, S' k → S k ∨ A.heap.size ≤ k) : HdI w S0 S' v lm pre B := by
  refine ⟨h.bx.step hn k h2, h.eq, fun x hx => ?_⟩
  obtain ⟨h3, h4⟩ := h.ok x hx
  refine ⟨h3.blk fun b j z e hq hc => ⟨chSame (a := ⟨b.block, j, none⟩) k hc (fun q => h4 b e hq q.1), h3.off b e hq⟩, fun b e hq q => ?_⟩
  rcases h2 _ q with q | q
  · exact h4 b e hq q
  · obtain ⟨a, c, e1, ⟨q1, _⟩ | ⟨b', o', e2, hc⟩⟩ := h3.rd
    · exact hq q1
    · unfold hmV at e1
      rw [e, e2] at e1
      injection e1 with e1 _ _
      injection e1 with e1
      subst e1
      have := hc.lt
      have e3 : (⟨b', o', none⟩ : Addr).block = b' := rfl
      omega
/-- A row of heads of the call's own: o is the last block below it. -/
def HdsAt (w : World) (o : Nat) (v : Value) (hs : List Hq) : Prop := ∃ lm : List Hm, HmOwn w (o + 1) v lm ∧ lm.map Hm.h = hs ∧ ∀ x ∈ lm, HmOk w o v.ownBlock x
def HdPost (w : World) (hs : List Hq) (e : Ending) (W : World) : Prop := ∃ v, e = .returned v ∧ HdsAt W w.heap.size v hs ∧ Nw w W
/-- What stays while a head is copied. -/
def HdS (c xp : Nat) (v : Value) (t r W : Int) (a : Option Addr) (n m : Nat) (y : World) : Prop := y.cell? ⟨c, 0, none⟩ = some v ∧ y.cell? ⟨xp, 0, none⟩ = some (.int .i64 t) ∧ y.cell? ⟨xp, 1, none⟩ = some (.int .i64 r) ∧ y.cell? ⟨xp, 2, none⟩ = some (.slice a n m) ∧ y.cell? ⟨xp, 3, none⟩ = some (.int .i64 W)
theorem HdS.nw {c xp : Nat} {v : Value} {t r W : Int} {a : Option Addr} {n m : Nat} {y y' : World} (h : HdS c xp v t r W a n m y) (g : Nw y y') : HdS c xp v t r W a n m y' := ⟨g.kp h.1, g.kp h.2.1, g.kp h.2.2.1, g.kp h.2.2.2.1, g.kp h.2.2.2.2⟩
/-- A round: a head has been copied, its copy appended. -/
theorem HdI.push {w A z : World} {n₀ : Nat} {S0 S : Nat → Prop} {v : Value} {lm : List Hm} {pre : List Hp} (h : HdI w S0 S v lm pre A) (hex : ∀ k, S k → k < A.heap.size) (g : Nw A z) {t r W : Int} {q : List Rq} {x : Hp} (hx : x.h = ⟨t, r, W, q⟩) (hq : q.length ≤ 1000) {a1 : Option Addr} {c1 : Nat} (ho : RqOwn z A.heap.size (.slice a1 q.length c1) q) (hsm : lm.length < 100000)
    (hD : ∀ k, (k = n₀ ∨ k = n₀ + 1) → ∃ o, A.heap[k]? = some o ∧ o.isCells = false) {xp : Nat} {a : Option Addr} {m : Nat} (hxp : xp < w.heap.size) (hS : HdS w.heap.size xp v t r W a q.length m A) :
    ∃ v' w1, (Builtin.append_ #[35, 35] 35 #[v, .slice (some ⟨z.heap.size, 0, none⟩) 1 1]).run Tryz.prog (z.alloc (.cells #[.int .i64 t, .int .i64 r, .slice a1 q.length c1, .int .i64 W] 52)) = .ok v' w1 ∧ (∃ g cap, v' = .slice (some ⟨g, 0, none⟩) (lm.length + 1) cap) ∧ w1.cell? ⟨w.heap.size, 0, none⟩ = some v ∧ w1.frozen? ⟨w.heap.size, 0, none⟩ = false ∧
      HdS w.heap.size xp v t r W a q.length m w1 ∧
      (∃ lm', HdI w S0 S v' lm' (pre ++ [x]) (w1.setCell ⟨w.heap.size, 0, none⟩ v')) ∧ KpS S A (w1.setCell ⟨w.heap.size, 0, none⟩ v') ∧ KpD n₀ A (w1.setCell ⟨w.heap.size, 0, none⟩ v') := by
  have hal := allocAt z (.cells #[.int .i64 t, .int .i64 r, .slice a1 q.length c1, .int .i64 W] 52)
  have g1 : Nw z (z.alloc (.cells #[.int .i64 t, .int .i64 r, .slice a1 q.length c1, .int .i64 W] 52)) := (Nw.refl z).alloc _
  have hsz : (z.alloc (.cells #[.int .i64 t, .int .i64 r, .slice a1 q.length c1, .int .i64 W] 52)).heap.size = z.heap.size + 1 := by simp
  generalize z.alloc (.cells #[.int .i64 t, .int .i64 r, .slice a1 q.length c1, .int .i64 W] 52) = z1 at *
  obtain ⟨v', w1, h1, h2, h3, h4, h5, h6, h7, h8, h9⟩ := h.bx.push2 elemHm (Nat.le_refl _) hex (g.trans g1) (⟨⟨t, r, W, q⟩, a1, c1⟩ : Hm) z.heap.size 1 (fun j u hu => by
    rw [hcell hal]
    simpa [hmrow] using hu) hsm hD
  have hvl : ∀ k, v.ownBlock = some k → k < A.heap.size := fun k e => olt h.bx.own e
  have hvg : ∀ k, v.ownBlock = some k → w.heap.size < k := fun k e => oge h.bx.own e
  have hwA := h.bx.nw.sz
  have hAz := g.sz
  have hcl := h.bx.lt
  have keep : ∀ k, k < z1.heap.size → v.ownBlock ≠ some k → k ≠ w.heap.size → (w1.setCell ⟨w.heap.size, 0, none⟩ v').heap[k]? = z1.heap[k]? := fun k hk q1 q2 => by
    rw [Below.heap_setCell _ _ _ _ (by simpa using q2)]; exact h8 k hk q1
  have sc : ∀ j u, A.cell? ⟨xp, j, none⟩ = some u → w1.cell? ⟨xp, j, none⟩ = some u := fun j u e => by
    have e1 : w1.heap[xp]? = z1.heap[xp]? := h8 xp (by omega) (fun q => by have := hvg _ q; omega)
    rw [World.cell?_of_block e1]
    exact (g.trans g1).kp e
  refine ⟨v', w1, h1, h2, h3, h4, ⟨h3, sc _ _ hS.2.1, sc _ _ hS.2.2.1, sc _ _ hS.2.2.2.1, sc _ _ hS.2.2.2.2⟩, ⟨lm ++ [⟨⟨t, r, W, q⟩, a1, c1⟩], h5, by rw [List.map_append, List.map_append, h.eq]; simp [hx], fun y hy => ?_⟩, h6, h7⟩
  rcases List.mem_append.1 hy with hy | hy
  · obtain ⟨k1, k2⟩ := h.ok y hy
    refine ⟨k1.blk fun b j u e hne hc => ?_, k2⟩
    have hbl : b.block < A.heap.size := World.block_lt_of_cell? _ ⟨b.block, j, none⟩ hc
    have hbn : b.block ≠ w.heap.size := by
      have := k1.new b _ _ (by unfold hmV; rw [e])
      omega
    refine ⟨(keep b.block (by omega) (k1.off b e hne) hbn).trans ((g.trans g1).block _ hbl), ?_⟩
    rcases h9 with q9 | q9
    · rw [q9]; exact k1.off b e hne
    · rw [q9]; intro e9; have := Option.some.inj e9; omega
  · obtain rfl : y = ⟨⟨t, r, W, q⟩, a1, c1⟩ := by simpa using hy
    have hbk : ∀ b, a1 = some b → A.heap.size ≤ b.block ∧ b.block < z.heap.size := fun b e => by
      subst e
      rcases oform ho with ⟨e, _⟩ | ⟨g', cap, e⟩
      · cases e
      · cases e
        exact ⟨oge ho rfl, olt ho rfl⟩
    refine ⟨⟨?_, ?_, hq, fun b n c e => ?_, fun b e hne => ?_⟩, fun b e hne hs => ?_⟩
    · refine rq_blk (Rd.nw (RqOwn.rd ho) g1) fun b n c j u e hne hc => ?_
      unfold hmV at e
      simp only [Value.slice.injEq] at e
      have := hbk b e.1
      exact keep b.block (by omega) (fun q => by have := hvl _ q; omega) (by omega)
    · exact RqOwn.cap ho
    · unfold hmV at e
      simp only [Value.slice.injEq] at e
      have := hbk b e.1
      omega
    · have := hbk b e
      rcases h9 with q9 | q9
      · rw [q9]; intro q; have := hvl _ q; omega
      · rw [q9]; intro e9; have := Option.some.inj e9; omega
    · have := hbk b e
      have := hex _ hs
      omega
end Go.Proofs.YtfemopcichmlmaaGreatRRR
end

/- Heads. -/
section
namespace Go.Proofs.YtfemopcichmlmaaGreatRRR
open Go.RowKit Go.Sort Go.Shelf
set_option linter.unusedVariables false      -- a contract need not use every name
attribute [local go_sem] Oper.semAt_some

set_option maxRecDepth 100000 in
set_option maxHeartbeats 4000000 in
theorem heads_in (n : Nat) (hn : 4 ≤ n) {w : World} {o mb po nn : Nat} {l : List Hp} {L : List Bool} {F : Nat → Prop} (h : Db w o mb po nn l L F) :
    CallsIn Fence.wide n Tryz.prog 9 #[.pointer (some ⟨o, 0, none⟩)] w (HdPost w (hsP l)) := by
  have h1 : 1 ≤ n := by omega
  have hol := h.ol
  have hml := h.map.lt
  have hll := h.len
  have HMd := Lib.hid (bmade_yes o w h.c0)
  have H := Lib.hid h
  refine callsIn_of_wp_marks Tryz.func9 rfl trivial ?_ rfl
  simp only [Tryz.ntmps9, List.size_toArray, List.length_cons, List.length_nil, Nat.reduceAdd, Nat.reduceSub, Array.replicate_succ, Array.replicate_zero, List.push_toArray, List.append_toArray, List.nil_append, List.cons_append]
  clear h
  refine wpIn_wide.2 ?_
  go_wp2_with (go_at_call 25; refine HMd.out.mono ?_; rintro e w' ⟨rfl, rfl⟩)
  obtain ⟨W0, hW0⟩ : ∃ W0, w.alloc (.cells #[.slice none 0 0] 35) = W0 := ⟨_, rfl⟩
  have hnw : Nw w W0 := by rw [← hW0]; exact (Nw.refl w).alloc _
  have hsz : W0.heap.size = w.heap.size + 1 := by rw [← hW0]; simp
  have hA0 : ∃ v lm, HdI w (fun k => k = o ∨ k = mb) (fun k => k = o ∨ k = mb) v lm [] W0 := by
    refine ⟨.slice none 0 0, [], ⟨?_, ?_, World.ownsRow_nil _ _ _ _, fun k e => by simp [Value.ownBlock] at e, fun e => by omega, fun k e => .inl e, hnw⟩, rfl, by simp⟩
    · rw [← hW0]; simp [go_sem]
    · rw [← hW0]; simp [go_sem]
  have hseq := each_in (n - 1) (by omega) o mb l W0 ((H.out.nw hnw).c3) ((H.out.nw hnw).map) H.out.srt (by omega)
  rw [hW0]
  clear hW0 HMd
  refine (wpIn_wide (n := n)).1 ?_
  refine rg_law rfl h1 (gf := 26) (fa := #[.pointer (some ⟨o, 0, none⟩)]) (lb := #[]) rfl trivial e_each (S0 := fun k => k = o ∨ k = mb) (fun k e => by omega) hseq rfl
    (fun S pre A => ∃ v lm, HdI w (fun k => k = o ∨ k = mb) S v lm pre A) (fun _ _ _ _ => False)
    (fun S S' pre A B hi hc e1 e2 _ => by obtain ⟨v, lm, hi⟩ := hi; exact ⟨v, lm, hi.step (by omega) hc e2⟩) (fun _ _ _ _ _ _ h _ _ _ _ => h) hA0 (fun _ => none)
    (fun x bx => { tmps := #[.pointer (some ⟨o, 0, none⟩), undef, .slice none 0 0, .pointer (some ⟨w.heap.size, 0, none⟩), ptP x, .pointer (some ⟨o, 0, none⟩), .bool true, .bool false, .pointer (some ⟨o, 0, none⟩), .func (.func 26) #[.pointer (some ⟨o, 0, none⟩)] #[], ptP x, undef, undef, undef, undef, undef, undef, undef, undef, undef, undef, undef, undef, undef, undef, undef, undef, undef, undef], defers := [] }) ?assign ?body ?done ?stop
  case assign =>
    intro r x A K hK
    simp only [mkB] at hK
    gi_wp2
    exact hK
  case body =>
    intro r S pre x bx A hi hsub hex hnb hbl hnc hcx hpre
    obtain ⟨v, lm, hi⟩ := hi
    have hx : x ∈ l := hpre.subset (by simp)
    have hok := (H.out.nw hi.bx.nw).ok x hx
    have hxw : x.p < w.heap.size := (H.out.ok x hx).lt
    have hHd : HdS w.heap.size x.p v x.h.t x.h.r x.h.W x.a x.h.q.length x.c A := ⟨hi.bx.cell, hok.c0, hok.c1, hok.c2, hok.c3⟩
    have hlm : lm.length < 100000 := by
      have e1 := congrArg List.length hi.eq
      rw [List.length_map, List.length_map] at e1
      have e2 := hpre.length_le
      rw [List.length_append, List.length_singleton] at e2
      omega
    have HCl := Lib.hid (fun w1 (g : Nw A w1) => dClone (hpV x) x.h.q w1 hok.len (hok.rd.nw g))
    have HPu := Lib.hid (fun z (g : Nw A z) a1 c1 (ho : RqOwn z A.heap.size (.slice a1 x.h.q.length c1) x.h.q) => hi.push hex g (x := x) rfl hok.len ho hlm (n₀ := w.heap.size + 1) (fun k e => (hnc k (by rw [hsz]; exact e)).2) hxw hHd)
    unfold hpV at HCl
    obtain ⟨va, vn, vc, hv⟩ : ∃ va vn vc, v = .slice va vn vc := by
      rcases oform hi.bx.own with ⟨e, _⟩ | ⟨g, cap, e⟩
      · exact ⟨_, _, _, e⟩
      · exact ⟨_, _, _, e⟩
    subst hv
    have hcl := hi.bx.lt
    have hsz1 : W0.heap.size = w.heap.size + 1 := hsz
    clear hi hsub hex hnb hbl hnc hcx hpre hok hx hseq hA0 hlm
    obtain ⟨⟨xt, xr, xW, xq⟩, xp, xa, xc⟩ := x
    simp only at HCl HPu hHd hxw
    rw [hsz1]
    gi_wp2_with fail
    refine region_roundT 17 (HdS w.heap.size xp (.slice va vn vc) xt xr xW xa xq.length xc) (by kernel_rfl) (by kernel_rfl) ?_
    change wpAnyT _ _ _ _ _ _ 18 #[false, false, false, false, false, false, false, false, false, false, false, false, false, false, false, false, false, false] _ A.drew
    have hN0 : Nw A A.drew := (Nw.refl A).dr
    have hS0 := hHd.nw hN0
    obtain ⟨y, hy⟩ : ∃ y, A.drew = y := ⟨_, rfl⟩
    rw [hy] at hS0 hN0 ⊢
    clear hy
    refine wpAnyT_take (i := 0) (v := .slice va vn vc) rfl (by kernel_rfl) (by kernel_rfl) (by kernel_rfl) (by kernel_rfl) (fun c a w h => h) (.inl ⟨rfl, fun w hw => by obtain ⟨q0, q1, q2, q3, q4⟩ := hw; go_simp⟩) hS0 ?_
    simp only [Act.put, List.getElem_toArray, List.getElem_cons_zero, List.getElem_cons_succ, List.setIfInBounds_toArray, List.set_cons_zero, List.set_cons_succ]
    refine wpAnyT_take (i := 1) (v := .pointer (some ⟨xp, 0, none⟩)) rfl (by kernel_rfl) (by kernel_rfl) (by kernel_rfl) (by kernel_rfl) (fun c a w h => h) (.inl ⟨rfl, fun w hw => by obtain ⟨q0, q1, q2, q3, q4⟩ := hw; go_simp⟩) hS0 ?_
    simp only [Act.put, List.getElem_toArray, List.getElem_cons_zero, List.getElem_cons_succ, List.setIfInBounds_toArray, List.set_cons_zero, List.set_cons_succ]
    refine wpAnyT_take (i := 2) (v := .pointer (some ⟨xp, 0, none⟩)) rfl (by kernel_rfl) (by kernel_rfl) (by kernel_rfl) (by kernel_rfl) (fun c a w h => h) (.inl ⟨rfl, fun w hw => by obtain ⟨q0, q1, q2, q3, q4⟩ := hw; go_simp⟩) hS0 ?_
    simp only [Act.put, List.getElem_toArray, List.getElem_cons_zero, List.getElem_cons_succ, List.setIfInBounds_toArray, List.set_cons_zero, List.set_cons_succ]
    refine wpAnyT_take (i := 3) (v := .pointer (some ⟨xp, 0, none⟩)) rfl (by kernel_rfl) (by kernel_rfl) (by kernel_rfl) (by kernel_rfl) (fun c a w h => h) (.inl ⟨rfl, fun w hw => by obtain ⟨q0, q1, q2, q3, q4⟩ := hw; go_simp⟩) hS0 ?_
    simp only [Act.put, List.getElem_toArray, List.getElem_cons_zero, List.getElem_cons_succ, List.setIfInBounds_toArray, List.set_cons_zero, List.set_cons_succ]
    refine wpAnyT_take (i := 4) (v := .agg #[.int .i64 xt, .int .i64 xr]) rfl (by kernel_rfl) (by kernel_rfl) (by kernel_rfl) (by kernel_rfl) (fun c a w h => h) (.inl ⟨rfl, fun w hw => by obtain ⟨q0, q1, q2, q3, q4⟩ := hw; go_simp⟩) hS0 ?_
    simp only [Act.put, List.getElem_toArray, List.getElem_cons_zero, List.getElem_cons_succ, List.setIfInBounds_toArray, List.set_cons_zero, List.set_cons_succ]
    refine wpAnyT_take (i := 5) (v := .pointer (some ⟨xp, 0, none⟩)) rfl (by kernel_rfl) (by kernel_rfl) (by kernel_rfl) (by kernel_rfl) (fun c a w h => h) (.inl ⟨rfl, fun w hw => by obtain ⟨q0, q1, q2, q3, q4⟩ := hw; go_simp⟩) hS0 ?_
    simp only [Act.put, List.getElem_toArray, List.getElem_cons_zero, List.getElem_cons_succ, List.setIfInBounds_toArray, List.set_cons_zero, List.set_cons_succ]
    refine wpAnyT_take (i := 6) (v := .pointer (some ⟨xp, 0, none⟩)) rfl (by kernel_rfl) (by kernel_rfl) (by kernel_rfl) (by kernel_rfl) (fun c a w h => h) (.inl ⟨rfl, fun w hw => by obtain ⟨q0, q1, q2, q3, q4⟩ := hw; go_simp⟩) hS0 ?_
    simp only [Act.put, List.getElem_toArray, List.getElem_cons_zero, List.getElem_cons_succ, List.setIfInBounds_toArray, List.set_cons_zero, List.set_cons_succ]
    refine wpAnyT_take (i := 7) (v := .pointer (some ⟨xp, 2, none⟩)) rfl (by kernel_rfl) (by kernel_rfl) (by kernel_rfl) (by kernel_rfl) (fun c a w h => h) (.inl ⟨rfl, fun w hw => by obtain ⟨q0, q1, q2, q3, q4⟩ := hw; go_simp⟩) hS0 ?_
    simp only [Act.put, List.getElem_toArray, List.getElem_cons_zero, List.getElem_cons_succ, List.setIfInBounds_toArray, List.set_cons_zero, List.set_cons_succ]
    refine wpAnyT_take (i := 8) (v := .slice xa xq.length xc) rfl (by kernel_rfl) (by kernel_rfl) (by kernel_rfl) (by kernel_rfl) (fun c a w h => h) (.inl ⟨rfl, fun w hw => by obtain ⟨q0, q1, q2, q3, q4⟩ := hw; go_simp⟩) hS0 ?_
    simp only [Act.put, List.getElem_toArray, List.getElem_cons_zero, List.getElem_cons_succ, List.setIfInBounds_toArray, List.set_cons_zero, List.set_cons_succ]
    refine wpAnyT_take (i := 10) (v := .pointer (some ⟨xp, 0, none⟩)) rfl (by kernel_rfl) (by kernel_rfl) (by kernel_rfl) (by kernel_rfl) (fun c a w h => h) (.inl ⟨rfl, fun w hw => by obtain ⟨q0, q1, q2, q3, q4⟩ := hw; go_simp⟩) hS0 ?_
    simp only [Act.put, List.getElem_toArray, List.getElem_cons_zero, List.getElem_cons_succ, List.setIfInBounds_toArray, List.set_cons_zero, List.set_cons_succ]
    refine wpAnyT_take (i := 11) (v := .pointer (some ⟨xp, 0, none⟩)) rfl (by kernel_rfl) (by kernel_rfl) (by kernel_rfl) (by kernel_rfl) (fun c a w h => h) (.inl ⟨rfl, fun w hw => by obtain ⟨q0, q1, q2, q3, q4⟩ := hw; go_simp⟩) hS0 ?_
    simp only [Act.put, List.getElem_toArray, List.getElem_cons_zero, List.getElem_cons_succ, List.setIfInBounds_toArray, List.set_cons_zero, List.set_cons_succ]
    refine wpAnyT_take (i := 12) (v := .pointer (some ⟨xp, 3, none⟩)) rfl (by kernel_rfl) (by kernel_rfl) (by kernel_rfl) (by kernel_rfl) (fun c a w h => h) (.inl ⟨rfl, fun w hw => by obtain ⟨q0, q1, q2, q3, q4⟩ := hw; go_simp⟩) hS0 ?_
    simp only [Act.put, List.getElem_toArray, List.getElem_cons_zero, List.getElem_cons_succ, List.setIfInBounds_toArray, List.set_cons_zero, List.set_cons_succ]
    refine wpAnyT_take (i := 13) (v := .int .i64 xW) rfl (by kernel_rfl) (by kernel_rfl) (by kernel_rfl) (by kernel_rfl) (fun c a w h => h) (.inl ⟨rfl, fun w hw => by obtain ⟨q0, q1, q2, q3, q4⟩ := hw; go_simp⟩) hS0 ?_
    simp only [Act.put, List.getElem_toArray, List.getElem_cons_zero, List.getElem_cons_succ, List.setIfInBounds_toArray, List.set_cons_zero, List.set_cons_succ]
    refine oneT (i := 9) (by kernel_rfl) rfl (fun K hK => ?_)
    rw [if_pos (by rfl)]
    simp only [List.getElem_toArray, List.getElem_cons_zero, List.getElem_cons_succ]
    go_simp
    refine (HCl.out _ hN0).mono ?_
    rintro e z ⟨v1, rfl, g1, ho1⟩
    obtain ⟨a1, c1, hv1⟩ : ∃ a1 c1, v1 = .slice a1 xq.length c1 := by
      rcases oform ho1 with ⟨e, e2⟩ | ⟨g, cap, e⟩
      · exact ⟨none, 0, by rw [e, e2]⟩
      · exact ⟨_, _, e⟩
    subst hv1
    have hNz := hN0.trans g1
    have hSz := hS0.nw g1
    obtain ⟨v', w1, hr, ⟨gg, cap, hv'⟩, hcc, hff, hSw, hI, hK1, hK2⟩ := HPu.out z hNz a1 c1 (olow ho1 (fun g hg => by have := oge ho1 hg; have := hN0.sz; omega))
    subst hv'
    refine hK _ _ (.inr hSz) ?_
    clear hK K
    refine wpAnyT_take (i := 14) (v := .agg #[.int .i64 xt, .int .i64 xr, .slice a1 xq.length c1, .int .i64 xW]) rfl (by kernel_rfl) (by kernel_rfl) (by kernel_rfl) (by kernel_rfl) (fun c a w h => h) (.inl ⟨rfl, fun w hw => by obtain ⟨q0, q1, q2, q3, q4⟩ := hw; go_simp⟩) hSz ?_
    simp only [Act.put, List.getElem_toArray, List.getElem_cons_zero, List.getElem_cons_succ, List.setIfInBounds_toArray, List.set_cons_zero, List.set_cons_succ]
    refine oneT (i := 15) (by kernel_rfl) rfl (fun K hK => ?_)
    rw [if_pos (by rfl)]
    simp only [List.getElem_toArray, List.getElem_cons_zero, List.getElem_cons_succ]
    go_simp
    refine hK _ _ (.inr (hSz.nw ((Nw.refl z).alloc _))) ?_
    clear hK K
    refine oneT (i := 16) (by kernel_rfl) rfl (fun K hK => ?_)
    refine stp_app (by rfl) (.tmp 11) (.tmp 26) 35 rfl _ _ _ _ rfl rfl hr ?_
    refine hK _ _ (.inr hSw) ?_
    clear hK K
    simp only [Act.put, List.getElem_toArray, List.getElem_cons_zero, List.getElem_cons_succ, List.setIfInBounds_toArray, List.set_cons_zero, List.set_cons_succ]
    have HE := Lib.hid (And.intro hK2 (And.intro hK1 hI))
    have hwl := World.block_lt_of_cell? _ _ hcc
    refine oneT (i := 17) (by kernel_rfl) rfl (fun K hK => ?_)
    rw [if_pos (by rfl)]
    simp only [List.getElem_toArray, List.getElem_cons_zero, List.getElem_cons_succ]
    go_simp
    refine hK _ _ (.inl rfl) ?_
    clear hK K
    refine wpAnyT_done (by kernel_rfl) ?_ _
    change (NOr _ .normal _ _)
    unfold NOr
    exact ⟨HE.out.1, HE.out.2.1, _, HE.out.2.2⟩
  case done =>
    intro D S xs W hD _ hfin hi hK
    subst hfin
    obtain ⟨v, lm, hi⟩ := hi
    have HE : Hid (HdPost w (hsP xs) (.returned v) (W.putObj D (.deferred none))) := by
      have hc : Ch' D (fun k => S k ∧ ¬ (k = o ∨ k = mb)) W (W.putObj D (.deferred none)) := Ch'.put _ (.inl rfl) hK rfl
      have hi2 := hi.step (S' := S) (by omega) hc (fun k e => .inl e)
      exact ⟨v, rfl, ⟨lm, hi2.bx.own, hi2.eq, fun x hx => (hi2.ok x hx).1⟩, hi2.bx.nw⟩
    have hd := hi.bx.cell
    have hf := oform hi.bx.own
    clear hseq hA0 hi
    obtain ⟨va, vn, vc, hv⟩ : ∃ va vn vc, v = .slice va vn vc := by
      rcases hf with ⟨e, _⟩ | ⟨g, cap, e⟩
      · exact ⟨_, _, _, e⟩
      · exact ⟨_, _, _, e⟩
    subst hv
    go_wp2
    refine ⟨by simp, .inl ⟨_, _, rfl, run_takeDeferred hK, ?_⟩⟩
    exact ⟨_, results_tmp (t := 2) rfl _ _ _, HE.out⟩
  case stop =>
    intro D c S pre W _ _ h _
    exact h.elim
theorem heads_d {w : World} {o mb po nn : Nat} {l : List Hp} {L : List Bool} {F : Nat → Prop} (h : Db w o mb po nn l L F) :
    Calls Tryz.prog 9 #[.pointer (some ⟨o, 0, none⟩)] w (HdPost w (hsP l)) := callsIn_wide.1 (heads_in 4 (by omega) h)
end Go.Proofs.YtfemopcichmlmaaGreatRRR
end
