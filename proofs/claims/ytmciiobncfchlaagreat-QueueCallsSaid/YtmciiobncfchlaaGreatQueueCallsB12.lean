/- Texts merged: QvX, QuV, QvW, QvY, Shelf, QwA -/
import Derived.Test.YtmciiobncfchlaaGreatQueueCallsB11
import Derived.StillTailTactics
import Derived.Deep.QuietTactic
import Derived.BigQuiet
import Derived.Shelf.Small.Bits
import Derived.Shelf.Small.Wraps
import Derived.Shelf.Strconv.Itoa0
import Derived.Shelf.Sort.Plain
import Derived.Ground.Names2Prog
import Derived.Shelf.Slices.CompactI
import Derived.Shelf.Slices.SearchI
import Derived.Shelf.Slices.Cells
import Derived.Shelf.Slices.In.SortNone
import Derived.Test.YtmciiobncfchlaaGreatProg
import Derived.Sort.OwnSortedInts
import Derived.Lib.RowBridge

/- The developers' package queue: Hand. -/
section
namespace Go.Proofs.YtmciiobncfchlaaGreat
open Go.RowKit
set_option linter.unusedVariables false      -- a contract need not use every name

theorem hn_plc {W : Int} {q : List Rq} {id x : Int} {k : Nat} (h : Ok W q) (hk : k < q.length) (hf : fnd q id = some q[k]) :
    (q.any fun o => !(o.id == id) && o.txn == x) = ((plc (fun R => R.txn == x) q != -1) && (plc (fun R => R.txn == x) q != (k : Int))) := by
  rcases plc_form (fun R => R.txn == x) q with ⟨h1, h2⟩ | ⟨m, h1, hm, h3, h4⟩
  · rw [h1]
    rw [hn_none hk hf (fun m hm _ e => by have := h2 _ (List.getElem_mem hm); simp [e] at this)]
    rfl
  · rw [h1]
    have e1 : ((m : Int) != -1) = true := by rw [bne_iff_ne]; omega
    rw [e1, Bool.true_and]
    have h3' : q[m].txn = x := by simpa using h3
    by_cases e : m = k
    · subst e
      have : ((m : Int) != (m : Int)) = false := by simp
      rw [this]
      refine hn_none hk hf (fun j hj ne ej => ?_)
      have e5 : q[j] = q[m] := h.injT _ (List.getElem_mem hj) _ (List.getElem_mem hk) (by rw [ej, h3'])
      have e6 := id_ne h hj hk ne
      exact e6 (by rw [e5])
    · have : ((m : Int) != (k : Int)) = true := by rw [bne_iff_ne]; omega
      rw [this]
      exact hn_hit h hk hf hm e h3'
set_option maxRecDepth 100000 in
set_option maxHeartbeats 4000000 in
theorem dHand (t r W id x : Int) (v : Value) (q : List Rq) (w : World) (hl : q.length ≤ 1000) (hok : Ok W q) (h : RqAt w v q) :
    Calls Tryz.prog 19 #[hdV t r v W, .int .i64 id, .int .i64 x] w (HD1 (hnR ⟨t, r, W, q⟩ id x) w) := by
  have HOk := Lib.hid hok
  clear hok
  obtain ⟨X, hX⟩ : ∃ X, hnR ⟨t, r, W, q⟩ id x = X := ⟨_, rfl⟩
  rw [hX]
  unfold HD1
  have HCl := Lib.hid (fun (w1 : World) (g : Nw w w1) => dClone v q w1 hl (h.nw g))
  obtain ⟨px, hpx⟩ : ∃ px, plc (fun R => R.id == id) q = px := ⟨_, rfl⟩
  have hFi := fun (w1 : World) (g : Nw w w1) (f : Value) (hf : Tells w1 f (fun R => R.id == id)) => dFind t r W v f _ q w1 hl (h.nw g) hf
  rw [hpx] at hFi
  obtain ⟨py, hpy⟩ : ∃ py, plc (fun R => R.txn == x) q = py := ⟨_, rfl⟩
  have hFt := fun (w1 : World) (g : Nw w w1) (f : Value) (hf : Tells w1 f (fun R => R.txn == x)) => dFind t r W v f _ q w1 hl (h.nw g) hf
  rw [hpy] at hFt
  have HAt := Lib.hid h
  obtain ⟨a, c, rfl, _⟩ := h
  unfold hdV at hFi hFt ⊢
  have HFi := Lib.hid hFi
  have HFt := Lib.hid hFt
  clear hFi hFt
  have HWi := Lib.hid (dWithID id)
  have HTx := Lib.hid (dOfTxn x)
  obtain ⟨hx1, hx2, hx3, hx4⟩ := two_boxes w (.cells #[.int .i64 t, .int .i64 r, .slice a q.length c, .int .i64 W] 26) (.cells #[.int .i64 0, .int .i64 0, .slice none 0 0, .int .i64 0] 26)
  obtain ⟨w1, hw1⟩ : ∃ w1, (w.alloc (.cells #[.int .i64 t, .int .i64 r, .slice a q.length c, .int .i64 W] 26)).alloc (.cells #[.int .i64 0, .int .i64 0, .slice none 0 0, .int .i64 0] 26) = w1 := ⟨_, rfl⟩
  rw [hw1] at hx1 hx2 hx3
  have HB1 := Lib.hid (And.intro (And.intro hx1 hx2) hx3)
  have s0 : ∀ z, Nw w1 z → z.cell? ⟨w.heap.size, 0, none⟩ = some (.int .i64 t) := fun z hz => hz.kp (hcell (j := 0) hx1)
  have s1 : ∀ z, Nw w1 z → z.cell? ⟨w.heap.size, 1, none⟩ = some (.int .i64 r) := fun z hz => hz.kp (hcell (j := 1) hx1)
  have s2 : ∀ z, Nw w1 z → z.cell? ⟨w.heap.size, 2, none⟩ = some (.slice a q.length c) := fun z hz => hz.kp (hcell (j := 2) hx1)
  have s3 : ∀ z, Nw w1 z → z.cell? ⟨w.heap.size, 3, none⟩ = some (.int .i64 W) := fun z hz => hz.kp (hcell (j := 3) hx1)
  clear hx1 hx2 hx3 hx4
  have HW1 := Lib.hid hw1
  clear hw1
  have q1 := (Nw.refl w1).drew1
  obtain ⟨wc, hwc⟩ : ∃ wc, w1.drew = wc := ⟨_, rfl⟩
  go_enter Tryz.func19, Tryz.ntmps19
  go_wp2
  rw [HW1.out]
  have hB : Nw w1 w1 := Nw.refl w1
  have HT : ∀ (z : World), Nw w1 z → Nw w z := fun z hz => HB1.out.2.trans hz
  clear q1 hwc
  go_region_held3 (fun y => Nw w1 y) (first | assumption | exact Nw.drew1 (by assumption) | exact Nw.trans (by assumption) (by assumption)) (first | (go_at_call 40; (with_reducible refine (HWi.out _).mono ?_); rintro e wy ⟨pa, rfl, hg, hbx⟩; replace hbx := Tells.withID hbx) | (go_at_call 41; (with_reducible refine (HTx.out _).mono ?_); rintro e wy ⟨pa, rfl, hg, hbx⟩; replace hbx := Tells.ofTxn hbx) | (go_at_call 39; (with_reducible refine (HFi.out _ (HT _ (by assumption)) _ hbx).mono ?_); rintro e wy ⟨rfl, hg⟩; clear hbx) | (go_at_call 39; (with_reducible refine (HFt.out _ (HT _ (by assumption)) _ hbx).mono ?_); rintro e wy ⟨rfl, hg⟩; clear hbx))

  rename_i q1
  have HN := Lib.hid (HB1.out.2.trans q1)
  have hp1 := q1.at' HB1.out.1.1
  have hq1 := q1.at' HB1.out.1.2
  have c0 := hcell (j := 0) hp1
  have c1 := hcell (j := 1) hp1
  have c2 := hcell (j := 2) hp1
  have c3 := hcell (j := 3) hp1
  have hpl := hlt hp1
  rcases at_plc q id with ⟨e1, hf⟩ | ⟨k, e1, hk, hf⟩
  · obtain rfl := hpx.symm.trans e1
    have hR := hX.symm.trans (show hnR ⟨t, r, W, q⟩ id x = (noH, 5) by unfold hnR; rw [hf])
    subst hR
    have d0 := hcell (j := 0) hq1
    have d1 := hcell (j := 1) hq1
    have d2 := hcell (j := 2) hq1
    have d3 := hcell (j := 3) hq1
    have fz := fun k => hfz (j := k) hq1
    have hsl2 := hlt hq1
    clear hpx hpy hX e1 hf s0 s1 s2 s3 HB1 HFi HFt HWi HTx HAt HW1 q1 hp1 hq1 HCl
    go_wp2
    exact bodyPost_ret (v := .tuple #[.agg #[.int .i64 0, .int .i64 0, .slice none 0 0, .int .i64 0], .int .i64 5]) (by simp only [results, Tryz.results19]; simp [go_sem, *]) rfl ⟨_, rfl, fill_nw HN.out (Nat.le_succ _) _ _ _ _, Rd.nil _, Nat.le_refl _, Fresh.nil _ _⟩
  · obtain rfl := hpx.symm.trans e1
    have dk : ((k : Int) == -1) = false := by simp
    have hpl2 := hn_plc (x := x) HOk.out hk hf
    rw [hpy] at hpl2
    have hX1 : (q.any fun o => !(o.id == id) && o.txn == x) = true → X = (noH, 4) := fun s => hX.symm.trans (by unfold hnR; rw [hf]; exact if_pos s)
    have hX2 : ¬ (q.any fun o => !(o.id == id) && o.txn == x) = true → 0 < q[k].sn → X = (noH, 7) := fun s m => hX.symm.trans (by unfold hnR; rw [hf]; simp only [if_neg s]; exact if_pos m)
    have hX3 : ¬ (q.any fun o => !(o.id == id) && o.txn == x) = true → ¬ 0 < q[k].sn → X = (⟨t, r, W, q.set k ⟨q[k].id, x, q[k].md, q[k].wt, q[k].sn⟩⟩, 0) := fun s m => hX.symm.trans (by unfold hnR; rw [hf]; simp only [if_neg s]; rw [if_neg m, hn_at HOk.out hk hf])
    rw [hpl2] at hX1 hX2 hX3
    obtain ⟨bx, hbx⟩ : ∃ bx, (py != -1) = bx := ⟨_, rfl⟩
    obtain ⟨by2, hby2⟩ : ∃ by2, (py != (k : Int)) = by2 := ⟨_, rfl⟩
    rw [hbx, hby2] at hX1 hX2 hX3
    by_cases hy : (bx && by2) = true
    · have hR := hX1 hy
      subst hR
      rw [Bool.and_eq_true] at hy
      obtain ⟨rfl, rfl⟩ := hy
      have d0 := hcell (j := 0) hq1
      have d1 := hcell (j := 1) hq1
      have d2 := hcell (j := 2) hq1
      have d3 := hcell (j := 3) hq1
      have fz := fun k => hfz (j := k) hq1
      have hsl2 := hlt hq1
      clear hpx hpy hX e1 hf s0 s1 s2 s3 HB1 HFi HFt HWi HTx HAt HW1 q1 hp1 hq1 HCl hX1 hX2 hX3 hpl2
      go_wp2
      exact bodyPost_ret (v := .tuple #[.agg #[.int .i64 0, .int .i64 0, .slice none 0 0, .int .i64 0], .int .i64 4]) (by simp only [results, Tryz.results19]; simp [go_sem, *]) rfl ⟨_, rfl, fill_nw HN.out (Nat.le_succ _) _ _ _ _, Rd.nil _, Nat.le_refl _, Fresh.nil _ _⟩
    rcases HAt.out with ⟨a', c', e3, ⟨e4, _⟩ | ⟨b, o, e4, hc⟩⟩
    · subst e4; simp at hk
    simp only [Value.slice.injEq, true_and] at e3
    obtain ⟨rfl, rfl⟩ := e3
    subst e4
    have hki : (k : Int) < (q.length : Int) := by omega
    have hce := (hc.nw HN.out).cell k hk
    have HCe := Lib.hid (fun (z : World) (g : Nw w z) => (hc.nw g).cell k hk)
    have HWa := Lib.hid (fun z => dWaits q[k] z)
    have HHo := Lib.hid (fun z => dHolds q[k] z)
    have HRow := Lib.hid (fun (z : World) (g0 g cap : Nat) (j : Nat) (hj : j < 5) (u : Value) (new : Rq) (e : (rqrow q[k]).set j u = rqrow new) (h : RqOwn z g0 (.slice (some ⟨g, 0, none⟩) q.length cap) q) => own_upd h rfl k hk j hj u new e)
    have HRow2 := Lib.hid (fun (z : World) (g0 g cap : Nat) (X : Rq) (j : Nat) (hj : j < 5) (u : Value) (new : Rq) (e : (rqrow X).set j u = rqrow new) (h : RqOwn z g0 (.slice (some ⟨g, 0, none⟩) q.length cap) (q.set k X)) => own_upd h (by rw [List.length_set]) k (by rw [List.length_set]; exact hk) j hj u new (by rw [List.getElem_set_self]; exact e))
    simp only [List.set_set] at HRow2
    have HCo := Lib.hid (fun (z : World) (g0 g cap : Nat) (h : RqOwn z g0 (.slice (some ⟨g, 0, none⟩) q.length cap) q) => own_cell h rfl k hk)
    generalize q[k] = R at *
    obtain ⟨b0, b1, b2, b3, b4⟩ := R
    unfold rqV at HWa HHo
    have m0 := hce 0 _ rfl
    have m1 := hce 1 _ rfl
    have m2 := hce 2 _ rfl
    have m3 := hce 3 _ rfl
    have m4 := hce 4 _ rfl
    simp only [Nat.add_zero] at m0
    clear hce
    have HX2 := Lib.hid (hX2 hy)
    have HX3 := Lib.hid (hX3 hy)
    have HY := Lib.hid hy
    have HP := Lib.hid (And.intro hp1 hq1)
    clear hX1 hX2 hX3 hpl2 hpx hpy hX e1 hf s0 s1 s2 s3 HB1 HFi HFt HWi HTx HW1 q1 hc HOk HHo hy
    cases bx <;> cases by2 <;> first
     | (exfalso; exact absurd rfl HY.out)
     | skip
    all_goals
      clear HY
      go_wp2_with fail
      go_at_call 51
      refine (HWa.out _).mono ?_
      rintro e w2 ⟨rfl, g2⟩
      have hp2 := g2.at' HP.out.1
      have hq2 := g2.at' HP.out.2
      have HN2 := Lib.hid (HN.out.trans g2)
      clear c0 c1 c2 c3 hpl hp1 hq1
      have c0 := hcell (j := 0) hp2
      have c1 := hcell (j := 1) hp2
      have c2 := hcell (j := 2) hp2
      have c3 := hcell (j := 3) hp2
      have hpl := hlt hp2
      clear m0 m1 m2 m3 m4 g2 HWa HP
      by_cases hs : 0 < b4
      · have ds : decide (0 < b4) = true := by simpa using hs
        have hR := HX2.out hs
        subst hR
        have d0 := hcell (j := 0) hq2
        have d1 := hcell (j := 1) hq2
        have d2 := hcell (j := 2) hq2
        have d3 := hcell (j := 3) hq2
        have fz := fun k => hfz (j := k) hq2
        have hsl2 := hlt hq2
        clear hs HX2 HX3 HCe HRow HRow2 HCo HCl HAt HN hp2 hq2
        go_wp2
        exact bodyPost_ret (v := .tuple #[.agg #[.int .i64 0, .int .i64 0, .slice none 0 0, .int .i64 0], .int .i64 7]) (by simp only [results, Tryz.results19]; simp [go_sem, *]) rfl ⟨_, rfl, fill_nw HN2.out (Nat.le_succ _) _ _ _ _, Rd.nil _, Nat.le_refl _, Fresh.nil _ _⟩
      have ds : decide (0 < b4) = false := by simpa using hs
      have hR := HX3.out (by first | exact hs | exact Int.not_lt.1 hs)
      subst hR
      have HQ := Lib.hid (And.intro hp2 hq2)
      have HCl2 := Lib.hid (HCl.out _ HN2.out)
      clear hs HX2 HX3 HCe HCl HAt hp2 hq2
      go_wp2_with fail
      go_at_call 58
      refine HCl2.out.mono ?_
      rintro e w4 ⟨v4, rfl, g4, hO⟩
      obtain ⟨g, cap, rfl, hg0, hgl, _⟩ := RqOwn.at hO hk
      have hne : ¬ g = w.heap.size := by have := hlt HQ.out.1; omega
      have hne' : ¬ w.heap.size = g := fun e => hne e.symm
      have hn2 : ¬ g = w.heap.size + 1 := by have := hlt HQ.out.2; omega
      have hn2' : ¬ w.heap.size + 1 = g := fun e => hn2 e.symm
      have hp4 := g4.at' HQ.out.1
      have hq4 := g4.at' HQ.out.2
      have HB := Lib.hid (And.intro (hlt HQ.out.1) (hlt HQ.out.2))
      have hO1 := own_st hO (p := ⟨w.heap.size, 2, none⟩) (by exact HB.out.1) (.slice (some ⟨g, 0, none⟩) q.length cap)
      have hO2 := HRow.out _ _ _ _ 1 (by decide) (.int .i64 x) ⟨b0, x, b2, b3, b4⟩ rfl hO1
      have hO4 := fill_own hO2 (rb := w.heap.size + 1) HB.out.2 (.int .i64 t) (.int .i64 r) (.slice (some ⟨g, 0, none⟩) q.length cap) (.int .i64 W)
      have HO4 := Lib.hid hO4
      have HN4 := Lib.hid (HN2.out.trans g4)
      have HG := Lib.hid (And.intro hg0 HN2.out.sz)
      have hoc := HCo.out _ _ _ _ hO
      have c0 := hcell (j := 0) hp4
      have c1 := hcell (j := 1) hp4
      have c2 := hcell (j := 2) hp4
      have c3 := hcell (j := 3) hp4
      have hpl := hlt hp4
      have fp := fun k => hfz (j := k) hp4
      have fg := fun k => own_frz hO rfl k
      have m1 := hoc 1 _ rfl
      have d0 := hcell (j := 0) hq4
      have d1 := hcell (j := 1) hq4
      have d2 := hcell (j := 2) hq4
      have d3 := hcell (j := 3) hq4
      have fz := fun k => hfz (j := k) hq4
      have hsl2 := hlt hq4
      clear hq4 hp4 hO hO1 hO2 hO4 hoc g4 HCl2 HN HRow HRow2 HCo hg0
      go_wp2
      exact bodyPost_ret (v := .tuple #[.agg #[.int .i64 t, .int .i64 r, .slice (some ⟨g, 0, none⟩) q.length cap, .int .i64 W], .int .i64 0]) (by simp only [results, Tryz.results19]; simp [go_sem, *]) rfl ⟨_, rfl, fill_nw ((HN4.out.st (Nat.le_refl _) _).st (by show w.heap.size ≤ g; have := HG.out; omega) _) (Nat.le_succ _) _ _ _ _, RqOwn.rd HO4.out, HO4.out.cap, HO4.out.fresh HG.out.2⟩
end Go.Proofs.YtmciiobncfchlaaGreat
end

/- The document's own: Group (of modes, and of a head's requests). -/
section
namespace Go.Proofs.YtmciiobncfchlaaGreat
open Go.RowKit
set_option linter.unusedVariables false      -- a contract need not use every name

def mdrow (x : Int) : List Value := [.int .i64 x]
theorem elemMd : Elem Tryz.prog 76 27 1 8 mdrow where
  und := Tryz.underlying76
  inf := by
    have h : (Tryz.prog.info? 27).map (fun i => (i.zero, i.size, i.bytes)) = some (some (.int .i64 0), 1, 8) := by kernel_rfl
    cases e : Tryz.prog.info? 27 with
    | none => rw [e] at h; cases h
    | some i =>
      rw [e] at h
      simp only [Option.map_some, Option.some.injEq, Prod.mk.injEq] at h
      exact ⟨i, _, rfl, h.1, h.2.1, h.2.2, rfl⟩
  pos := by decide
  byt := by decide
  len := fun _ => rfl
  one := fun a u hu => by
    simp only [mdrow, List.mem_cons, List.not_mem_nil, or_false] at hu
    subst hu; rfl
set_option maxRecDepth 100000 in
set_option maxHeartbeats 4000000 in
theorem r1group (v : Value) (l : List Int) (w : World) (hl : l.length ≤ 1000) (hkn : ∀ z ∈ l, knI z = true) (h : Rd 1 mdrow w v l) :
    Calls Tryz.prog 60 #[v] w fun e w' => e = .returned (.int .i64 (l.foldl supT 0)) ∧ Nw w w' := by
  have HK := Lib.hid (fun k => (fold_cov 0 rfl (l.take k) 0 rfl (fun z hz => hkn z (List.mem_of_mem_take hz))).1)
  have HKn := Lib.hid hkn
  clear hkn
  obtain ⟨a, c, rfl, ⟨rfl, _⟩ | ⟨b, o, rfl, hc⟩⟩ := h
  · go_enter Tryz.func60, Tryz.ntmps60
    go_wp2
    refine wp_loop_rounds 1 ?_
    repeat (rw [rounds_succ]; go_wp2)
    go_ret
    exact ⟨rfl, Nw.refl _⟩
  · have HC := Lib.hid hc
    clear hc
    go_enter Tryz.func60, Tryz.ntmps60
    go_wp2
    go_loopw [3, 4] (fun m i wr => ∃ k : Nat, k ≤ l.length ∧ i = .int .i64 k ∧ m = .int .i64 ((l.take k).foldl supT 0) ∧ Nw w wr) (fun _ i _ => l.length - (intOf i).toNat)
    case atStart => exact ⟨0, Nat.zero_le _, rfl, rfl, Nw.refl _⟩
    case round =>
      obtain ⟨k, hk, rfl, rfl, hG⟩ := hrel
      by_cases hlt : k < l.length
      · have hce := (HC.out.nw hG).cell k hlt 0 _ rfl
        simp only [Nat.add_zero, Nat.mul_one] at hce
        have HX := Lib.hid (HK.out k)
        have HY := Lib.hid (HKn.out l[k] (List.getElem_mem hlt))
        have HZ := Lib.hid (show (l.take (k + 1)).foldl supT 0 = supT ((l.take k).foldl supT 0) l[k] by rw [List.take_add_one, List.getElem?_eq_getElem hlt, List.foldl_append]; rfl)
        have HG := Lib.hid hG
        clear hG
        generalize l[k] = x at *
        generalize (l.take k).foldl supT 0 = y at *
        go_wp2_with fail
        refine (r1sup_in y x HX.out HY.out _).mono ?_
        rintro e w2 ⟨rfl, g2⟩
        have HG2 := Lib.hid (HG.out.trans g2)
        clear hce g2 HG HX HY
        go_wp2
        go_roundw
        case rel => exact ⟨k + 1, by omega, by go_num, by rw [HZ.out], HG2.out⟩
        case measure => simp [intOf]; omega
      · obtain rfl : k = l.length := by omega
        have HG := Lib.hid hG
        clear hG
        go_wp2
        go_ret
        exact ⟨by rw [List.take_length]; rfl, HG.out⟩
set_option maxRecDepth 100000 in
set_option maxHeartbeats 4000000 in
theorem r9group (t r W : Int) (v : Value) (q : List Rq) (w : World) (hl : q.length ≤ 1000) (hok : Ok W q) (h : RqAt w v q) :
    Calls Tryz.prog 26 #[hdV t r v W] w fun e w' => e = .returned (.int .i64 (grpQ q)) ∧ Nw w w' := by
  have HGr := Lib.hid (fun (v2 : Value) (w1 : World) (h : Rd 1 mdrow w1 v2 (q.map fun x => x.md)) => r1group v2 (q.map fun x => x.md) w1 (by simpa using hl) (grp_all hok) h)
  clear hok
  unfold hdV
  obtain ⟨a, c, rfl, ⟨rfl, _⟩ | ⟨b, o, rfl, hc⟩⟩ := h
  · go_enter Tryz.func26, Tryz.ntmps26
    go_wp2
    refine wp_loop_rounds 1 ?_
    repeat (rw [rounds_succ]; go_wp2_with fail)
    refine (HGr.out (.slice none 0 0) _ (Rd.nil _)).mono ?_
    rintro e w1 ⟨rfl, g⟩
    go_wp2
    go_ret
    exact ⟨rfl, ((Nw.refl _).alloc _).trans g⟩
  · have HC := Lib.hid hc
    clear hc
    go_enter Tryz.func26, Tryz.ntmps26
    go_wp2
    have hB := HBox.made w t r (.slice (some ⟨b, o, none⟩) q.length c) W 26
    have hN : Nw w (w.alloc (.cells #[.int .i64 t, .int .i64 r, .slice (some ⟨b, o, none⟩) q.length c, .int .i64 W] 26)) := (Nw.refl w).alloc _
    obtain ⟨p, hp⟩ : ∃ p, w.heap.size = p := ⟨_, rfl⟩
    rw [hp] at hB
    rw [hp]
    clear hp
    generalize w.alloc (.cells #[.int .i64 t, .int .i64 r, .slice (some ⟨b, o, none⟩) q.length c, .int .i64 W] 26) = z at *
    have HZ := Lib.hid (And.intro hB hN)
    have HR := Lib.hid (HC.out.nw hN)
    clear hB hN HC
    go_loopw [3, 4] (fun m i wr => ∃ k : Nat, k ≤ q.length ∧ i = .int .i64 k ∧ Own 27 1 mdrow wr z.heap.size m ((q.map fun x => x.md).take k) ∧ Nw z wr) (fun _ i _ => q.length - (intOf i).toNat)
    case atStart => exact ⟨0, Nat.zero_le _, rfl, World.ownsRow_nil _ _ _ _, Nw.refl _⟩
    case round =>
      obtain ⟨k, hk, rfl, hO, hG⟩ := hrel
      have hb := HZ.out.1.nw hG
      have h0 := hb.c0
      have h1 := hb.c1
      have h2 := hb.c2
      have h3 := hb.c3
      have hpl := hb.lt
      clear hb
      by_cases hlt : k < q.length
      · have hce := (HR.out.nw hG).cell k hlt 2 _ rfl
        have HX := Lib.hid (show (q.map fun x => x.md).take (k + 1) = (q.map fun x => x.md).take k ++ [q[k].md] by rw [List.take_add_one, List.getElem?_map, List.getElem?_eq_getElem hlt]; rfl)
        generalize q[k].md = x at *
        have hNa : Nw wr (wr.alloc (.cells #[.int .i64 x] 27)) := (Nw.refl wr).alloc _
        have hal := allocAt wr (.cells #[.int .i64 x] 27)
        obtain ⟨v3, y3, hrun, hO3, hG3, hb3, g3, cap3, hv3⟩ := Own.push elemMd (onw hO hNa) x wr.heap.size 1 (fun j u hu => by
          rw [hcell hal]
          simpa [mdrow] using hu) (by rw [List.length_take]; omega) (Nat.le_trans hG.sz hNa.sz)
        rw [← HX.out] at hO3
        have hN3 : Nw z y3 := (hG.trans hNa).gro hG3 (fun k hk => oge hO hk)
        have hlen : ((q.map fun x => x.md).take k).length = k := by simp; omega
        subst hv3
        rw [hlen] at hO3 hrun
        have HO3 := Lib.hid hO3
        have HN3 := Lib.hid hN3
        have HR2 := Lib.hid hrun
        clear hrun hO3 hN3 hG3 hb3 hal hNa hO hG
        go_wp2_with (at_builtin; (refine wpl_app (by rfl) (.tmp 12) (.tmp 19) 76 rfl _ _ _ _ rfl rfl HR2.out ?_))
        go_roundw
        case rel => exact ⟨k + 1, by omega, by go_num, HO3.out, HN3.out⟩
        case measure => simp [intOf]; omega
      · obtain rfl : k = q.length := by omega
        rw [List.take_of_length_le (by simp)] at hO
        have HO := Lib.hid (Own.rd (sz := 1) (row := mdrow) (fun _ => rfl) hO)
        have HG := Lib.hid hG
        clear hO hG
        go_wp2_with fail
        refine (HGr.out _ _ HO.out).mono ?_
        rintro e w1 ⟨rfl, g⟩
        have HG2 := Lib.hid (HZ.out.2.trans (HG.out.trans g))
        clear h0 h1 h2 h3 hpl g HG HO HZ
        go_wp2
        go_ret
        exact ⟨rfl, HG2.out⟩
end Go.Proofs.YtmciiobncfchlaaGreat
end

/- The developers' package queue: Upgrade. -/
section
namespace Go.Proofs.YtmciiobncfchlaaGreat
open Go.RowKit
set_option linter.unusedVariables false      -- a contract need not use every name

theorem dSup (a b : Int) (w : World) (ha : knI a = true) (hb : knI b = true) : Calls Tryz.prog 52 #[.int .i64 a, .int .i64 b] w fun e w' => e = .returned (.int .i64 (supT a b)) ∧ Nw w w' := by
  have h1 : 0 ≤ a ∧ a < 7 := by simpa [knI] using ha
  have h2 : 0 ≤ b ∧ b < 7 := by simpa [knI] using hb
  exact sup_in a b w h1.1 h1.2 h2.1 h2.2
set_option maxRecDepth 100000 in
set_option maxHeartbeats 8000000 in
theorem dUpgrade (t r W id m : Int) (v : Value) (q : List Rq) (w : World) (hl : q.length ≤ 900) (hok : Ok W q) (h : RqAt w v q) :
    Calls Tryz.prog 13 #[hdV t r v W, .int .i64 id, .int .i64 m] w (HD2 (upR ⟨t, r, W, q⟩ id m) w) := by
  obtain ⟨X, hX⟩ : ∃ X, upR ⟨t, r, W, q⟩ id m = X := ⟨_, rfl⟩
  rw [hX]
  have HLo := Lib.hid (fun w => dLockable m w)
  have HOk := Lib.hid hok
  have HAt := Lib.hid h
  have hFi := fun (w1 : World) (g : Nw w w1) (f : Value) (hf : Tells w1 f (fun R => R.id == id)) => dFind t r W v f _ q w1 (by omega) (h.nw g) hf
  have HLi := Lib.hid (fun (w1 : World) (g : Nw w w1) => dLineOf t r W v q w1 (by omega) (fun R hR => (hok.rt R hR).md) (h.nw g))
  obtain ⟨a, c, rfl, _⟩ := h
  unfold HD2 hdV at *
  have HX := Lib.hid (two_boxes w (.cells #[.int .i64 t, .int .i64 r, .slice a q.length c, .int .i64 W] 26) (.cells #[.int .i64 0, .int .i64 0, .slice none 0 0, .int .i64 0] 26))
  obtain ⟨y, hy⟩ : ∃ y, ((m != 0) && knI m) = y := ⟨_, rfl⟩
  rw [hy] at HLo
  obtain ⟨px, hpx⟩ : ∃ px, plc (fun R => R.id == id) q = px := ⟨_, rfl⟩
  rw [hpx] at hFi
  have HFi := Lib.hid hFi
  have HWi := Lib.hid (dWithID id)
  clear hFi hok
  cases y
  · have hR := hX.symm.trans (up_bad (h := ⟨t, r, W, q⟩) (by cases e : knI m with | false => exact .inr rfl | true => rw [e, Bool.and_true] at hy; exact .inl (by simpa using hy)))
    subst hR
    clear hy hpx HFi HWi HLi HOk HAt hX
    go_enter Tryz.func13, Tryz.ntmps13
    go_wp2_with fail
    go_at_call 38
    refine (HLo.out _).mono ?_
    rintro e w1 ⟨rfl, g1⟩
    have hq1 := g1.at' HX.out.2.1
    have HQ := Lib.hid (HX.out.2.2.1.trans g1)
    have d0 := hcell (j := 0) hq1
    have d1 := hcell (j := 1) hq1
    have d2 := hcell (j := 2) hq1
    have d3 := hcell (j := 3) hq1
    have fz := fun k => hfz (j := k) hq1
    have hsl2 := hlt hq1
    clear g1 hq1 HX HLo
    go_wp2
    exact bodyPost_ret (v := .tuple #[.agg #[.int .i64 0, .int .i64 0, .slice none 0 0, .int .i64 0], .bool false, .int .i64 2]) (by simp only [results, Tryz.results13]; simp [go_sem, *]) rfl ⟨_, rfl, fill_nw HQ.out (Nat.le_succ _) _ _ _ _, Rd.nil _, Nat.le_refl _, Fresh.nil _ _⟩
  have hgood : ¬ (m = 0 ∨ knI m = false) := by
    rw [Bool.and_eq_true, bne_iff_ne] at hy
    rintro (e | e)
    · exact hy.1 e
    · rw [hy.2] at e; cases e
  have hkm : knI m = true := by
    rw [Bool.and_eq_true] at hy
    exact hy.2
  have HGd := Lib.hid (And.intro hgood hkm)
  clear hy hgood hkm
  go_enter Tryz.func13, Tryz.ntmps13
  go_wp2_with fail
  go_at_call 38
  refine (HLo.out _).mono ?_
  rintro e w1 ⟨rfl, g1⟩
  have hx1 := g1.at' HX.out.1
  have HB1 := Lib.hid (And.intro (And.intro (g1.at' HX.out.1) (g1.at' HX.out.2.1)) (HX.out.2.2.1.trans g1))
  have s0 : ∀ z, Nw w1 z → z.cell? ⟨w.heap.size, 0, none⟩ = some (.int .i64 t) := fun z hz => hz.kp (hcell (j := 0) hx1)
  have s1 : ∀ z, Nw w1 z → z.cell? ⟨w.heap.size, 1, none⟩ = some (.int .i64 r) := fun z hz => hz.kp (hcell (j := 1) hx1)
  have s2 : ∀ z, Nw w1 z → z.cell? ⟨w.heap.size, 2, none⟩ = some (.slice a q.length c) := fun z hz => hz.kp (hcell (j := 2) hx1)
  have s3 : ∀ z, Nw w1 z → z.cell? ⟨w.heap.size, 3, none⟩ = some (.int .i64 W) := fun z hz => hz.kp (hcell (j := 3) hx1)
  clear hx1 g1 HX HLo
  go_wp2
  have q1 := (Nw.refl w1).drew1
  obtain ⟨wc, hwc⟩ : ∃ wc, w1.drew = wc := ⟨_, rfl⟩
  refine region_told [some true, some true, some false, none, some false, none, some true] (Nw w1) (by kernel_rfl) (by kernel_rfl) (by kernel_rfl) q1 ?_
  rw [hwc] at q1 ⊢
  clear hwc
  repeat (first
    | (refine HW.off ?_)
    | (refine HW.take' ?_; (first | (refine ⟨undef, Or.inr ⟨by rfl, rfl⟩, ?_⟩) | (apply Exists.intro; refine ⟨Or.inl ⟨by rfl, ?_⟩, ?_⟩; (intro x hx; go_simp; first | done | with_reducible rfl))); (try simp only [Act.put, List.setIfInBounds_toArray, List.set_cons_zero, List.set_cons_succ]))
    | (refine HW.go (fun K hK => ?_); go_simp; (first
      | (go_at_call 40; (with_reducible refine (HWi.out _).mono ?_); rintro e wy ⟨pa, rfl, g2, hbx⟩; refine hK.out _ _ (q1.trans g2) ?_; intro _; replace q1 := q1.trans g2; clear hK K g2; replace hbx := Tells.withID hbx)
      | (go_at_call 39; (with_reducible refine (HFi.out _ (HB1.out.2.trans q1) _ hbx).mono ?_); rintro e wy ⟨rfl, g2⟩; refine hK.out _ _ (q1.trans g2) ?_; intro _; replace q1 := q1.trans g2; clear hK K g2 hbx)
      | (refine hK.out _ _ q1 ?_; intro _; clear hK K))))
  refine HW.end_ ?_
  refine NoPanic.normal ?_
  have HN := Lib.hid (HB1.out.2.trans q1)
  have hp1 := q1.at' HB1.out.1.1
  have hq1 := q1.at' HB1.out.1.2
  have c0 := hcell (j := 0) hp1
  have c1 := hcell (j := 1) hp1
  have c2 := hcell (j := 2) hp1
  have c3 := hcell (j := 3) hp1
  have hpl := hlt hp1
  rcases at_plc q id with ⟨e1, hf⟩ | ⟨k, e1, hk, hf⟩
  · obtain rfl := hpx.symm.trans e1
    have hR := hX.symm.trans (up_none (h := ⟨t, r, W, q⟩) HGd.out.1 hf)
    subst hR
    have d0 := hcell (j := 0) hq1
    have d1 := hcell (j := 1) hq1
    have d2 := hcell (j := 2) hq1
    have d3 := hcell (j := 3) hq1
    have fz := fun k => hfz (j := k) hq1
    have hsl2 := hlt hq1
    clear hpx hX e1 hf s0 s1 s2 s3 HB1 HFi HWi HAt q1 hp1 hq1 HLi HOk
    go_wp2
    exact bodyPost_ret (v := .tuple #[.agg #[.int .i64 0, .int .i64 0, .slice none 0 0, .int .i64 0], .bool false, .int .i64 5]) (by simp only [results, Tryz.results13]; simp [go_sem, *]) rfl ⟨_, rfl, fill_nw HN.out (Nat.le_succ _) _ _ _ _, Rd.nil _, Nat.le_refl _, Fresh.nil _ _⟩
  · obtain rfl := hpx.symm.trans e1
    have dk : ((k : Int) == -1) = false := by simp
    have hX1 : 0 < q[k].sn → X = (noH, false, 7) := fun s => hX.symm.trans (up_wait (h := ⟨t, r, W, q⟩) HGd.out.1 hf s)
    have hX2 : ¬ 0 < q[k].sn → X = (⟨t, r, (upQ W q q[k] m).1, (upQ W q q[k] m).2.1⟩, (upQ W q q[k] m).2.2, 0) := fun s => hX.symm.trans (up_go (h := ⟨t, r, W, q⟩) HGd.out.1 hf s)
    have HRt := Lib.hid (HOk.out.rt _ (List.getElem_mem hk))
    have HUp := Lib.hid (fun (hs : q[k].sn = 0) (want : Int) (hw : knI want = true) => up_en HOk.out k hk hs want hw)
    have HCh := Lib.hid (fun (f : Rq → Rq) => chg_set HOk.out f k hk)
    have HSl := Lib.hid (fun x e => set_self hk x e)
    have HCq := Lib.hid (fun (R : Rq) (hm : R.md = q[k].md) => cntQ_same q k hk R hm)
    have HAw := Lib.hid (fun (z : World) (g0 : Nat) (v : Value) (h : RqOwn z g0 v q) => RqOwn.at h hk)
    rcases HAt.out with ⟨a', c', e3, ⟨e4, _⟩ | ⟨b, o, e4, hc⟩⟩
    · subst e4; simp at hk
    simp only [Value.slice.injEq, true_and] at e3
    obtain ⟨rfl, rfl⟩ := e3
    subst e4
    have hki : (k : Int) < (q.length : Int) := by omega
    have hce := (hc.nw HN.out).cell k hk
    have HCe := Lib.hid (fun (z : World) (g : Nw w z) => (hc.nw g).cell k hk)
    have HWa := Lib.hid (fun z => dWaits q[k] z)
    have HHo := Lib.hid (fun z => dHolds q[k] z)
    have HRow := Lib.hid (fun (z : World) (g0 g cap : Nat) (j : Nat) (hj : j < 5) (u : Value) (new : Rq) (e : (rqrow q[k]).set j u = rqrow new) (h : RqOwn z g0 (.slice (some ⟨g, 0, none⟩) q.length cap) q) => own_upd h rfl k hk j hj u new e)
    have HRow2 := Lib.hid (fun (z : World) (g0 g cap : Nat) (X : Rq) (j : Nat) (hj : j < 5) (u : Value) (new : Rq) (e : (rqrow X).set j u = rqrow new) (h : RqOwn z g0 (.slice (some ⟨g, 0, none⟩) q.length cap) (q.set k X)) => own_upd h (by rw [List.length_set]) k (by rw [List.length_set]; exact hk) j hj u new (by rw [List.getElem_set_self]; exact e))
    simp only [List.set_set] at HRow2
    have HCo := Lib.hid (fun (z : World) (g0 g cap : Nat) (h : RqOwn z g0 (.slice (some ⟨g, 0, none⟩) q.length cap) q) => own_cell h rfl k hk)
    clear hpx hX e1 hf s0 s1 s2 s3 HB1 HFi HWi q1 hc
    generalize q[k] = R at *
    obtain ⟨b0, b1, b2, b3, b4⟩ := R
    unfold rqV at HWa HHo
    have m0 := hce 0 _ rfl
    have m1 := hce 1 _ rfl
    have m2 := hce 2 _ rfl
    have m3 := hce 3 _ rfl
    have m4 := hce 4 _ rfl
    simp only [Nat.add_zero] at m0
    clear hce HHo
    have HX1 := Lib.hid hX1
    have HX2 := Lib.hid hX2
    clear hX1 hX2
    go_wp2_with fail
    go_at_call 51
    refine (HWa.out _).mono ?_
    rintro e w2 ⟨rfl, g2⟩
    have hp2 := g2.at' hp1
    have hq2 := g2.at' hq1
    have HN2 := Lib.hid (HN.out.trans g2)
    clear c0 c1 c2 c3 hpl
    have c0 := hcell (j := 0) hp2
    have c1 := hcell (j := 1) hp2
    have c2 := hcell (j := 2) hp2
    have c3 := hcell (j := 3) hp2
    have hpl := hlt hp2
    clear m0 m1 m2 m3 m4 g2 HWa hp1 hq1
    by_cases hs : 0 < b4
    · have ds : decide (0 < b4) = true := by simpa using hs
      have hR := HX1.out hs
      subst hR
      have d0 := hcell (j := 0) hq2
      have d1 := hcell (j := 1) hq2
      have d2 := hcell (j := 2) hq2
      have d3 := hcell (j := 3) hq2
      have fz := fun k => hfz (j := k) hq2
      have hsl2 := hlt hq2
      clear hs HX1 HX2 HCe HRow HRow2 HCo HAt HN hp2 hq2 HLi HOk HUp HCh HSl HCq HAw HRt
      go_wp2
      exact bodyPost_ret (v := .tuple #[.agg #[.int .i64 0, .int .i64 0, .slice none 0 0, .int .i64 0], .bool false, .int .i64 7]) (by simp only [results, Tryz.results13]; simp [go_sem, *]) rfl ⟨_, rfl, fill_nw HN2.out (Nat.le_succ _) _ _ _ _, Rd.nil _, Nat.le_refl _, Fresh.nil _ _⟩
    have ds : decide (0 < b4) = false := by simpa using hs
    have hb4 : b4 = 0 := by have := HRt.out.s0; simp only at this; omega
    have hR := HX2.out (by first | exact hs | exact Int.not_lt.1 hs)
    have hwt := (HRt.out.h hb4).2
    have hmk := HRt.out.md
    simp only at hwt hmk
    subst hb4
    have hup := HUp.out rfl
    obtain ⟨wn, hwn⟩ : ∃ wn, supT b2 m = wn := ⟨_, rfl⟩
    have hsk := sup_kn b2 m hmk HGd.out.2
    have HSp := Lib.hid (fun w => dSup b2 m w hmk HGd.out.2)
    rw [hwn] at HSp hsk
    replace hup := hup wn hsk
    unfold upQ at hR
    simp only [hwn] at hR
    have HRr := Lib.hid hR
    have HUq := Lib.hid hup
    have HWk := Lib.hid (And.intro hwt (And.intro hsk hmk))
    have HLi2 := Lib.hid (HLi.out _ HN2.out)
    have HQ2 := Lib.hid (And.intro hp2 hq2)
    clear hs HX1 HX2 hR hwt hmk hup hwn hsk HUp hp2 hq2 HLi HAt HRt HN HGd HCe
    go_wp2_with fail
    go_at_call 42
    refine HLi2.out.mono ?_
    rintro e w3 ⟨p, v1, b', n, rfl, g3, hL3, hnq⟩
    obtain ⟨g, cap, rfl, hg0, hgl, hce⟩ := HAw.out _ _ _ hL3.own
    have HL3 := Lib.hid (And.intro hL3 (And.intro g3 (And.intro hg0 hnq)))
    have p2 := hcell (j := 2) hL3.obj
    have hpl3 := hlt hL3.obj
    have m2 := hce 2 _ rfl
    clear c0 c1 c2 c3 hpl hce hL3 g3 hg0 hnq HLi2
    go_wp2_with fail
    go_at_call 52
    refine (HSp.out _).mono ?_
    rintro e w4 ⟨rfl, g4⟩
    have hL4 := HL3.out.1.nw g4
    have hup4 := HRow.out _ _ _ _ 3 (by decide) (.int .i64 wn) ⟨b0, b1, b2, wn, 0⟩ rfl hL4.own
    have hL5 := (hL4.row (a := ⟨g, k * 5 + 3, none⟩) rfl (.int .i64 wn) hup4).eq (HCq.out ⟨b0, b1, b2, wn, 0⟩ rfl).symm
    have hg5 : Nw w2 (w4.setCell ⟨g, k * 5 + 3, none⟩ (.int .i64 wn)) := (HL3.out.2.1.trans g4).st HL3.out.2.2.1 _
    have mf := own_frz hL4.own rfl (k * 5 + 3)
    have hgl4 := olt hL4.own rfl
    have hc4 := HCo.out _ _ _ _ hL4.own
    have m3' := hc4 3 _ rfl
    obtain ⟨w5, hw5⟩ : ∃ w5, w4.setCell ⟨g, k * 5 + 3, none⟩ (.int .i64 wn) = w5 := ⟨_, rfl⟩
    rw [hw5] at hL5 hg5
    have HW5 := Lib.hid hw5
    obtain ⟨q', hq'⟩ : ∃ q', q.set k ⟨b0, b1, b2, wn, 0⟩ = q' := ⟨_, rfl⟩
    have hk' : k < q'.length := by rw [← hq', List.length_set]; exact hk
    have hqk : q'[k] = ⟨b0, b1, b2, wn, 0⟩ := by subst hq'; simp
    have hcl : q.length = q'.length := by rw [← hq', List.length_set]
    have hss : ∀ x : Rq, q'.set k x = q.set k x := fun x => by rw [← hq', List.set_set]
    have hkn' : ∀ R ∈ q', knI R.md = true := fun R hR => by
      rw [← hq'] at hR
      rcases List.mem_or_eq_of_mem_set hR with hR | rfl
      · exact (HOk.out.rt R hR).md
      · exact HWk.out.2.2
    have hc5 : ∀ j u, (rqrow ⟨b0, b1, b2, wn, 0⟩)[j]? = some u → w5.cell? ⟨g, k * 5 + j, none⟩ = some u := fun j u hu => own_cell (q := q') (by rw [← hq']; exact hL5.own) hcl k hk' j u (by rw [hqk]; exact hu)
    rw [hq'] at hL5
    have HQk := Lib.hid (And.intro hq' (And.intro hqk (And.intro hcl (And.intro hss hkn'))))
    have HL5 := Lib.hid (And.intro hL5 hg5)
    have hN5 := (Nw.refl w5).drew1
    clear m2 p2 hpl3 hL4 hup4 hL5 hg5 hw5 g4 hqk hcl hss hkn' HRow HRow2 HCo hq' hgl
    go_wp2
    rw [HW5.out]
    clear HW5 m3' mf hgl4 hc4
    by_cases he : wn = b2
    · have de : (wn == b2) = true := by simpa using he
      have s2 : ∀ x, Nw w5 x → x.cell? ⟨g, k * 5 + 2, none⟩ = some (.int .i64 b2) := fun x hx => hx.kp (hc5 2 _ rfl)
      have s3 : ∀ x, Nw w5 x → x.cell? ⟨g, k * 5 + 3, none⟩ = some (.int .i64 wn) := fun x hx => hx.kp (hc5 3 _ rfl)
      obtain ⟨wc, hwc⟩ : ∃ wc, w5.drew = wc := ⟨_, rfl⟩
      have q1 := hN5
      refine region_told [some true, some true, some true, some true, some true, some true, some true, some true, some true, some true, some true, some true, some false, none, some true, some true] (Nw w5) (by kernel_rfl) (by kernel_rfl) (by kernel_rfl) q1 ?_
      rw [hwc] at q1 ⊢
      clear hwc hN5
      repeat (first
        | (refine HW.off ?_)
        | (refine HW.take' ?_; (first | (refine ⟨undef, Or.inr ⟨by rfl, rfl⟩, ?_⟩) | (apply Exists.intro; refine ⟨Or.inl ⟨by rfl, ?_⟩, ?_⟩; (intro x hx; go_simp; first | done | with_reducible rfl))); (try simp only [Act.put, List.setIfInBounds_toArray, List.set_cons_zero, List.set_cons_succ]))
        | (refine HW.go (fun K hK => ?_); go_simp; (refine hK.out _ _ q1 ?_; intro _; clear hK K)))
      refine HW.end_ ?_
      refine NoPanic.normal ?_
      have hR := HRr.out
      rw [if_pos he] at hR
      simp only at hR
      subst hR
      have hL6 := HL5.out.1.nw q1
      have g6 := HL5.out.2.trans q1
      rw [← HQk.out.1, HSl.out ⟨b0, b1, b2, wn, 0⟩ (by rw [HWk.out.1, he])] at hL6
      have HL7 := Lib.hid hL6
      have hpl := hlt hL6.obj
      have e0 := hcell (j := 0) hL6.obj
      have e1 := hcell (j := 1) hL6.obj
      have e2 := hcell (j := 2) hL6.obj
      have e3 := hcell (j := 3) hL6.obj
      have hq7 := g6.at' HQ2.out.2
      have HN7 := Lib.hid (HN2.out.trans g6)
      have HS := Lib.hid (hlt HQ2.out.2)
      have d0 := hcell (j := 0) hq7
      have d1 := hcell (j := 1) hq7
      have d2 := hcell (j := 2) hq7
      have d3 := hcell (j := 3) hq7
      have fz := fun k => hfz (j := k) hq7
      have hsl2 := hlt hq7
      clear s2 s3 hL6 g6 hc5 hq7 q1 HL5 HL3 HQk HRr HUq HSl HCh HCq HAw
      go_wp2
      exact bodyPost_ret (v := .tuple #[.agg #[.int .i64 t, .int .i64 r, .slice (some ⟨g, 0, none⟩) q.length cap, .int .i64 W], .bool true, .int .i64 0]) (by simp only [results, Tryz.results13]; simp [go_sem, *]) rfl ⟨_, rfl, fill_nw HN7.out (Nat.le_succ _) _ _ _ _, (HL7.out.done HS.out _ _ _ _).1, HL7.out.own.cap, HL7.out.own.fresh HN2.out.sz⟩
    · have de : (wn == b2) = false := by simpa using he
      have hE0 := HL5.out.1.nw hN5
      have m2 := hc5 2 _ rfl
      have m3 := hc5 3 _ rfl
      have hgl5 := World.block_lt_of_cell? _ _ m2
      obtain ⟨B, hB⟩ : ∃ B, upF q ⟨b0, b1, b2, b3, 0⟩ wn = B := ⟨_, rfl⟩
      have hEn := dEnterB hE0 k hk' ⟨HOk.out.w0, HOk.out.wB⟩ HQk.out.2.2.2.2 (by have := HL3.out.2.2.2; omega) (by have := HQk.out.2.2.1; omega) ⟨b0, b1, b2, wn, 0⟩ HQk.out.2.1 HWk.out.2.1 B (by
        simp only [enR]
        rw [HQk.out.2.2.2.1, ← HQk.out.1, ← hB, ← HUq.out])
      simp only [enR, HQk.out.2.2.2.1] at hEn
      have HEn := Lib.hid hEn
      have HN5 := Lib.hid hN5
      clear hE0 hEn hN5 hc5
      refine wp_region_still_tail 12 (by kernel_rfl) (by kernel_rfl) ?_
      simp only [List.take_succ_cons, List.take_zero, List.drop_succ_cons, List.drop_zero]
      repeat still_step
      try refine wpStill_nil ?_
      change wpList _ _ _ _ _ w5.drew
      go_wp2_with fail
      go_at_call 43
      refine HEn.out.mono ?_
      rintro e w6 ⟨rfl, g6', n6, _, hL6⟩
      have g6 : Nw w2 w6 := Below.trans (HL5.out.2.trans HN5.out) g6'
      have hR := HRr.out
      rw [if_neg he, hB] at hR
      clear m2 m3 hgl5 HEn HN5 g6' HUq hB
      cases B
      · simp only [Bool.false_eq_true, if_true, if_false] at hL6 hR
        have hch := HCh.out (fun x => ⟨x.id, x.txn, x.md, wn, W + 1⟩)
        simp only at hch
        rw [hch] at hR
        subst hR
        have HL7 := Lib.hid hL6
        have hpl := hlt hL6.obj
        have e0 := hcell (j := 0) hL6.obj
        have e1 := hcell (j := 1) hL6.obj
        have e2 := hcell (j := 2) hL6.obj
        have e3 := hcell (j := 3) hL6.obj
        have hq7 := g6.at' HQ2.out.2
        have HN7 := Lib.hid (HN2.out.trans g6)
        have HS := Lib.hid (hlt HQ2.out.2)
        have d0 := hcell (j := 0) hq7
        have d1 := hcell (j := 1) hq7
        have d2 := hcell (j := 2) hq7
        have d3 := hcell (j := 3) hq7
        have fz := fun k => hfz (j := k) hq7
        have hsl2 := hlt hq7
        clear hL6 g6 hq7 HL5 HL3 HQk HRr HSl HCh HCq HAw hch
        go_wp2
        exact bodyPost_ret (v := .tuple #[.agg #[.int .i64 t, .int .i64 r, .slice (some ⟨g, 0, none⟩) q.length cap, .int .i64 (W + 1)], .bool false, .int .i64 0]) (by simp only [results, Tryz.results13]; simp [go_sem, *]) rfl ⟨_, rfl, fill_nw HN7.out (Nat.le_succ _) _ _ _ _, (HL7.out.done HS.out _ _ _ _).1, HL7.out.own.cap, HL7.out.own.fresh HN2.out.sz⟩
      · simp only [Bool.false_eq_true, if_true, if_false] at hL6 hR
        have hch := HCh.out (fun x => ⟨x.id, x.txn, wn, wn, 0⟩)
        simp only at hch
        rw [hch] at hR
        subst hR
        have HL7 := Lib.hid hL6
        have hpl := hlt hL6.obj
        have e0 := hcell (j := 0) hL6.obj
        have e1 := hcell (j := 1) hL6.obj
        have e2 := hcell (j := 2) hL6.obj
        have e3 := hcell (j := 3) hL6.obj
        have hq7 := g6.at' HQ2.out.2
        have HN7 := Lib.hid (HN2.out.trans g6)
        have HS := Lib.hid (hlt HQ2.out.2)
        have d0 := hcell (j := 0) hq7
        have d1 := hcell (j := 1) hq7
        have d2 := hcell (j := 2) hq7
        have d3 := hcell (j := 3) hq7
        have fz := fun k => hfz (j := k) hq7
        have hsl2 := hlt hq7
        clear hL6 g6 hq7 HL5 HL3 HQk HRr HSl HCh HCq HAw hch
        go_wp2
        exact bodyPost_ret (v := .tuple #[.agg #[.int .i64 t, .int .i64 r, .slice (some ⟨g, 0, none⟩) q.length cap, .int .i64 W], .bool true, .int .i64 0]) (by simp only [results, Tryz.results13]; simp [go_sem, *]) rfl ⟨_, rfl, fill_nw HN7.out (Nat.le_succ _) _ _ _ _, (HL7.out.done HS.out _ _ _ _).1, HL7.out.own.cap, HL7.out.own.fresh HN2.out.sz⟩
end Go.Proofs.YtmciiobncfchlaaGreat
end

/- The developers' package queue: Group, Same. -/
section
namespace Go.Proofs.YtmciiobncfchlaaGreat
open Go.RowKit
set_option linter.unusedVariables false      -- a contract need not use every name

set_option maxHeartbeats 1000000 in
theorem dGroup1 (v : Value) (l : List Int) (w : World) (hl : l.length ≤ 1000) (hkn : ∀ z ∈ l, knI z = true) (h : Rd 1 mdrow w v l) :
    Calls Tryz.prog 59 #[v] w fun e w' => e = .returned (.int .i64 (l.foldl supT 0)) ∧ Nw w w' := by
  have HK := Lib.hid (fun k => (fold_cov 0 rfl (l.take k) 0 rfl (fun z hz => hkn z (List.mem_of_mem_take hz))).1)
  have HKn := Lib.hid hkn
  clear hkn
  obtain ⟨a, c, rfl, ⟨rfl, _⟩ | ⟨b, o, rfl, hc⟩⟩ := h
  · go_enter Tryz.func59, Tryz.ntmps59
    go_wp2
    refine wp_loop_rounds 1 ?_
    rw [rounds_succ]
    go_wp2
    go_ret
    exact ⟨rfl, Nw.refl _⟩
  · have HC := Lib.hid hc
    clear hc
    go_enter Tryz.func59, Tryz.ntmps59
    go_wp2
    go_loopw [3, 8] (fun s i wr => ∃ k : Nat, k ≤ l.length ∧ i = .int .i64 k ∧ s = .int .i64 ((l.take k).foldl supT 0) ∧ Nw w wr) (fun _ i _ => l.length - (intOf i).toNat)
    case atStart => exact ⟨0, Nat.zero_le _, rfl, rfl, Nw.refl _⟩
    case round =>
      obtain ⟨k, hk, rfl, rfl, hG⟩ := hrel
      by_cases hlt : k < l.length
      · have hce := (HC.out.nw hG).cell k hlt 0 _ rfl
        simp only [Nat.mul_one, Nat.add_zero] at hce
        have HS := Lib.hid (show (l.take (k + 1)).foldl supT 0 = supT ((l.take k).foldl supT 0) l[k] by rw [List.take_add_one, List.getElem?_eq_getElem hlt, List.foldl_append]; rfl)
        have HSp := Lib.hid (fun w => dSup ((l.take k).foldl supT 0) l[k] w (HK.out k) (HKn.out _ (List.getElem_mem hlt)))
        generalize (l.take k).foldl supT 0 = s at *
        generalize l[k] = z at *
        have HG := Lib.hid hG
        clear hG
        go_wp2_with (go_at_call 52; refine (HSp.out _).mono ?_; rintro e w' ⟨rfl, hg⟩)
        go_roundw
        case rel => exact ⟨k + 1, by omega, by go_num, by rw [HS.out], Nw.trans HG.out hg⟩
        case measure => simp [intOf]; omega
      · obtain rfl : k = l.length := by omega
        have HG := Lib.hid hG
        clear hG
        rw [List.take_of_length_le (Nat.le_refl _)]
        go_wp2
        go_ret
        exact ⟨rfl, HG.out⟩
set_option maxRecDepth 100000 in
set_option maxHeartbeats 4000000 in
theorem dGroup (t r W : Int) (v : Value) (q : List Rq) (w : World) (hl : q.length ≤ 1000) (hkn : ∀ R ∈ q, knI R.md = true) (h : RqAt w v q) :
    Calls Tryz.prog 25 #[hdV t r v W] w fun e w' => e = .returned (.int .i64 (grpQ q)) ∧ Nw w w' := by
  have HGr := Lib.hid (fun (v2 : Value) (w1 : World) (h : Rd 1 mdrow w1 v2 (q.map fun x => x.md)) => dGroup1 v2 (q.map fun x => x.md) w1 (by simpa using hl) (fun z hz => by obtain ⟨R, hR, rfl⟩ := List.mem_map.1 hz; exact hkn R hR) h)
  clear hkn
  have HAt := Lib.hid h
  obtain ⟨a, c, rfl, _⟩ := h
  unfold hdV
  have hx1 := allocAt w (.cells #[.int .i64 t, .int .i64 r, .slice a q.length c, .int .i64 W] 26)
  have hN : Nw w (w.alloc (.cells #[.int .i64 t, .int .i64 r, .slice a q.length c, .int .i64 W] 26)) := (Nw.refl w).alloc _
  obtain ⟨w1, hw1⟩ : ∃ w1, w.alloc (.cells #[.int .i64 t, .int .i64 r, .slice a q.length c, .int .i64 W] 26) = w1 := ⟨_, rfl⟩
  rw [hw1] at hx1 hN
  have HW1 := Lib.hid hw1
  have HB := Lib.hid (And.intro hx1 hN)
  have c2 := hcell (j := 2) hx1
  have hpl := hlt hx1
  clear hw1 hx1 hN
  go_enter Tryz.func25, Tryz.ntmps25
  go_wp2_with fail
  rw [HW1.out]
  go_wp2
  clear c2 hpl HW1
  go_loopw [3, 9] (fun m i wr => ∃ k : Nat, k ≤ q.length ∧ i = .int .i64 k ∧ Own 27 1 mdrow wr w1.heap.size m ((q.map fun x => x.md).take k) ∧ Nw w1 wr) (fun _ i _ => q.length - (intOf i).toNat)
  case atStart => exact ⟨0, Nat.zero_le _, rfl, World.ownsRow_nil _ _ _ _, Nw.refl _⟩
  case round =>
    obtain ⟨k, hk, rfl, hO, hG⟩ := hrel
    by_cases hlt : k < q.length
    · obtain ⟨a', c', e, ⟨e4, _⟩ | ⟨b, o, e4, hc⟩⟩ := (HAt.out.nw (HB.out.2.trans hG))
      · subst e4; simp at hlt
      simp only [Value.slice.injEq, true_and] at e
      obtain ⟨rfl, rfl⟩ := e
      subst e4
      have hki : (k : Int) < (q.length : Int) := by omega
      have hce := hc.cell k hlt
      have HX := Lib.hid (show (q.map fun x => x.md).take (k + 1) = (q.map fun x => x.md).take k ++ [q[k].md] by rw [List.take_add_one, List.getElem?_map, List.getElem?_eq_getElem hlt]; rfl)
      generalize q[k] = R at *
      obtain ⟨b0, b1, b2, b3, b4⟩ := R
      have e0 := hce 0 _ rfl
      have e1 := hce 1 _ rfl
      have e2 := hce 2 _ rfl
      have e3 := hce 3 _ rfl
      have e4 := hce 4 _ rfl
      simp only [Nat.add_zero] at e0
      simp only at HX
      have g6 : Nw wr (wr.alloc (.cells #[.int .i64 b0, .int .i64 b1, .int .i64 b2, .int .i64 b3, .int .i64 b4] 42)) := (Nw.refl wr).alloc _
      obtain ⟨w6, hw6⟩ : ∃ w6, wr.alloc (.cells #[.int .i64 b0, .int .i64 b1, .int .i64 b2, .int .i64 b3, .int .i64 b4] 42) = w6 := ⟨_, rfl⟩
      have hs6 : w6.heap.size = wr.heap.size + 1 := by rw [← hw6]; simp
      have hq6 := RqB.made wr b0 b1 b2 b3 b4 42
      rw [hw6] at g6 hq6
      obtain ⟨hlq, y0, y1, y2, y3, y4⟩ := hq6
      have HW6 := Lib.hid hw6
      have hNa : Nw w6 (w6.alloc (.cells #[.int .i64 b2] 27)) := (Nw.refl w6).alloc _
      have hal := allocAt w6 (.cells #[.int .i64 b2] 27)
      obtain ⟨v3, y3', hrun, hO3, hG3, hb3, g3, cap3, hv3⟩ := Own.push elemMd (onw hO (g6.trans hNa)) b2 w6.heap.size 1 (fun j u hu => by
        rw [hcell hal]
        simpa [mdrow] using hu) (by rw [List.length_take]; omega) (Nat.le_trans (hG.trans g6).sz hNa.sz)
      rw [← HX.out] at hO3
      have hN3 : Nw w1 y3' := ((hG.trans g6).trans hNa).gro hG3 (fun k hk => oge hO hk)
      have hlen : ((q.map fun x => x.md).take k).length = k := by simp; omega
      subst hv3
      rw [hlen] at hO3 hrun
      rw [hs6, ← hw6] at hrun
      clear hs6
      have HO3 := Lib.hid hO3
      have HN3 := Lib.hid hN3
      have HR2 := Lib.hid hrun
      clear hrun hO3 hN3 hG3 hb3 hal hNa hO hG hce hc g6 hw6
      clear HW6 y0 y1 y2 y3 y4 hlq
      go_wp2_with (at_builtin; (refine wpl_app (by rfl) (.tmp 13) (.tmp 16) 76 rfl _ _ _ _ rfl rfl HR2.out ?_))
      go_roundw
      case rel => exact ⟨k + 1, by omega, by go_num, HO3.out, HN3.out⟩
      case measure => simp [intOf]; omega
    · obtain rfl : k = q.length := by omega
      rw [List.take_of_length_le (by simp)] at hO
      have HO := Lib.hid (Own.rd (sz := 1) (row := mdrow) (fun _ => rfl) hO)
      have HG := Lib.hid hG
      clear hO hG
      go_wp2_with fail
      go_at_call 59
      refine (HGr.out _ _ HO.out).mono ?_
      rintro e w2 ⟨rfl, g⟩
      have HG2 := Lib.hid (HB.out.2.trans (HG.out.trans g))
      clear g HG HO HB
      go_wp2
      go_ret
      exact ⟨rfl, HG2.out⟩
set_option maxRecDepth 100000 in
set_option maxHeartbeats 4000000 in
theorem dEqual (v v' : Value) (q q' : List Rq) (w : World) (hl : q.length ≤ 1000) (h : RqAt w v q) (h' : RqAt w v' q') :
    Calls Tryz.prog 37 #[v, v'] w fun e w' => ∃ f, e = .returned (.bool f) ∧ Nw w w' ∧ (f = true ↔ q = q') := by
  obtain ⟨a, c, rfl, hh⟩ := h
  obtain ⟨a', c', rfl, hh'⟩ := h'
  by_cases hn : q.length = q'.length
  rotate_left
  · have hni : ((q.length : Int) != (q'.length : Int)) = true := by rw [bne_iff_ne]; omega
    clear hh hh'
    go_enter Tryz.func37, Tryz.ntmps37
    go_wp2
    go_ret
    exact ⟨_, rfl, Nw.refl _, by constructor <;> intro e; cases e; exact absurd (by rw [e]) hn⟩
  rw [← hn]
  have hni : ((q.length : Int) != (q.length : Int)) = false := by simp
  have HC := Lib.hid (And.intro hh hh')
  have HNn := Lib.hid hn
  clear hh hh' hn
  go_enter Tryz.func37, Tryz.ntmps37
  go_wp2
  go_loopw [13] (fun i wr => ∃ k : Nat, k ≤ q.length ∧ i = .int .i64 k ∧ q.take k = q'.take k ∧ Nw w wr) (fun i _ => q.length - (intOf i).toNat)
  case atStart => exact ⟨0, Nat.zero_le _, rfl, rfl, Nw.refl _⟩
  case round =>
    obtain ⟨k, hk, rfl, hf, hG⟩ := hrel
    have HG := Lib.hid hG
    by_cases hlt : k < q.length
    · have hlt' : k < q'.length := by have := HNn.out; omega
      rcases HC.out.1 with ⟨e4, _⟩ | ⟨b, o, e4, hc⟩
      · subst e4; simp at hlt
      rcases HC.out.2 with ⟨e5, _⟩ | ⟨b', o', e5, hc'⟩
      · subst e5; simp at hlt'
      subst e4 e5
      have hki : (k : Int) < (q.length : Int) := by omega
      have hce := (hc.nw hG).cell k hlt
      have hde := (hc'.nw hG).cell k hlt'
      have HNe := Lib.hid (fun e => take_ne hlt hlt' e)
      have HEq := Lib.hid (fun e => take_two hlt hlt' hf e)
      generalize q[k] = R at *
      generalize q'[k] = R' at *
      obtain ⟨b0, b1, b2, b3, b4⟩ := R
      obtain ⟨f0, f1, f2, f3, f4⟩ := R'
      have e0 := hce 0 _ rfl
      have e1 := hce 1 _ rfl
      have e2 := hce 2 _ rfl
      have e3 := hce 3 _ rfl
      have e4 := hce 4 _ rfl
      have g0 := hde 0 _ rfl
      have g1 := hde 1 _ rfl
      have g2 := hde 2 _ rfl
      have g3 := hde 3 _ rfl
      have g4 := hde 4 _ rfl
      simp only [Nat.add_zero] at e0 g0
      clear hce hde hc hc' hf hG
      by_cases x0 : b0 = f0
      rotate_left
      · have y0 : (b0 == f0) = false := by simpa using x0
        have HQ := Lib.hid (HNe.out (fun e => x0 (by injection e)))
        clear x0 HNe HEq
        go_wp2_with fail
        go_quiet (fail)
        go_wp2
        go_ret
        exact ⟨false, rfl, HG.out.drewN _, by simpa using HQ.out⟩
      subst x0
      by_cases x1 : b1 = f1
      rotate_left
      · have y1 : (b1 == f1) = false := by simpa using x1
        have HQ := Lib.hid (HNe.out (fun e => x1 (by injection e)))
        clear x1 HNe HEq
        go_wp2_with fail
        go_quiet (fail)
        go_wp2
        go_ret
        exact ⟨false, rfl, HG.out.drewN _, by simpa using HQ.out⟩
      subst x1
      by_cases x2 : b2 = f2
      rotate_left
      · have y2 : (b2 == f2) = false := by simpa using x2
        have HQ := Lib.hid (HNe.out (fun e => x2 (by injection e)))
        clear x2 HNe HEq
        go_wp2_with fail
        go_quiet (fail)
        go_wp2
        go_ret
        exact ⟨false, rfl, HG.out.drewN _, by simpa using HQ.out⟩
      subst x2
      by_cases x3 : b3 = f3
      rotate_left
      · have y3 : (b3 == f3) = false := by simpa using x3
        have HQ := Lib.hid (HNe.out (fun e => x3 (by injection e)))
        clear x3 HNe HEq
        go_wp2_with fail
        go_quiet (fail)
        go_wp2
        go_ret
        exact ⟨false, rfl, HG.out.drewN _, by simpa using HQ.out⟩
      subst x3
      by_cases x4 : b4 = f4
      rotate_left
      · have y4 : (b4 == f4) = false := by simpa using x4
        have HQ := Lib.hid (HNe.out (fun e => x4 (by injection e)))
        clear x4 HNe HEq
        go_wp2_with fail
        go_quiet (fail)
        go_wp2
        go_ret
        exact ⟨false, rfl, HG.out.drewN _, by simpa using HQ.out⟩
      subst x4
      have HQ := Lib.hid (HEq.out rfl)
      clear HNe HEq
      go_wp2_with fail
      go_quiet (fail)
      go_wp2
      go_roundw
      case rel => exact ⟨k + 1, by omega, by go_num, HQ.out, HG.out.drewN _⟩
      case measure => simp [intOf]; omega
    · obtain rfl : k = q.length := by omega
      clear hG
      go_wp2
      go_ret
      exact ⟨_, rfl, HG.out, by
        have h2 := hf
        rw [List.take_of_length_le (Nat.le_refl _), List.take_of_length_le (by have := HNn.out; omega)] at h2
        simp [h2]⟩
set_option maxRecDepth 100000 in
set_option maxHeartbeats 4000000 in
theorem dSame (t r W t2 r2 W2 : Int) (v v2 : Value) (q q2 : List Rq) (w : World) (hl : q.length ≤ 1000) (h : RqAt w v q) (h2 : RqAt w v2 q2) :
    Calls Tryz.prog 8 #[hdV t r v W, hdV t2 r2 v2 W2] w fun e w' => ∃ f, e = .returned (.bool f) ∧ Nw w w' ∧ (f = true ↔ t = t2 ∧ r = r2 ∧ W = W2 ∧ q = q2) := by
  have HE := Lib.hid (fun (z : World) (g : Nw w z) => dEqual v v2 q q2 z hl (h.nw g) (h2.nw g))
  obtain ⟨a, c, rfl, _⟩ := h
  obtain ⟨a2, c2, rfl, _⟩ := h2
  obtain ⟨n2, hn2⟩ : ∃ n, q2.length = n := ⟨_, rfl⟩
  rw [hn2] at HE ⊢
  clear hn2
  unfold hdV
  obtain ⟨hx1, hx2, hx3, _⟩ := two_boxes w (.cells #[.int .i64 t, .int .i64 r, .slice a q.length c, .int .i64 W] 26) (.cells #[.int .i64 t2, .int .i64 r2, .slice a2 n2 c2, .int .i64 W2] 26)
  obtain ⟨w1, hw1⟩ : ∃ w1, (w.alloc (.cells #[.int .i64 t, .int .i64 r, .slice a q.length c, .int .i64 W] 26)).alloc (.cells #[.int .i64 t2, .int .i64 r2, .slice a2 n2 c2, .int .i64 W2] 26) = w1 := ⟨_, rfl⟩
  rw [hw1] at hx1 hx2 hx3
  have HN := Lib.hid hx3
  have HW := Lib.hid hw1
  have HE1 := Lib.hid (HE.out w1 hx3)
  have x0 := hcell (j := 0) hx1
  have x1 := hcell (j := 1) hx1
  have x2 := hcell (j := 2) hx1
  have x3 := hcell (j := 3) hx1
  have xl := hlt hx1
  have y0 := hcell (j := 0) hx2
  have y1 := hcell (j := 1) hx2
  have y2 := hcell (j := 2) hx2
  have y3 := hcell (j := 3) hx2
  have yl := hlt hx2
  clear hx1 hx2 hx3 hw1 HE
  by_cases e1 : t = t2
  rotate_left
  · have d : (t == t2) = false := by simpa using e1
    have E1 := Lib.hid e1
    clear e1
    go_enter Tryz.func8, Tryz.ntmps8
    go_wp2_with fail
    rw [HW.out]
    go_wp2
    go_ret
    exact ⟨_, rfl, HN.out, by simp [E1.out]⟩
  by_cases e2 : r = r2
  rotate_left
  · have d : (r == r2) = false := by simpa using e2
    have E2 := Lib.hid e2
    subst e1
    clear e2
    go_enter Tryz.func8, Tryz.ntmps8
    go_wp2_with fail
    rw [HW.out]
    go_wp2
    go_ret
    exact ⟨_, rfl, HN.out, by simp [E2.out]⟩
  by_cases e3 : W = W2
  rotate_left
  · have d : (W == W2) = false := by simpa using e3
    have E3 := Lib.hid e3
    subst e1 e2
    clear e3
    go_enter Tryz.func8, Tryz.ntmps8
    go_wp2_with fail
    rw [HW.out]
    go_wp2
    go_ret
    exact ⟨_, rfl, HN.out, by simp [E3.out]⟩
  subst e1 e2 e3
  go_enter Tryz.func8, Tryz.ntmps8
  go_wp2_with fail
  rw [HW.out]
  go_wp2_with fail
  go_at_call 37
  refine HE1.out.mono ?_
  rintro e w2 ⟨f, rfl, g2, hf⟩
  have HF := Lib.hid (And.intro g2 hf)
  clear x0 x1 x2 x3 xl y0 y1 y2 y3 yl g2 hf HE1
  go_wp2
  go_ret
  exact ⟨_, rfl, HN.out.trans HF.out.1, by simp [HF.out.2]⟩
end Go.Proofs.YtmciiobncfchlaaGreat
end

/- Contracts of the library's functions at this program, laid by the kit's own command in plain words; only those that are used. -/
section
namespace Go.Proofs
open Go.Shelf
def Tryz.lays189_ren : Go.Shelf.Ren := ⟨fun | 189 => 63 | 125 => 89 | 257 => 88 | 128 => 112 | 129 => 113 | 294 => 103 | 295 => 104 | 296 => 105 | 297 => 106 | 298 => 107 | 299 => 108 | 216 => 109 | 300 => 110 | 301 => 111 | 328 => 117 | 329 => 118 | 330 => 119 | 331 => 120 | 332 => 121 | 215 => 116 | 343 => 123 | n => n, fun | 28 => 48 | 3 => 3 | 46 => 100 | 0 => 0 | 51 => 118 | 53 => 120 | 4 => 4 | 183 => 110 | 182 => 109 | 131 => 115 | 5 => 5 | 9 => 9 | 218 => 124 | 222 => 128 | 228 => 131 | 229 => 132 | n => n, fun | n => n⟩
theorem Tryz.lays189 : Go.Proofs.Lays.n189 Tryz.prog Tryz.lays189_ren := {
  mixed := by kernel_rfl
  f125 := Tryz.func89.trans (congrArg some (by kernel_rfl))
  f128 := Tryz.func112.trans (congrArg some (by kernel_rfl))
  f129 := Tryz.func113.trans (congrArg some (by kernel_rfl))
  f189 := Tryz.func63.trans (congrArg some (by kernel_rfl))
  f215 := Tryz.func116.trans (congrArg some (by kernel_rfl))
  f216 := Tryz.func109.trans (congrArg some (by kernel_rfl))
  f257 := Tryz.func88.trans (congrArg some (by kernel_rfl))
  f294 := Tryz.func103.trans (congrArg some (by kernel_rfl))
  f295 := Tryz.func104.trans (congrArg some (by kernel_rfl))
  f296 := Tryz.func105.trans (congrArg some (by kernel_rfl))
  f297 := Tryz.func106.trans (congrArg some (by kernel_rfl))
  f298 := Tryz.func107.trans (congrArg some (by kernel_rfl))
  f299 := Tryz.func108.trans (congrArg some (by kernel_rfl))
  f300 := Tryz.func110.trans (congrArg some (by kernel_rfl))
  f301 := Tryz.func111.trans (congrArg some (by kernel_rfl))
  f328 := Tryz.func117.trans (congrArg some (by kernel_rfl))
  f329 := Tryz.func118.trans (congrArg some (by kernel_rfl))
  f330 := Tryz.func119.trans (congrArg some (by kernel_rfl))
  f331 := Tryz.func120.trans (congrArg some (by kernel_rfl))
  f332 := Tryz.func121.trans (congrArg some (by kernel_rfl))
  f343 := Tryz.func123.trans (congrArg some (by kernel_rfl))
  t0 := Tryz.underlying0
  a0 := Tryz.isAgg0
  z0 := Tryz.sizeOf0
  v0 := Tryz.zeroValue0
  t3 := Tryz.underlying3
  a3 := Tryz.isAgg3
  z3 := Tryz.sizeOf3
  v3 := Tryz.zeroValue3
  t4 := Tryz.underlying4
  a4 := Tryz.isAgg4
  z4 := Tryz.sizeOf4
  v4 := Tryz.zeroValue4
  t5 := Tryz.underlying5
  a5 := Tryz.isAgg5
  z5 := Tryz.sizeOf5
  v5 := Tryz.zeroValue5
  t9 := Tryz.underlying9
  a9 := Tryz.isAgg9
  z9 := Tryz.sizeOf9
  v9 := Tryz.zeroValue9
  t28 := Tryz.underlying48
  a28 := Tryz.isAgg48
  z28 := Tryz.sizeOf48
  v28 := Tryz.zeroValue48
  t46 := Tryz.underlying100
  a46 := Tryz.isAgg100
  z46 := Tryz.sizeOf100
  v46 := Tryz.zeroValue100
  t51 := Tryz.underlying118
  a51 := Tryz.isAgg118
  z51 := Tryz.sizeOf118
  v51 := Tryz.zeroValue118
  t53 := Tryz.underlying120
  a53 := Tryz.isAgg120
  z53 := Tryz.sizeOf120
  v53 := Tryz.zeroValue120
  t131 := Tryz.underlying115
  a131 := Tryz.isAgg115
  z131 := Tryz.sizeOf115
  v131 := Tryz.zeroValue115
  t182 := Tryz.underlying109
  a182 := Tryz.isAgg109
  z182 := Tryz.sizeOf109
  v182 := Tryz.zeroValue109
  t183 := Tryz.underlying110
  a183 := Tryz.isAgg110
  z183 := Tryz.sizeOf110
  v183 := Tryz.zeroValue110
  t218 := Tryz.underlying124
  a218 := Tryz.isAgg124
  z218 := Tryz.sizeOf124
  v218 := Tryz.zeroValue124
  t222 := Tryz.underlying128
  a222 := Tryz.isAgg128
  z222 := Tryz.sizeOf128
  v222 := Tryz.zeroValue128
  t228 := Tryz.underlying131
  a228 := Tryz.isAgg131
  z228 := Tryz.sizeOf131
  v228 := Tryz.zeroValue131
  t229 := Tryz.underlying132
  a229 := Tryz.isAgg132
  z229 := Tryz.sizeOf132
  v229 := Tryz.zeroValue132 }
open Go.Sort Go.RowKit in
theorem Tryz.slices_Sort_int (blk off cap : Nat) (zs : List Int) (w : World) (hH : Holds (Value.int .i64) w blk off zs.toArray) (hblk : blk < w.heap.size) (hsz : zs.length < 4611686018427387904) :
    Calls Tryz.prog 63 #[.slice (some ⟨blk, off, none⟩) zs.length cap] w fun e w' =>
      e = .returned (.tuple #[]) ∧ ∃ n os, w' = grow (putRow (Value.int .i64) (Sort.ahead w n) blk off (zs.mergeSort fun x y => decide (x ≤ y)).toArray) os := Any.slices_Sort_int Tryz.lays189 blk off cap zs w hH hblk hsz
def Tryz.laysNm220_ren : Go.Shelf.Ren := ⟨fun | 20 => 64 | n => n, fun | 22 => 48 | 3 => 3 | 4 => 4 | 0 => 0 | n => n, fun | n => n⟩
theorem Tryz.laysNm220 : Go.Proofs.Lays2.n20 Tryz.prog Tryz.laysNm220_ren := {
  mixed := by kernel_rfl
  f20 := Tryz.func64.trans (congrArg some (by kernel_rfl))
  t0 := Tryz.underlying0
  a0 := Tryz.isAgg0
  z0 := Tryz.sizeOf0
  v0 := Tryz.zeroValue0
  t3 := Tryz.underlying3
  a3 := Tryz.isAgg3
  z3 := Tryz.sizeOf3
  v3 := Tryz.zeroValue3
  t4 := Tryz.underlying4
  a4 := Tryz.isAgg4
  z4 := Tryz.sizeOf4
  v4 := Tryz.zeroValue4
  t22 := Tryz.underlying48
  a22 := Tryz.isAgg48
  z22 := Tryz.sizeOf48
  v22 := Tryz.zeroValue48
  i3 := by kernel_rfl }
open Go.RowKit Go.Lib Go.Sort in
theorem Tryz.slices_Compact_int (blk off cap : Nat) (zs : List Int) (w : World) (hH : Holds (Value.int .i64) w blk off zs.toArray) (hsz : zs.length ≤ 9223372036854775807) (hcap : zs.length ≤ cap) :
    Calls Tryz.prog 64 #[.slice (some ⟨blk, off, none⟩) zs.length cap] w fun e w' => e = .returned (.slice (some ⟨blk, off, none⟩) (Lib.compact zs).length cap) ∧ ∃ q, w' = putRow (Value.int .i64) (Sort.ahead w q) blk off (Lib.compact zs ++ List.replicate (zs.length - (Lib.compact zs).length) 0).toArray := Any.slices_Compact_int Tryz.laysNm220 blk off cap zs w hH hsz hcap
open Go.RowKit Go.Lib Go.Sort in
theorem Tryz.slices_Compact_int_empty (a : Option Addr) (cap : Nat) (w : World) :
    Calls Tryz.prog 64 #[.slice a 0 cap] w fun e w' => e = .returned (.slice a 0 cap) ∧ w' = w := Any.slices_Compact_int_empty Tryz.laysNm220 a cap w
open Go.RowKit Go.Sort in
theorem Tryz.slices_Sort_int_none (p : Option Addr) (cap : Nat) (w : World) :
    Calls Tryz.prog 63 #[.slice p 0 cap] w fun e w' => e = .returned (.tuple #[]) ∧ w' = w := Any.slices_Sort_int_none Tryz.lays189 p cap w
end Go.Proofs
end

/- The library's Sort and Compact at rows of ints that the call owns; plain facts of sorted lists. -/
section
namespace Go.Proofs.YtmciiobncfchlaaGreat
open Go.RowKit Go.Sort
set_option linter.unusedVariables false

theorem sorted_ext : ∀ {a b : List Int}, a.Pairwise (· < ·) → b.Pairwise (· < ·) → (∀ x, x ∈ a ↔ x ∈ b) → a = b
  | [], b, _, _, h => by
    cases b with
    | nil => rfl
    | cons y b => exact absurd ((h y).2 (by simp)) (by simp)
  | x :: a, [], _, _, h => absurd ((h x).1 (by simp)) (by simp)
  | x :: a, y :: b, ha, hb, h => by
    rw [List.pairwise_cons] at ha hb
    have e : x = y := by
      rcases List.mem_cons.1 ((h x).1 (by simp)) with e | e
      · exact e
      · rcases List.mem_cons.1 ((h y).2 (by simp)) with e2 | e2
        · exact e2.symm
        · have := hb.1 x e; have := ha.1 y e2; omega
    subst e
    congr 1
    refine sorted_ext ha.2 hb.2 (fun z => ?_)
    have hz := h z
    rw [List.mem_cons, List.mem_cons] at hz
    constructor
    · intro m
      rcases hz.1 (.inr m) with e | e
      · have := ha.1 z m; omega
      · exact e
    · intro m
      rcases hz.2 (.inr m) with e | e
      · have := hb.1 z m; omega
      · exact e
theorem cmp_upto (l : List Int) (hs : l.Pairwise (· ≤ ·)) : ∀ m, m ≤ l.length → (Lib.compactUpTo l.toArray m).Pairwise (· < ·) ∧ ∀ x, x ∈ Lib.compactUpTo l.toArray m ↔ ∃ j, j < m ∧ l.toArray[j]! = x
  | 0, _ => by
    have : Lib.compactUpTo l.toArray 0 = [] := rfl
    rw [this]
    exact ⟨List.Pairwise.nil, fun x => by simp⟩
  | m + 1, hm => by
    obtain ⟨h1, h2⟩ := cmp_upto l hs m (by omega)
    have hle : ∀ i j, i < j → j < l.length → l.toArray[i]! ≤ l.toArray[j]! := fun i j hij hj => by
      have := List.pairwise_iff_getElem.1 hs i j (by omega) hj hij
      simpa [hj, show i < l.length by omega] using this
    rw [Lib.compactUpTo_succ]
    by_cases k : Lib.keeps l.toArray m = true
    · rw [if_pos k]
      refine ⟨List.pairwise_append.2 ⟨h1, by simp, fun x hx y hy => ?_⟩, fun x => ?_⟩
      · obtain rfl := List.mem_singleton.1 hy
        obtain ⟨j, hj, rfl⟩ := (h2 x).1 hx
        have hk : l.toArray[m]! ≠ l.toArray[m - 1]! := by
          unfold Lib.keeps at k
          simp at k
          rcases k with k | k
          · omega
          · simpa using k
        have a1 : l.toArray[j]! ≤ l.toArray[m - 1]! := by
          by_cases e : j = m - 1
          · rw [e]; exact Int.le_refl _
          · exact hle j (m - 1) (by omega) (by omega)
        have a2 := hle (m - 1) m (by omega) (by omega)
        omega
      · rw [List.mem_append, List.mem_singleton, h2 x]
        constructor
        · rintro (⟨j, hj, e⟩ | e)
          · exact ⟨j, by omega, e⟩
          · exact ⟨m, by omega, e.symm⟩
        · rintro ⟨j, hj, e⟩
          by_cases q : j = m
          · subst q; exact .inr e.symm
          · exact .inl ⟨j, by omega, e⟩
    · rw [if_neg k, List.append_nil]
      refine ⟨h1, fun x => ?_⟩
      rw [h2 x]
      have hk : 0 < m ∧ l.toArray[m]! = l.toArray[m - 1]! := by
        unfold Lib.keeps at k
        simp at k
        refine ⟨by omega, ?_⟩
        have := k.2
        simpa using this
      constructor
      · rintro ⟨j, hj, e⟩; exact ⟨j, by omega, e⟩
      · rintro ⟨j, hj, e⟩
        by_cases q : j = m
        · subst q; exact ⟨j - 1, by omega, by rw [← hk.2]; exact e⟩
        · exact ⟨j, by omega, e⟩
theorem arr_at (l : List Int) (j : Nat) (h : j < l.length) : l.toArray[j]! = l[j] := by simp [h]
/-- Sorted, each once. -/
theorem cmp_sorted (l : List Int) : (Lib.compact (l.mergeSort fun x y => decide (x ≤ y))).Pairwise (· < ·) ∧ ∀ x, x ∈ Lib.compact (l.mergeSort fun x y => decide (x ≤ y)) ↔ x ∈ l := by
  have hs : (l.mergeSort fun x y => decide (x ≤ y)).Pairwise (· ≤ ·) := by
    have := List.pairwise_mergeSort (le := fun (x y : Int) => decide (x ≤ y)) (fun a b c h1 h2 => by simp at *; omega) (fun a b => by simp; omega) l
    exact this.imp (fun h => by simpa using h)
  obtain ⟨h1, h2⟩ := cmp_upto _ hs _ (Nat.le_refl _)
  refine ⟨h1, fun x => ?_⟩
  have h3 := h2 x
  unfold Lib.compact
  rw [h3, ← (List.mergeSort_perm l _).mem_iff (a := x), List.mem_iff_getElem]
  constructor
  · rintro ⟨j, hj, e⟩
    exact ⟨j, hj, (arr_at _ j hj).symm.trans e⟩
  · rintro ⟨j, hj, e⟩
    exact ⟨j, hj, (arr_at _ j hj).trans e⟩
theorem dSortI (v : Value) (l : List Int) (w : World) (h : IS w v l) (hl : l.length ≤ 1000) :
    Calls Tryz.prog 63 #[v] w fun e w' => e = .returned (.tuple #[]) ∧ IS w' v (l.mergeSort fun x y => decide (x ≤ y)) ∧ Tch (fun i => v.ownBlock = some i) w w' := by
  rcases h.2 with ⟨rfl, e⟩ | ⟨g, cap, cur, rfl, _, hb, h1, h2, h3, ht⟩
  · obtain rfl := List.length_eq_zero_iff.1 e
    refine (Tryz.slices_Sort_int_none none 0 w).mono ?_
    rintro e w' ⟨rfl, h⟩
    exact ⟨rfl, by simpa using IS.nil w', by first | (subst h; exact Tch.refl _ _) | (obtain ⟨n, rfl⟩ := h; exact (Tch.refl _ _).drewN _)⟩
  · rw [Nat.mul_one] at ht
    have hH := holds_of_blockI hb ht
    have hlen : (l.mergeSort fun x y => decide (x ≤ y)).length = l.length := List.length_mergeSort _
    refine (Tryz.slices_Sort_int g 0 cap l w hH (hlt hb) (by omega)).mono ?_
    rintro e w' ⟨rfl, n, os, rfl⟩
    refine ⟨rfl, ?_, (Tch.refl _ w).grown (grownBy_sortedI _) (fun k hk => .inl hk)⟩
    unfold IS
    rw [hlen]
    exact ownsRow_sortedI hlen (Nat.zero_le _) hb h1 h2 h3
theorem dCompactI (v : Value) (l : List Int) (w : World) (h : IS w v l) (hl : l.length ≤ 1000) :
    Calls Tryz.prog 64 #[v] w fun e w' => ∃ v', e = .returned v' ∧ IS w' v' (Lib.compact l) ∧ v'.ownBlock = v.ownBlock ∧ Tch (fun i => v.ownBlock = some i) w w' := by
  rcases h.2 with ⟨rfl, e⟩ | ⟨g, cap, cur, rfl, _, hb, h1, h2, h3, ht⟩
  · obtain rfl := List.length_eq_zero_iff.1 e
    refine (Tryz.slices_Compact_int_empty none 0 w).mono ?_
    rintro e w' ⟨rfl, rfl⟩
    exact ⟨_, rfl, IS.nil _, rfl, Tch.refl _ _⟩
  · rw [Nat.mul_one] at ht
    have hH := holds_of_blockI hb ht
    have hle := Lib.compact_length_le l
    refine (Tryz.slices_Compact_int g 0 cap l w hH (by omega) h1).mono ?_
    rintro e w' ⟨rfl, n, rfl⟩
    have hg := grownBy_sortedI (w := w) (g := g) (n := n) (os := #[]) (Lib.compact l ++ List.replicate (l.length - (Lib.compact l).length) 0).toArray
    have hh := heap_sortedI (n := n) (os := #[]) (Lib.compact l ++ List.replicate (l.length - (Lib.compact l).length) 0).toArray hb
    rw [grow_empty] at hg hh
    refine ⟨_, rfl, ⟨by simp, .inr ⟨g, cap, _, rfl, Nat.zero_le _, hh, by omega, h2, by simp [putCells, h3], ?_⟩⟩, rfl, (Tch.refl _ w).grown hg (fun k hk => .inl hk)⟩
    have hlen : (Lib.compact l ++ List.replicate (l.length - (Lib.compact l).length) 0).length = l.length := by simp; omega
    have hta := take_putCellsI cur (Lib.compact l ++ List.replicate (l.length - (Lib.compact l).length) 0) (by rw [hlen]; omega)
    have hta2 := congrArg (List.take (Lib.compact l).length) hta
    rw [List.take_take, hlen, Nat.min_eq_left hle, List.map_append, List.take_append_of_le_length (by simp)] at hta2
    rw [Nat.mul_one, hta2]
    exact List.take_of_length_le (by simp)
end Go.Proofs.YtmciiobncfchlaaGreat
end
