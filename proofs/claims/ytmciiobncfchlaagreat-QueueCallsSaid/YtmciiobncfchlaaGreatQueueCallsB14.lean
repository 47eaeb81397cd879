/- Texts merged: QcW -/
import Derived.Test.YtmciiobncfchlaaGreatQueueCallsB13

/- QueueCalls: the walk. -/
section
namespace Go.Proofs.YtmciiobncfchlaaGreat
open Go.RowKit
set_option linter.unusedVariables false

set_option maxRecDepth 100000 in
set_option maxHeartbeats 32000000 in
theorem law_any (t r W : Int) (vq : Value) (q : List Rq) (t2 r2 W2 : Int) (vq2 : Value) (q2 : List Rq) (id txn m : Int) (w : World) (h : RqAt w vq q) (hcap : capOk vq) (hfit : ∀ R ∈ q, FitR R) (h2 : RqAt w vq2 q2) :
    Calls Tryz.prog 3 #[hdV t r vq W, hdV t2 r2 vq2 W2, .int .i64 id, .int .i64 txn, .int .i64 m] w fun e w' => e = .returned (.bool true) ∧ Nw w w' := by
  have HLv := Lib.hid lives_ok
  obtain ⟨a, c, rfl⟩ := h.form
  obtain ⟨a2, cz, rfl⟩ := h2.form
  obtain ⟨n, hn⟩ : ∃ n, q.length = n := ⟨_, rfl⟩
  obtain ⟨n2, hn2⟩ : ∃ n, q2.length = n := ⟨_, rfl⟩
  rw [hn] at h hcap ⊢
  rw [hn2] at h2 ⊢
  unfold hdV
  have HFc := Lib.hid (And.intro hcap hfit)
  have HNn := Lib.hid (And.intro hn hn2)
  obtain ⟨hx1, hx2, hx3, _⟩ := two_boxes w (.cells #[.int .i64 t, .int .i64 r, .slice a n c, .int .i64 W] 26) (.cells #[.int .i64 t2, .int .i64 r2, .slice a2 n2 cz, .int .i64 W2] 26)
  obtain ⟨w0, hw0⟩ : ∃ x, (w.alloc (.cells #[.int .i64 t, .int .i64 r, .slice a n c, .int .i64 W] 26)).alloc (.cells #[.int .i64 t2, .int .i64 r2, .slice a2 n2 cz, .int .i64 W2] 26) = x := ⟨_, rfl⟩
  rw [hw0] at hx1 hx2 hx3
  obtain ⟨p1, hp1⟩ : ∃ x, w.heap.size + 1 = x := ⟨_, rfl⟩
  rw [hp1] at hx2
  obtain ⟨p, hp⟩ : ∃ x, w.heap.size = x := ⟨_, rfl⟩
  rw [hp] at hx1
  have HE := Lib.hid (And.intro hw0 (And.intro hp1 hp))
  have HB := Lib.hid (And.intro hx1 (And.intro hx2 hx3))
  have HR := Lib.hid (And.intro (h.nw hx3) (h2.nw hx3))
  clear hcap hfit hn hn2 hx1 hx2 hx3 hw0 hp hp1 h h2
  go_enter Tryz.func3, Tryz.ntmps3
  go_wp2_with fail
  rw [HE.out.1, HE.out.2.1, HE.out.2.2]
  clear HE
  go_at_call 4
  refine (HLv.out _).mono ?_
  rintro e y0 ⟨rfl, g⟩
  clear HLv
  replace HB := Lib.hid (And.intro (g.at' HB.out.1) (And.intro (g.at' HB.out.2.1) (HB.out.2.2.trans g)))
  replace HR := Lib.hid (And.intro (HR.out.1.nw g) (HR.out.2.nw g))
  clear g
  have c0 := hcell (j := 0) HB.out.1
  have c1 := hcell (j := 1) HB.out.1
  have c2 := hcell (j := 2) HB.out.1
  have c3 := hcell (j := 3) HB.out.1
  have cl := hlt HB.out.1
  have d0 := hcell (j := 0) HB.out.2.1
  have d1 := hcell (j := 1) HB.out.2.1
  have d2 := hcell (j := 2) HB.out.2.1
  have d3 := hcell (j := 3) HB.out.2.1
  have dl := hlt HB.out.2.1
  have hb := allocAt y0 (.cells #[.int .i64 t, .int .i64 r, .slice a n c, .int .i64 W, .int .i64 t2, .int .i64 r2, .slice a2 n2 cz, .int .i64 W2] 26)
  obtain ⟨u, hu⟩ : ∃ x, y0.alloc (.cells #[.int .i64 t, .int .i64 r, .slice a n c, .int .i64 W, .int .i64 t2, .int .i64 r2, .slice a2 n2 cz, .int .i64 W2] 26) = x := ⟨_, rfl⟩
  have g : Nw y0 u := by rw [← hu]; exact (Nw.refl _).alloc _
  rw [hu] at hb
  obtain ⟨B, hB⟩ : ∃ x, y0.heap.size = x := ⟨_, rfl⟩
  rw [hB] at hb
  have HE := Lib.hid (And.intro hu hB)
  have HLt := Lib.hid (kLight2 B t r W a n c t2 r2 W2 a2 n2 cz u hb)
  obtain ⟨fl, hfl⟩ : ∃ x, (decide (n ≤ 12) && decide (n2 ≤ 12)) = x := ⟨_, rfl⟩
  rw [hfl] at HLt
  have HFl := Lib.hid hfl
  replace HB := Lib.hid (And.intro (g.at' HB.out.1) (And.intro (g.at' HB.out.2.1) (HB.out.2.2.trans g)))
  replace HR := Lib.hid (And.intro (HR.out.1.nw g) (HR.out.2.nw g))
  clear hb hu hB hfl g
  go_wp2_with fail
  rw [HE.out.1, HE.out.2]
  clear HE
  clear c0 c1 c2 c3 d0 d1 d2 d3 cl dl
  go_at_call 5
  refine HLt.out.mono ?_
  rintro e y1 ⟨rfl, g⟩
  replace HB := Lib.hid (And.intro (g.at' HB.out.1) (And.intro (g.at' HB.out.2.1) (HB.out.2.2.trans g)))
  replace HR := Lib.hid (And.intro (HR.out.1.nw g) (HR.out.2.nw g))
  clear g HLt
  cases fl
  · go_wp2
    go_ret
    exact ⟨rfl, HB.out.2.2⟩
  have hn12 : n ≤ 12 ∧ n2 ≤ 12 := by have := HFl.out; simpa using this
  have HN12 := Lib.hid hn12
  clear hn12 HFl
  obtain ⟨cv, hc0⟩ : ∃ x : Int, (if okQ W q = true then 0 else 2) = x := ⟨_, rfl⟩
  have HC0 := Lib.hid hc0
  obtain ⟨F0, hF0⟩ := cBoth t r W t2 r2 W2 q q2
  have HCk := Lib.hid (fun (z : World) (hz : Nw y1 z) => dCheck t r W (.slice a n c) q z (by have := HNn.out.1; have := HN12.out.1; omega) HFc.out.2 (HR.out.1.nw hz))
  have HRk := Lib.hid (fun (z : World) (hz : Nw y1 z) => r9check t r W (.slice a n c) q z (by have := HNn.out.1; have := HN12.out.1; omega) (HR.out.1.nw hz))
  rw [hc0] at HCk HRk
  have HSd := Lib.hid (show ∀ z, Nw y1 z → Calls Tryz.prog 8 #[hdV t r (.slice a n c) W, hdV t2 r2 (.slice a2 n2 cz) W2] z fun e w' => e = .returned (.bool F0) ∧ Nw z w' from fun z hz => (dSame t r W t2 r2 W2 (.slice a n c) (.slice a2 n2 cz) q q2 z (by have := HNn.out.1; have := HN12.out.1; omega) (HR.out.1.nw hz) (HR.out.2.nw hz)).mono fun e w' hh => by
    obtain ⟨f, rfl, g, hf⟩ := hh
    exact ⟨by rw [hF0 f hf], g⟩)
  have HSr := Lib.hid (show ∀ z, Nw y1 z → Calls Tryz.prog 9 #[hdV t r (.slice a n c) W, hdV t2 r2 (.slice a2 n2 cz) W2] z fun e w' => e = .returned (.bool F0) ∧ Nw z w' from fun z hz => (r9same t r W t2 r2 W2 (.slice a n c) (.slice a2 n2 cz) q q2 z (by have := HNn.out.1; have := HN12.out.1; omega) (HR.out.1.nw hz) (HR.out.2.nw hz)).mono fun e w' hh => by
    obtain ⟨f, rfl, g, hf⟩ := hh
    exact ⟨by rw [hF0 f hf], g⟩)
  unfold hdV at HCk HRk HSd HSr
  clear hc0 hF0
  have s0 : ∀ z, Nw y1 z → z.cell? ⟨p, 0, none⟩ = some (.int .i64 t) := fun z hz => hz.kp (hcell (j := 0) HB.out.1)
  have s1 : ∀ z, Nw y1 z → z.cell? ⟨p, 1, none⟩ = some (.int .i64 r) := fun z hz => hz.kp (hcell (j := 1) HB.out.1)
  have s2 : ∀ z, Nw y1 z → z.cell? ⟨p, 2, none⟩ = some (.slice a n c) := fun z hz => hz.kp (hcell (j := 2) HB.out.1)
  have s3 : ∀ z, Nw y1 z → z.cell? ⟨p, 3, none⟩ = some (.int .i64 W) := fun z hz => hz.kp (hcell (j := 3) HB.out.1)
  have o0 : ∀ z, Nw y1 z → z.cell? ⟨p1, 0, none⟩ = some (.int .i64 t2) := fun z hz => hz.kp (hcell (j := 0) HB.out.2.1)
  have o1 : ∀ z, Nw y1 z → z.cell? ⟨p1, 1, none⟩ = some (.int .i64 r2) := fun z hz => hz.kp (hcell (j := 1) HB.out.2.1)
  have o2 : ∀ z, Nw y1 z → z.cell? ⟨p1, 2, none⟩ = some (.slice a2 n2 cz) := fun z hz => hz.kp (hcell (j := 2) HB.out.2.1)
  have o3 : ∀ z, Nw y1 z → z.cell? ⟨p1, 3, none⟩ = some (.int .i64 W2) := fun z hz => hz.kp (hcell (j := 3) HB.out.2.1)
  have q1 := (Nw.refl y1).drew1
  obtain ⟨wc, hwc⟩ : ∃ wc, y1.drew = wc := ⟨_, rfl⟩
  go_wp2
  refine region_told [some true, some false, some true, none, some false, none, some true, some true, some true, some true, some false, some true, some true, none, some false, none, some true, some true] (Nw y1) (by as_aux_lemma => kernel_rfl) (by as_aux_lemma => kernel_rfl) (by as_aux_lemma => kernel_rfl) q1 ?_
  rw [hwc] at q1 ⊢
  clear hwc
  repeat (first
    | (refine HW.off ?_)
    | (refine HW.take' ?_; (first | (refine ⟨undef, Or.inr ⟨by rfl, rfl⟩, ?_⟩) | (apply Exists.intro; refine ⟨Or.inl ⟨by rfl, ?_⟩, ?_⟩; (intro x hx; go_simp; first | done | with_reducible rfl))); (try simp only [Act.put, List.setIfInBounds_toArray, List.set_cons_zero, List.set_cons_succ]))
    | (refine HW.go (fun K hK => ?_); go_simp; (first
      | (go_at_call 6; (with_reducible refine (HCk.out _ q1).mono ?_); rintro e wy ⟨rfl, g2⟩; refine hK.out _ _ (q1.trans g2) ?_; intro _; replace q1 := q1.trans g2; clear hK K g2)
      | (go_at_call 7; (with_reducible refine (HRk.out _ q1).mono ?_); rintro e wy ⟨rfl, g2⟩; refine hK.out _ _ (q1.trans g2) ?_; intro _; replace q1 := q1.trans g2; clear hK K g2)
      | (go_at_call 8; (with_reducible refine (HSd.out _ q1).mono ?_); rintro e wy ⟨rfl, g2⟩; refine hK.out _ _ (q1.trans g2) ?_; intro _; replace q1 := q1.trans g2; clear hK K g2)
      | (go_at_call 9; (with_reducible refine (HSr.out _ q1).mono ?_); rintro e wy ⟨rfl, g2⟩; refine hK.out _ _ (q1.trans g2) ?_; intro _; replace q1 := q1.trans g2; clear hK K g2)
      | (refine hK.out _ _ q1 ?_; intro _; clear hK K))))
  refine HW.end_ ?_
  refine NoPanic.normal ?_
  have HQ := Lib.hid q1
  clear q1 s0 s1 s2 s3 o0 o1 o2 o3 HCk HSd HSr
  replace HB := Lib.hid (And.intro (HQ.out.at' HB.out.1) (And.intro (HQ.out.at' HB.out.2.1) (HB.out.2.2.trans HQ.out)))
  replace HR := Lib.hid (And.intro (HR.out.1.nw HQ.out) (HR.out.2.nw HQ.out))
  have c0 := hcell (j := 0) HB.out.1
  have c1 := hcell (j := 1) HB.out.1
  have c2 := hcell (j := 2) HB.out.1
  have c3 := hcell (j := 3) HB.out.1
  have cl := hlt HB.out.1
  go_wp2_with fail
  go_at_call 7
  refine (HRk.out _ HQ.out).mono ?_
  rintro e y2 ⟨rfl, g⟩
  clear c0 c1 c2 c3 cl
  replace HB := Lib.hid (And.intro (g.at' HB.out.1) (And.intro (g.at' HB.out.2.1) (HB.out.2.2.trans g)))
  replace HR := Lib.hid (And.intro (HR.out.1.nw g) (HR.out.2.nw g))
  clear g HQ HRk
  by_cases hok : okQ W q = true
  rotate_left
  · obtain rfl : cv = 2 := by rw [← HC0.out, if_neg hok]
    clear hok
    go_wp2
    go_ret
    exact ⟨rfl, HB.out.2.2⟩
  obtain rfl : cv = 0 := by rw [← HC0.out, if_pos hok]
  have HOk := Lib.hid ((okQ_iff W q).1 hok)
  clear hok HC0
  have hq12 : q.length ≤ 12 := by have := HNn.out.1; have := HN12.out.1; omega
  have HQl := Lib.hid hq12
  clear hq12
  have HOw := Lib.hid (fun (z : World) (hz : RqAt z (.slice a n c) q) => cOwn t r W (.slice a n c) q n HNn.out.1 HN12.out.1 z hz)
  have HDA := Lib.hid (fun (z : World) (ax : Option Addr) (kx : Nat) (hz : RqAt z (.slice ax n kx) q) => (dAsk t r W id txn m (.slice ax n kx) q z (by have := HQl.out; omega) HOk.out hz).mono fun _ _ hh => hh.x)
  have HRA := Lib.hid (fun (z : World) (hz : RqAt z (.slice a n c) q) => (r9ask t r W id txn m (.slice a n c) q z (by have := HQl.out; omega) HOk.out hz).mono fun _ _ hh => hh.x)
  have hlen := ask_lenR ⟨t, r, W, q⟩ id txn m HQl.out
  obtain ⟨X, hX⟩ : ∃ X, askR ⟨t, r, W, q⟩ id txn m = X := ⟨_, rfl⟩
  rw [hX] at HDA HRA hlen
  clear hX
  obtain ⟨xtA, hxt⟩ : ∃ z, X.1.t = z := ⟨_, rfl⟩
  obtain ⟨xrA, hxr⟩ : ∃ z, X.1.r = z := ⟨_, rfl⟩
  obtain ⟨xWA, hxW⟩ : ∃ z, X.1.W = z := ⟨_, rfl⟩
  obtain ⟨xnA, hxn⟩ : ∃ z, X.1.q.length = z := ⟨_, rfl⟩
  obtain ⟨xqA, hxq⟩ : ∃ z, X.1.q = z := ⟨_, rfl⟩
  obtain ⟨xbA, hxb⟩ : ∃ z, X.2.1 = z := ⟨_, rfl⟩
  obtain ⟨xeA, hxe⟩ : ∃ z, X.2.2 = z := ⟨_, rfl⟩
  rw [hxt, hxr, hxW, hxn, hxq, hxb, hxe] at HDA HRA
  rw [hxq] at hlen
  have HLenA := Lib.hid hlen
  clear hlen hxt hxr hxW hxn hxq hxb hxe
  unfold HX2 hdV at HDA HRA
  have HDU := Lib.hid (fun (z : World) (ax : Option Addr) (kx : Nat) (hz : RqAt z (.slice ax n kx) q) => (dUpgrade t r W id m (.slice ax n kx) q z (by have := HQl.out; omega) HOk.out hz).mono fun _ _ hh => hh.x)
  have HRU := Lib.hid (fun (z : World) (hz : RqAt z (.slice a n c) q) => (r9upgrade t r W id m (.slice a n c) q z (by have := HQl.out; omega) HOk.out hz).mono fun _ _ hh => hh.x)
  have hlen := up_lenR ⟨t, r, W, q⟩ id m HQl.out
  obtain ⟨X, hX⟩ : ∃ X, upR ⟨t, r, W, q⟩ id m = X := ⟨_, rfl⟩
  rw [hX] at HDU HRU hlen
  clear hX
  obtain ⟨xtU, hxt⟩ : ∃ z, X.1.t = z := ⟨_, rfl⟩
  obtain ⟨xrU, hxr⟩ : ∃ z, X.1.r = z := ⟨_, rfl⟩
  obtain ⟨xWU, hxW⟩ : ∃ z, X.1.W = z := ⟨_, rfl⟩
  obtain ⟨xnU, hxn⟩ : ∃ z, X.1.q.length = z := ⟨_, rfl⟩
  obtain ⟨xqU, hxq⟩ : ∃ z, X.1.q = z := ⟨_, rfl⟩
  obtain ⟨xbU, hxb⟩ : ∃ z, X.2.1 = z := ⟨_, rfl⟩
  obtain ⟨xeU, hxe⟩ : ∃ z, X.2.2 = z := ⟨_, rfl⟩
  rw [hxt, hxr, hxW, hxn, hxq, hxb, hxe] at HDU HRU
  rw [hxq] at hlen
  have HLenU := Lib.hid hlen
  clear hlen hxt hxr hxW hxn hxq hxb hxe
  unfold HX2 hdV at HDU HRU
  have HDL := Lib.hid (fun (z : World) (ax : Option Addr) (kx : Nat) (hz : RqAt z (.slice ax n kx) q) => (dLeave t r W id (.slice ax n kx) q z (by have := HQl.out; omega) hz).mono fun _ _ hh => hh.x)
  have HRL := Lib.hid (fun (z : World) (hz : RqAt z (.slice a n c) q) => (r9leave t r W id (.slice a n c) q z (by have := HQl.out; omega) HOk.out HFc.out.1 hz).mono fun _ _ hh => hh.x)
  have hlen := lv_lenR ⟨t, r, W, q⟩ id HQl.out
  obtain ⟨X, hX⟩ : ∃ X, lvR ⟨t, r, W, q⟩ id = X := ⟨_, rfl⟩
  rw [hX] at HDL HRL hlen
  clear hX
  obtain ⟨xtL, hxt⟩ : ∃ z, X.1.t = z := ⟨_, rfl⟩
  obtain ⟨xrL, hxr⟩ : ∃ z, X.1.r = z := ⟨_, rfl⟩
  obtain ⟨xWL, hxW⟩ : ∃ z, X.1.W = z := ⟨_, rfl⟩
  obtain ⟨xnL, hxn⟩ : ∃ z, X.1.q.length = z := ⟨_, rfl⟩
  obtain ⟨xqL, hxq⟩ : ∃ z, X.1.q = z := ⟨_, rfl⟩
  obtain ⟨xeL, hxe⟩ : ∃ z, X.2 = z := ⟨_, rfl⟩
  rw [hxt, hxr, hxW, hxn, hxq, hxe] at HDL HRL
  rw [hxq] at hlen
  have HLenL := Lib.hid hlen
  clear hlen hxt hxr hxW hxn hxq hxe
  unfold HX1 hdV at HDL HRL
  have HDB := Lib.hid (fun (z : World) (ax : Option Addr) (kx : Nat) (hz : RqAt z (.slice ax n kx) q) => (dAbandon t r W id (.slice ax n kx) q z (by have := HQl.out; omega) HOk.out hz).mono fun _ _ hh => hh.x)
  have HRB := Lib.hid (fun (z : World) (hz : RqAt z (.slice a n c) q) => (r9abandon t r W id (.slice a n c) q z (by have := HQl.out; omega) HOk.out HFc.out.1 hz).mono fun _ _ hh => hh.x)
  have hlen := ab_lenR ⟨t, r, W, q⟩ id HQl.out
  obtain ⟨X, hX⟩ : ∃ X, abRes ⟨t, r, W, q⟩ id = X := ⟨_, rfl⟩
  rw [hX] at HDB HRB hlen
  clear hX
  obtain ⟨xtB, hxt⟩ : ∃ z, X.1.t = z := ⟨_, rfl⟩
  obtain ⟨xrB, hxr⟩ : ∃ z, X.1.r = z := ⟨_, rfl⟩
  obtain ⟨xWB, hxW⟩ : ∃ z, X.1.W = z := ⟨_, rfl⟩
  obtain ⟨xnB, hxn⟩ : ∃ z, X.1.q.length = z := ⟨_, rfl⟩
  obtain ⟨xqB, hxq⟩ : ∃ z, X.1.q = z := ⟨_, rfl⟩
  obtain ⟨xeB, hxe⟩ : ∃ z, X.2 = z := ⟨_, rfl⟩
  rw [hxt, hxr, hxW, hxn, hxq, hxe] at HDB HRB
  rw [hxq] at hlen
  have HLenB := Lib.hid hlen
  clear hlen hxt hxr hxW hxn hxq hxe
  unfold HX1 hdV at HDB HRB
  have HDH := Lib.hid (fun (z : World) (ax : Option Addr) (kx : Nat) (hz : RqAt z (.slice ax n kx) q) => (dHand t r W id txn (.slice ax n kx) q z (by have := HQl.out; omega) HOk.out hz).mono fun _ _ hh => hh.x)
  have HRH := Lib.hid (fun (z : World) (hz : RqAt z (.slice a n c) q) => (r9hand t r W id txn (.slice a n c) q z (by have := HQl.out; omega) HOk.out HFc.out.1 hz).mono fun _ _ hh => hh.x)
  have hlen := hn_lenR ⟨t, r, W, q⟩ id txn HQl.out
  obtain ⟨X, hX⟩ : ∃ X, hnR ⟨t, r, W, q⟩ id txn = X := ⟨_, rfl⟩
  rw [hX] at HDH HRH hlen
  clear hX
  obtain ⟨xtH, hxt⟩ : ∃ z, X.1.t = z := ⟨_, rfl⟩
  obtain ⟨xrH, hxr⟩ : ∃ z, X.1.r = z := ⟨_, rfl⟩
  obtain ⟨xWH, hxW⟩ : ∃ z, X.1.W = z := ⟨_, rfl⟩
  obtain ⟨xnH, hxn⟩ : ∃ z, X.1.q.length = z := ⟨_, rfl⟩
  obtain ⟨xqH, hxq⟩ : ∃ z, X.1.q = z := ⟨_, rfl⟩
  obtain ⟨xeH, hxe⟩ : ∃ z, X.2 = z := ⟨_, rfl⟩
  rw [hxt, hxr, hxW, hxn, hxq, hxe] at HDH HRH
  rw [hxq] at hlen
  have HLenH := Lib.hid hlen
  clear hlen hxt hxr hxW hxn hxq hxe
  unfold HX1 hdV at HDH HRH
  unfold hdV at HOw
  have c0 := hcell (j := 0) HB.out.1
  have c1 := hcell (j := 1) HB.out.1
  have c2 := hcell (j := 2) HB.out.1
  have c3 := hcell (j := 3) HB.out.1
  have cl := hlt HB.out.1
  go_wp2_with fail
  clear c0 c1 c2 c3 cl
  go_at_call 11
  refine (HOw.out _ HR.out.1).mono ?_
  rintro e y3 ⟨ao1, ko1, rfl, g, hRo⟩
  have HRo := Lib.hid hRo
  clear hRo
  replace HB := Lib.hid (And.intro (g.at' HB.out.1) (And.intro (g.at' HB.out.2.1) (HB.out.2.2.trans g)))
  replace HR := Lib.hid (And.intro (HR.out.1.nw g) (HR.out.2.nw g))
  clear g
  go_wp2_with fail
  go_at_call 10
  refine (HDA.out _ _ _ HRo.out).mono ?_
  rintro e y4 ⟨ar1, kr1, rfl, g, hRn⟩
  have HRn := Lib.hid hRn
  clear hRn HRo
  replace HB := Lib.hid (And.intro (g.at' HB.out.1) (And.intro (g.at' HB.out.2.1) (HB.out.2.2.trans g)))
  replace HR := Lib.hid (And.intro (HR.out.1.nw g) (HR.out.2.nw g))
  clear g
  have c0 := hcell (j := 0) HB.out.1
  have c1 := hcell (j := 1) HB.out.1
  have c2 := hcell (j := 2) HB.out.1
  have c3 := hcell (j := 3) HB.out.1
  have cl := hlt HB.out.1
  have hb := allocAt y4 (.cells #[.int .i64 xtA, .int .i64 xrA, .slice ar1 xnA kr1, .int .i64 xWA] 26)
  obtain ⟨y5, hu⟩ : ∃ x, y4.alloc (.cells #[.int .i64 xtA, .int .i64 xrA, .slice ar1 xnA kr1, .int .i64 xWA] 26) = x := ⟨_, rfl⟩
  have g : Nw y4 y5 := by rw [← hu]; exact (Nw.refl _).alloc _
  rw [hu] at hb
  obtain ⟨BHX1, hB⟩ : ∃ x, y4.heap.size = x := ⟨_, rfl⟩
  rw [hB] at hb
  have HE := Lib.hid (And.intro hu hB)
  replace HB := Lib.hid (And.intro (g.at' HB.out.1) (And.intro (g.at' HB.out.2.1) (HB.out.2.2.trans g)))
  replace HR := Lib.hid (And.intro (HR.out.1.nw g) (HR.out.2.nw g))
  have HX1 := Lib.hid (And.intro hb (HRn.out.nw g))
  clear hb hu hB g HRn
  go_wp2_with fail
  rw [HE.out.1, HE.out.2]
  clear HE
  clear c0 c1 c2 c3 cl
  go_at_call 12
  refine (HRA.out _ HR.out.1).mono ?_
  rintro e y6 ⟨ar2, kr2, rfl, g, hRn⟩
  have HRn := Lib.hid hRn
  clear hRn
  replace HB := Lib.hid (And.intro (g.at' HB.out.1) (And.intro (g.at' HB.out.2.1) (HB.out.2.2.trans g)))
  replace HR := Lib.hid (And.intro (HR.out.1.nw g) (HR.out.2.nw g))
  replace HX1 := Lib.hid (And.intro (g.at' HX1.out.1) (HX1.out.2.nw g))
  clear g
  have c0 := hcell (j := 0) HB.out.1
  have c1 := hcell (j := 1) HB.out.1
  have c2 := hcell (j := 2) HB.out.1
  have c3 := hcell (j := 3) HB.out.1
  have cl := hlt HB.out.1
  have hb := allocAt y6 (.cells #[.int .i64 xtA, .int .i64 xrA, .slice ar2 xnA kr2, .int .i64 xWA] 26)
  obtain ⟨y7, hu⟩ : ∃ x, y6.alloc (.cells #[.int .i64 xtA, .int .i64 xrA, .slice ar2 xnA kr2, .int .i64 xWA] 26) = x := ⟨_, rfl⟩
  have g : Nw y6 y7 := by rw [← hu]; exact (Nw.refl _).alloc _
  rw [hu] at hb
  obtain ⟨BHX2, hB⟩ : ∃ x, y6.heap.size = x := ⟨_, rfl⟩
  rw [hB] at hb
  have HE := Lib.hid (And.intro hu hB)
  replace HB := Lib.hid (And.intro (g.at' HB.out.1) (And.intro (g.at' HB.out.2.1) (HB.out.2.2.trans g)))
  replace HR := Lib.hid (And.intro (HR.out.1.nw g) (HR.out.2.nw g))
  replace HX1 := Lib.hid (And.intro (g.at' HX1.out.1) (HX1.out.2.nw g))
  have HX2 := Lib.hid (And.intro hb (HRn.out.nw g))
  clear hb hu hB g HRn
  go_wp2_with fail
  rw [HE.out.1, HE.out.2]
  clear HE
  clear c0 c1 c2 c3 cl
  go_at_call 11
  refine (HOw.out _ HR.out.1).mono ?_
  rintro e y8 ⟨ao3, ko3, rfl, g, hRo⟩
  have HRo := Lib.hid hRo
  clear hRo
  replace HB := Lib.hid (And.intro (g.at' HB.out.1) (And.intro (g.at' HB.out.2.1) (HB.out.2.2.trans g)))
  replace HR := Lib.hid (And.intro (HR.out.1.nw g) (HR.out.2.nw g))
  replace HX1 := Lib.hid (And.intro (g.at' HX1.out.1) (HX1.out.2.nw g))
  replace HX2 := Lib.hid (And.intro (g.at' HX2.out.1) (HX2.out.2.nw g))
  clear g
  go_wp2_with fail
  go_at_call 13
  refine (HDU.out _ _ _ HRo.out).mono ?_
  rintro e y9 ⟨ar3, kr3, rfl, g, hRn⟩
  have HRn := Lib.hid hRn
  clear hRn HRo
  replace HB := Lib.hid (And.intro (g.at' HB.out.1) (And.intro (g.at' HB.out.2.1) (HB.out.2.2.trans g)))
  replace HR := Lib.hid (And.intro (HR.out.1.nw g) (HR.out.2.nw g))
  replace HX1 := Lib.hid (And.intro (g.at' HX1.out.1) (HX1.out.2.nw g))
  replace HX2 := Lib.hid (And.intro (g.at' HX2.out.1) (HX2.out.2.nw g))
  clear g
  have c0 := hcell (j := 0) HB.out.1
  have c1 := hcell (j := 1) HB.out.1
  have c2 := hcell (j := 2) HB.out.1
  have c3 := hcell (j := 3) HB.out.1
  have cl := hlt HB.out.1
  have hb := allocAt y9 (.cells #[.int .i64 xtU, .int .i64 xrU, .slice ar3 xnU kr3, .int .i64 xWU] 26)
  obtain ⟨y10, hu⟩ : ∃ x, y9.alloc (.cells #[.int .i64 xtU, .int .i64 xrU, .slice ar3 xnU kr3, .int .i64 xWU] 26) = x := ⟨_, rfl⟩
  have g : Nw y9 y10 := by rw [← hu]; exact (Nw.refl _).alloc _
  rw [hu] at hb
  obtain ⟨BHX3, hB⟩ : ∃ x, y9.heap.size = x := ⟨_, rfl⟩
  rw [hB] at hb
  have HE := Lib.hid (And.intro hu hB)
  replace HB := Lib.hid (And.intro (g.at' HB.out.1) (And.intro (g.at' HB.out.2.1) (HB.out.2.2.trans g)))
  replace HR := Lib.hid (And.intro (HR.out.1.nw g) (HR.out.2.nw g))
  replace HX1 := Lib.hid (And.intro (g.at' HX1.out.1) (HX1.out.2.nw g))
  replace HX2 := Lib.hid (And.intro (g.at' HX2.out.1) (HX2.out.2.nw g))
  have HX3 := Lib.hid (And.intro hb (HRn.out.nw g))
  clear hb hu hB g HRn
  go_wp2_with fail
  rw [HE.out.1, HE.out.2]
  clear HE
  clear c0 c1 c2 c3 cl
  go_at_call 14
  refine (HRU.out _ HR.out.1).mono ?_
  rintro e y11 ⟨ar4, kr4, rfl, g, hRn⟩
  have HRn := Lib.hid hRn
  clear hRn
  replace HB := Lib.hid (And.intro (g.at' HB.out.1) (And.intro (g.at' HB.out.2.1) (HB.out.2.2.trans g)))
  replace HR := Lib.hid (And.intro (HR.out.1.nw g) (HR.out.2.nw g))
  replace HX1 := Lib.hid (And.intro (g.at' HX1.out.1) (HX1.out.2.nw g))
  replace HX2 := Lib.hid (And.intro (g.at' HX2.out.1) (HX2.out.2.nw g))
  replace HX3 := Lib.hid (And.intro (g.at' HX3.out.1) (HX3.out.2.nw g))
  clear g
  clear HDA HRA HDU HRU
  have c0 := hcell (j := 0) HX1.out.1
  have c1 := hcell (j := 1) HX1.out.1
  have c2 := hcell (j := 2) HX1.out.1
  have c3 := hcell (j := 3) HX1.out.1
  have cl := hlt HX1.out.1
  have d0 := hcell (j := 0) HX2.out.1
  have d1 := hcell (j := 1) HX2.out.1
  have d2 := hcell (j := 2) HX2.out.1
  have d3 := hcell (j := 3) HX2.out.1
  have dl := hlt HX2.out.1
  have hb := allocAt y11 (.cells #[.int .i64 xtU, .int .i64 xrU, .slice ar4 xnU kr4, .int .i64 xWU] 26)
  obtain ⟨y12, hu⟩ : ∃ x, y11.alloc (.cells #[.int .i64 xtU, .int .i64 xrU, .slice ar4 xnU kr4, .int .i64 xWU] 26) = x := ⟨_, rfl⟩
  have g : Nw y11 y12 := by rw [← hu]; exact (Nw.refl _).alloc _
  rw [hu] at hb
  obtain ⟨BHX4, hB⟩ : ∃ x, y11.heap.size = x := ⟨_, rfl⟩
  rw [hB] at hb
  have HE := Lib.hid (And.intro hu hB)
  replace HB := Lib.hid (And.intro (g.at' HB.out.1) (And.intro (g.at' HB.out.2.1) (HB.out.2.2.trans g)))
  replace HR := Lib.hid (And.intro (HR.out.1.nw g) (HR.out.2.nw g))
  replace HX1 := Lib.hid (And.intro (g.at' HX1.out.1) (HX1.out.2.nw g))
  replace HX2 := Lib.hid (And.intro (g.at' HX2.out.1) (HX2.out.2.nw g))
  replace HX3 := Lib.hid (And.intro (g.at' HX3.out.1) (HX3.out.2.nw g))
  have HX4 := Lib.hid (And.intro hb (HRn.out.nw g))
  clear hb hu hB g HRn
  go_wp2_with fail
  rw [HE.out.1, HE.out.2]
  clear HE
  clear c0 c1 c2 c3 d0 d1 d2 d3 cl dl
  have HSm := Lib.hid (fun (z : World) (hz : Nw y12 z) => cSame xtA xrA xWA (.slice ar1 xnA kr1) (.slice ar2 xnA kr2) xqA z (by have := HLenA.out; omega) (HX1.out.2.nw hz) (HX2.out.2.nw hz))
  unfold hdV at HSm
  go_at_call 9
  refine (HSm.out _ (Nw.refl _)).mono ?_
  rintro e y13 ⟨rfl, g⟩
  replace HB := Lib.hid (And.intro (g.at' HB.out.1) (And.intro (g.at' HB.out.2.1) (HB.out.2.2.trans g)))
  replace HR := Lib.hid (And.intro (HR.out.1.nw g) (HR.out.2.nw g))
  replace HX1 := Lib.hid (And.intro (g.at' HX1.out.1) (HX1.out.2.nw g))
  replace HX2 := Lib.hid (And.intro (g.at' HX2.out.1) (HX2.out.2.nw g))
  replace HX3 := Lib.hid (And.intro (g.at' HX3.out.1) (HX3.out.2.nw g))
  replace HX4 := Lib.hid (And.intro (g.at' HX4.out.1) (HX4.out.2.nw g))
  clear g
  clear HSm HX1 HX2 HLenA
  have c0 := hcell (j := 0) HX3.out.1
  have c1 := hcell (j := 1) HX3.out.1
  have c2 := hcell (j := 2) HX3.out.1
  have c3 := hcell (j := 3) HX3.out.1
  have cl := hlt HX3.out.1
  have d0 := hcell (j := 0) HX4.out.1
  have d1 := hcell (j := 1) HX4.out.1
  have d2 := hcell (j := 2) HX4.out.1
  have d3 := hcell (j := 3) HX4.out.1
  have dl := hlt HX4.out.1
  go_wp2_with fail
  clear c0 c1 c2 c3 d0 d1 d2 d3 cl dl
  have HSm := Lib.hid (fun (z : World) (hz : Nw y13 z) => cSame xtU xrU xWU (.slice ar3 xnU kr3) (.slice ar4 xnU kr4) xqU z (by have := HLenU.out; omega) (HX3.out.2.nw hz) (HX4.out.2.nw hz))
  unfold hdV at HSm
  go_at_call 9
  refine (HSm.out _ (Nw.refl _)).mono ?_
  rintro e y14 ⟨rfl, g⟩
  replace HB := Lib.hid (And.intro (g.at' HB.out.1) (And.intro (g.at' HB.out.2.1) (HB.out.2.2.trans g)))
  replace HR := Lib.hid (And.intro (HR.out.1.nw g) (HR.out.2.nw g))
  replace HX3 := Lib.hid (And.intro (g.at' HX3.out.1) (HX3.out.2.nw g))
  replace HX4 := Lib.hid (And.intro (g.at' HX4.out.1) (HX4.out.2.nw g))
  clear g
  clear HSm HX3 HX4 HLenU
  have c0 := hcell (j := 0) HB.out.1
  have c1 := hcell (j := 1) HB.out.1
  have c2 := hcell (j := 2) HB.out.1
  have c3 := hcell (j := 3) HB.out.1
  have cl := hlt HB.out.1
  go_wp2_with fail
  clear c0 c1 c2 c3 cl
  go_at_call 11
  refine (HOw.out _ HR.out.1).mono ?_
  rintro e y15 ⟨ao5, ko5, rfl, g, hRo⟩
  have HRo := Lib.hid hRo
  clear hRo
  replace HB := Lib.hid (And.intro (g.at' HB.out.1) (And.intro (g.at' HB.out.2.1) (HB.out.2.2.trans g)))
  replace HR := Lib.hid (And.intro (HR.out.1.nw g) (HR.out.2.nw g))
  clear g
  go_wp2_with fail
  go_at_call 15
  refine (HDL.out _ _ _ HRo.out).mono ?_
  rintro e y16 ⟨ar5, kr5, rfl, g, hRn⟩
  have HRn := Lib.hid hRn
  clear hRn HRo
  replace HB := Lib.hid (And.intro (g.at' HB.out.1) (And.intro (g.at' HB.out.2.1) (HB.out.2.2.trans g)))
  replace HR := Lib.hid (And.intro (HR.out.1.nw g) (HR.out.2.nw g))
  clear g
  have c0 := hcell (j := 0) HB.out.1
  have c1 := hcell (j := 1) HB.out.1
  have c2 := hcell (j := 2) HB.out.1
  have c3 := hcell (j := 3) HB.out.1
  have cl := hlt HB.out.1
  have hb := allocAt y16 (.cells #[.int .i64 xtL, .int .i64 xrL, .slice ar5 xnL kr5, .int .i64 xWL] 26)
  obtain ⟨y17, hu⟩ : ∃ x, y16.alloc (.cells #[.int .i64 xtL, .int .i64 xrL, .slice ar5 xnL kr5, .int .i64 xWL] 26) = x := ⟨_, rfl⟩
  have g : Nw y16 y17 := by rw [← hu]; exact (Nw.refl _).alloc _
  rw [hu] at hb
  obtain ⟨BHX5, hB⟩ : ∃ x, y16.heap.size = x := ⟨_, rfl⟩
  rw [hB] at hb
  have HE := Lib.hid (And.intro hu hB)
  replace HB := Lib.hid (And.intro (g.at' HB.out.1) (And.intro (g.at' HB.out.2.1) (HB.out.2.2.trans g)))
  replace HR := Lib.hid (And.intro (HR.out.1.nw g) (HR.out.2.nw g))
  have HX5 := Lib.hid (And.intro hb (HRn.out.nw g))
  clear hb hu hB g HRn
  go_wp2_with fail
  rw [HE.out.1, HE.out.2]
  clear HE
  clear c0 c1 c2 c3 cl
  go_at_call 16
  refine (HRL.out _ HR.out.1).mono ?_
  rintro e y18 ⟨ar6, kr6, rfl, g, hRn⟩
  have HRn := Lib.hid hRn
  clear hRn
  replace HB := Lib.hid (And.intro (g.at' HB.out.1) (And.intro (g.at' HB.out.2.1) (HB.out.2.2.trans g)))
  replace HR := Lib.hid (And.intro (HR.out.1.nw g) (HR.out.2.nw g))
  replace HX5 := Lib.hid (And.intro (g.at' HX5.out.1) (HX5.out.2.nw g))
  clear g
  have c0 := hcell (j := 0) HB.out.1
  have c1 := hcell (j := 1) HB.out.1
  have c2 := hcell (j := 2) HB.out.1
  have c3 := hcell (j := 3) HB.out.1
  have cl := hlt HB.out.1
  have hb := allocAt y18 (.cells #[.int .i64 xtL, .int .i64 xrL, .slice ar6 xnL kr6, .int .i64 xWL] 26)
  obtain ⟨y19, hu⟩ : ∃ x, y18.alloc (.cells #[.int .i64 xtL, .int .i64 xrL, .slice ar6 xnL kr6, .int .i64 xWL] 26) = x := ⟨_, rfl⟩
  have g : Nw y18 y19 := by rw [← hu]; exact (Nw.refl _).alloc _
  rw [hu] at hb
  obtain ⟨BHX6, hB⟩ : ∃ x, y18.heap.size = x := ⟨_, rfl⟩
  rw [hB] at hb
  have HE := Lib.hid (And.intro hu hB)
  replace HB := Lib.hid (And.intro (g.at' HB.out.1) (And.intro (g.at' HB.out.2.1) (HB.out.2.2.trans g)))
  replace HR := Lib.hid (And.intro (HR.out.1.nw g) (HR.out.2.nw g))
  replace HX5 := Lib.hid (And.intro (g.at' HX5.out.1) (HX5.out.2.nw g))
  have HX6 := Lib.hid (And.intro hb (HRn.out.nw g))
  clear hb hu hB g HRn
  go_wp2_with fail
  rw [HE.out.1, HE.out.2]
  clear HE
  clear c0 c1 c2 c3 cl
  go_at_call 11
  refine (HOw.out _ HR.out.1).mono ?_
  rintro e y20 ⟨ao7, ko7, rfl, g, hRo⟩
  have HRo := Lib.hid hRo
  clear hRo
  replace HB := Lib.hid (And.intro (g.at' HB.out.1) (And.intro (g.at' HB.out.2.1) (HB.out.2.2.trans g)))
  replace HR := Lib.hid (And.intro (HR.out.1.nw g) (HR.out.2.nw g))
  replace HX5 := Lib.hid (And.intro (g.at' HX5.out.1) (HX5.out.2.nw g))
  replace HX6 := Lib.hid (And.intro (g.at' HX6.out.1) (HX6.out.2.nw g))
  clear g
  go_wp2_with fail
  go_at_call 17
  refine (HDB.out _ _ _ HRo.out).mono ?_
  rintro e y21 ⟨ar7, kr7, rfl, g, hRn⟩
  have HRn := Lib.hid hRn
  clear hRn HRo
  replace HB := Lib.hid (And.intro (g.at' HB.out.1) (And.intro (g.at' HB.out.2.1) (HB.out.2.2.trans g)))
  replace HR := Lib.hid (And.intro (HR.out.1.nw g) (HR.out.2.nw g))
  replace HX5 := Lib.hid (And.intro (g.at' HX5.out.1) (HX5.out.2.nw g))
  replace HX6 := Lib.hid (And.intro (g.at' HX6.out.1) (HX6.out.2.nw g))
  clear g
  have c0 := hcell (j := 0) HB.out.1
  have c1 := hcell (j := 1) HB.out.1
  have c2 := hcell (j := 2) HB.out.1
  have c3 := hcell (j := 3) HB.out.1
  have cl := hlt HB.out.1
  have hb := allocAt y21 (.cells #[.int .i64 xtB, .int .i64 xrB, .slice ar7 xnB kr7, .int .i64 xWB] 26)
  obtain ⟨y22, hu⟩ : ∃ x, y21.alloc (.cells #[.int .i64 xtB, .int .i64 xrB, .slice ar7 xnB kr7, .int .i64 xWB] 26) = x := ⟨_, rfl⟩
  have g : Nw y21 y22 := by rw [← hu]; exact (Nw.refl _).alloc _
  rw [hu] at hb
  obtain ⟨BHX7, hB⟩ : ∃ x, y21.heap.size = x := ⟨_, rfl⟩
  rw [hB] at hb
  have HE := Lib.hid (And.intro hu hB)
  replace HB := Lib.hid (And.intro (g.at' HB.out.1) (And.intro (g.at' HB.out.2.1) (HB.out.2.2.trans g)))
  replace HR := Lib.hid (And.intro (HR.out.1.nw g) (HR.out.2.nw g))
  replace HX5 := Lib.hid (And.intro (g.at' HX5.out.1) (HX5.out.2.nw g))
  replace HX6 := Lib.hid (And.intro (g.at' HX6.out.1) (HX6.out.2.nw g))
  have HX7 := Lib.hid (And.intro hb (HRn.out.nw g))
  clear hb hu hB g HRn
  go_wp2_with fail
  rw [HE.out.1, HE.out.2]
  clear HE
  clear c0 c1 c2 c3 cl
  go_at_call 18
  refine (HRB.out _ HR.out.1).mono ?_
  rintro e y23 ⟨ar8, kr8, rfl, g, hRn⟩
  have HRn := Lib.hid hRn
  clear hRn
  replace HB := Lib.hid (And.intro (g.at' HB.out.1) (And.intro (g.at' HB.out.2.1) (HB.out.2.2.trans g)))
  replace HR := Lib.hid (And.intro (HR.out.1.nw g) (HR.out.2.nw g))
  replace HX5 := Lib.hid (And.intro (g.at' HX5.out.1) (HX5.out.2.nw g))
  replace HX6 := Lib.hid (And.intro (g.at' HX6.out.1) (HX6.out.2.nw g))
  replace HX7 := Lib.hid (And.intro (g.at' HX7.out.1) (HX7.out.2.nw g))
  clear g
  have c0 := hcell (j := 0) HB.out.1
  have c1 := hcell (j := 1) HB.out.1
  have c2 := hcell (j := 2) HB.out.1
  have c3 := hcell (j := 3) HB.out.1
  have cl := hlt HB.out.1
  have hb := allocAt y23 (.cells #[.int .i64 xtB, .int .i64 xrB, .slice ar8 xnB kr8, .int .i64 xWB] 26)
  obtain ⟨y24, hu⟩ : ∃ x, y23.alloc (.cells #[.int .i64 xtB, .int .i64 xrB, .slice ar8 xnB kr8, .int .i64 xWB] 26) = x := ⟨_, rfl⟩
  have g : Nw y23 y24 := by rw [← hu]; exact (Nw.refl _).alloc _
  rw [hu] at hb
  obtain ⟨BHX8, hB⟩ : ∃ x, y23.heap.size = x := ⟨_, rfl⟩
  rw [hB] at hb
  have HE := Lib.hid (And.intro hu hB)
  replace HB := Lib.hid (And.intro (g.at' HB.out.1) (And.intro (g.at' HB.out.2.1) (HB.out.2.2.trans g)))
  replace HR := Lib.hid (And.intro (HR.out.1.nw g) (HR.out.2.nw g))
  replace HX5 := Lib.hid (And.intro (g.at' HX5.out.1) (HX5.out.2.nw g))
  replace HX6 := Lib.hid (And.intro (g.at' HX6.out.1) (HX6.out.2.nw g))
  replace HX7 := Lib.hid (And.intro (g.at' HX7.out.1) (HX7.out.2.nw g))
  have HX8 := Lib.hid (And.intro hb (HRn.out.nw g))
  clear hb hu hB g HRn
  go_wp2_with fail
  rw [HE.out.1, HE.out.2]
  clear HE
  clear c0 c1 c2 c3 cl
  go_at_call 11
  refine (HOw.out _ HR.out.1).mono ?_
  rintro e y25 ⟨ao9, ko9, rfl, g, hRo⟩
  have HRo := Lib.hid hRo
  clear hRo
  replace HB := Lib.hid (And.intro (g.at' HB.out.1) (And.intro (g.at' HB.out.2.1) (HB.out.2.2.trans g)))
  replace HR := Lib.hid (And.intro (HR.out.1.nw g) (HR.out.2.nw g))
  replace HX5 := Lib.hid (And.intro (g.at' HX5.out.1) (HX5.out.2.nw g))
  replace HX6 := Lib.hid (And.intro (g.at' HX6.out.1) (HX6.out.2.nw g))
  replace HX7 := Lib.hid (And.intro (g.at' HX7.out.1) (HX7.out.2.nw g))
  replace HX8 := Lib.hid (And.intro (g.at' HX8.out.1) (HX8.out.2.nw g))
  clear g
  go_wp2_with fail
  go_at_call 19
  refine (HDH.out _ _ _ HRo.out).mono ?_
  rintro e y26 ⟨ar9, kr9, rfl, g, hRn⟩
  have HRn := Lib.hid hRn
  clear hRn HRo
  replace HB := Lib.hid (And.intro (g.at' HB.out.1) (And.intro (g.at' HB.out.2.1) (HB.out.2.2.trans g)))
  replace HR := Lib.hid (And.intro (HR.out.1.nw g) (HR.out.2.nw g))
  replace HX5 := Lib.hid (And.intro (g.at' HX5.out.1) (HX5.out.2.nw g))
  replace HX6 := Lib.hid (And.intro (g.at' HX6.out.1) (HX6.out.2.nw g))
  replace HX7 := Lib.hid (And.intro (g.at' HX7.out.1) (HX7.out.2.nw g))
  replace HX8 := Lib.hid (And.intro (g.at' HX8.out.1) (HX8.out.2.nw g))
  clear g
  have c0 := hcell (j := 0) HB.out.1
  have c1 := hcell (j := 1) HB.out.1
  have c2 := hcell (j := 2) HB.out.1
  have c3 := hcell (j := 3) HB.out.1
  have cl := hlt HB.out.1
  have hb := allocAt y26 (.cells #[.int .i64 xtH, .int .i64 xrH, .slice ar9 xnH kr9, .int .i64 xWH] 26)
  obtain ⟨y27, hu⟩ : ∃ x, y26.alloc (.cells #[.int .i64 xtH, .int .i64 xrH, .slice ar9 xnH kr9, .int .i64 xWH] 26) = x := ⟨_, rfl⟩
  have g : Nw y26 y27 := by rw [← hu]; exact (Nw.refl _).alloc _
  rw [hu] at hb
  obtain ⟨BHX9, hB⟩ : ∃ x, y26.heap.size = x := ⟨_, rfl⟩
  rw [hB] at hb
  have HE := Lib.hid (And.intro hu hB)
  replace HB := Lib.hid (And.intro (g.at' HB.out.1) (And.intro (g.at' HB.out.2.1) (HB.out.2.2.trans g)))
  replace HR := Lib.hid (And.intro (HR.out.1.nw g) (HR.out.2.nw g))
  replace HX5 := Lib.hid (And.intro (g.at' HX5.out.1) (HX5.out.2.nw g))
  replace HX6 := Lib.hid (And.intro (g.at' HX6.out.1) (HX6.out.2.nw g))
  replace HX7 := Lib.hid (And.intro (g.at' HX7.out.1) (HX7.out.2.nw g))
  replace HX8 := Lib.hid (And.intro (g.at' HX8.out.1) (HX8.out.2.nw g))
  have HX9 := Lib.hid (And.intro hb (HRn.out.nw g))
  clear hb hu hB g HRn
  go_wp2_with fail
  rw [HE.out.1, HE.out.2]
  clear HE
  clear c0 c1 c2 c3 cl
  go_at_call 20
  refine (HRH.out _ HR.out.1).mono ?_
  rintro e y28 ⟨ar10, kr10, rfl, g, hRn⟩
  have HRn := Lib.hid hRn
  clear hRn
  replace HB := Lib.hid (And.intro (g.at' HB.out.1) (And.intro (g.at' HB.out.2.1) (HB.out.2.2.trans g)))
  replace HR := Lib.hid (And.intro (HR.out.1.nw g) (HR.out.2.nw g))
  replace HX5 := Lib.hid (And.intro (g.at' HX5.out.1) (HX5.out.2.nw g))
  replace HX6 := Lib.hid (And.intro (g.at' HX6.out.1) (HX6.out.2.nw g))
  replace HX7 := Lib.hid (And.intro (g.at' HX7.out.1) (HX7.out.2.nw g))
  replace HX8 := Lib.hid (And.intro (g.at' HX8.out.1) (HX8.out.2.nw g))
  replace HX9 := Lib.hid (And.intro (g.at' HX9.out.1) (HX9.out.2.nw g))
  clear g
  clear HDL HRL HDB HRB HDH HRH HOw
  obtain ⟨f0, f1, f2, f3, f4, fb, hfv⟩ := fndV_form q id
  have HFd := Lib.hid (fun (z : World) (hz : RqAt z (.slice a n c) q) => dFindQ t r W id (.slice a n c) q z (by have := HQl.out; omega) hz)
  have HFr := Lib.hid (fun (z : World) (hz : RqAt z (.slice a n c) q) => r9find t r W id (.slice a n c) q z (by have := HQl.out; omega) hz)
  rw [hfv] at HFd HFr
  unfold hdV at HFd HFr
  clear hfv
  have c0 := hcell (j := 0) HB.out.1
  have c1 := hcell (j := 1) HB.out.1
  have c2 := hcell (j := 2) HB.out.1
  have c3 := hcell (j := 3) HB.out.1
  have cl := hlt HB.out.1
  have hb := allocAt y28 (.cells #[.int .i64 xtH, .int .i64 xrH, .slice ar10 xnH kr10, .int .i64 xWH] 26)
  obtain ⟨y29, hu⟩ : ∃ x, y28.alloc (.cells #[.int .i64 xtH, .int .i64 xrH, .slice ar10 xnH kr10, .int .i64 xWH] 26) = x := ⟨_, rfl⟩
  have g : Nw y28 y29 := by rw [← hu]; exact (Nw.refl _).alloc _
  rw [hu] at hb
  obtain ⟨BHX10, hB⟩ : ∃ x, y28.heap.size = x := ⟨_, rfl⟩
  rw [hB] at hb
  have HE := Lib.hid (And.intro hu hB)
  replace HB := Lib.hid (And.intro (g.at' HB.out.1) (And.intro (g.at' HB.out.2.1) (HB.out.2.2.trans g)))
  replace HR := Lib.hid (And.intro (HR.out.1.nw g) (HR.out.2.nw g))
  replace HX5 := Lib.hid (And.intro (g.at' HX5.out.1) (HX5.out.2.nw g))
  replace HX6 := Lib.hid (And.intro (g.at' HX6.out.1) (HX6.out.2.nw g))
  replace HX7 := Lib.hid (And.intro (g.at' HX7.out.1) (HX7.out.2.nw g))
  replace HX8 := Lib.hid (And.intro (g.at' HX8.out.1) (HX8.out.2.nw g))
  replace HX9 := Lib.hid (And.intro (g.at' HX9.out.1) (HX9.out.2.nw g))
  have HX10 := Lib.hid (And.intro hb (HRn.out.nw g))
  clear hb hu hB g HRn
  go_wp2_with fail
  rw [HE.out.1, HE.out.2]
  clear HE
  clear c0 c1 c2 c3 cl
  go_at_call 21
  refine (HFd.out _ HR.out.1).mono ?_
  rintro e y30 ⟨rfl, g⟩
  replace HB := Lib.hid (And.intro (g.at' HB.out.1) (And.intro (g.at' HB.out.2.1) (HB.out.2.2.trans g)))
  replace HR := Lib.hid (And.intro (HR.out.1.nw g) (HR.out.2.nw g))
  replace HX5 := Lib.hid (And.intro (g.at' HX5.out.1) (HX5.out.2.nw g))
  replace HX6 := Lib.hid (And.intro (g.at' HX6.out.1) (HX6.out.2.nw g))
  replace HX7 := Lib.hid (And.intro (g.at' HX7.out.1) (HX7.out.2.nw g))
  replace HX8 := Lib.hid (And.intro (g.at' HX8.out.1) (HX8.out.2.nw g))
  replace HX9 := Lib.hid (And.intro (g.at' HX9.out.1) (HX9.out.2.nw g))
  replace HX10 := Lib.hid (And.intro (g.at' HX10.out.1) (HX10.out.2.nw g))
  clear g
  have c0 := hcell (j := 0) HB.out.1
  have c1 := hcell (j := 1) HB.out.1
  have c2 := hcell (j := 2) HB.out.1
  have c3 := hcell (j := 3) HB.out.1
  have cl := hlt HB.out.1
  have hb := allocAt y30 (.cells #[.int .i64 f0, .int .i64 f1, .int .i64 f2, .int .i64 f3, .int .i64 f4] 42)
  obtain ⟨y31, hu⟩ : ∃ x, y30.alloc (.cells #[.int .i64 f0, .int .i64 f1, .int .i64 f2, .int .i64 f3, .int .i64 f4] 42) = x := ⟨_, rfl⟩
  have g : Nw y30 y31 := by rw [← hu]; exact (Nw.refl _).alloc _
  rw [hu] at hb
  obtain ⟨BHX11, hB⟩ : ∃ x, y30.heap.size = x := ⟨_, rfl⟩
  rw [hB] at hb
  have HE := Lib.hid (And.intro hu hB)
  replace HB := Lib.hid (And.intro (g.at' HB.out.1) (And.intro (g.at' HB.out.2.1) (HB.out.2.2.trans g)))
  replace HR := Lib.hid (And.intro (HR.out.1.nw g) (HR.out.2.nw g))
  replace HX5 := Lib.hid (And.intro (g.at' HX5.out.1) (HX5.out.2.nw g))
  replace HX6 := Lib.hid (And.intro (g.at' HX6.out.1) (HX6.out.2.nw g))
  replace HX7 := Lib.hid (And.intro (g.at' HX7.out.1) (HX7.out.2.nw g))
  replace HX8 := Lib.hid (And.intro (g.at' HX8.out.1) (HX8.out.2.nw g))
  replace HX9 := Lib.hid (And.intro (g.at' HX9.out.1) (HX9.out.2.nw g))
  replace HX10 := Lib.hid (And.intro (g.at' HX10.out.1) (HX10.out.2.nw g))
  have HX11 := Lib.hid hb
  clear hb hu hB g
  go_wp2_with fail
  rw [HE.out.1, HE.out.2]
  clear HE
  clear c0 c1 c2 c3 cl
  go_at_call 22
  refine (HFr.out _ HR.out.1).mono ?_
  rintro e y32 ⟨rfl, g⟩
  replace HB := Lib.hid (And.intro (g.at' HB.out.1) (And.intro (g.at' HB.out.2.1) (HB.out.2.2.trans g)))
  replace HR := Lib.hid (And.intro (HR.out.1.nw g) (HR.out.2.nw g))
  replace HX5 := Lib.hid (And.intro (g.at' HX5.out.1) (HX5.out.2.nw g))
  replace HX6 := Lib.hid (And.intro (g.at' HX6.out.1) (HX6.out.2.nw g))
  replace HX7 := Lib.hid (And.intro (g.at' HX7.out.1) (HX7.out.2.nw g))
  replace HX8 := Lib.hid (And.intro (g.at' HX8.out.1) (HX8.out.2.nw g))
  replace HX9 := Lib.hid (And.intro (g.at' HX9.out.1) (HX9.out.2.nw g))
  replace HX10 := Lib.hid (And.intro (g.at' HX10.out.1) (HX10.out.2.nw g))
  replace HX11 := Lib.hid (g.at' HX11.out)
  clear g
  clear HFd HFr
  have hb := allocAt y32 (.cells #[.int .i64 f0, .int .i64 f1, .int .i64 f2, .int .i64 f3, .int .i64 f4] 42)
  obtain ⟨y33, hu⟩ : ∃ x, y32.alloc (.cells #[.int .i64 f0, .int .i64 f1, .int .i64 f2, .int .i64 f3, .int .i64 f4] 42) = x := ⟨_, rfl⟩
  have g : Nw y32 y33 := by rw [← hu]; exact (Nw.refl _).alloc _
  rw [hu] at hb
  obtain ⟨BHX12, hB⟩ : ∃ x, y32.heap.size = x := ⟨_, rfl⟩
  rw [hB] at hb
  have HE := Lib.hid (And.intro hu hB)
  replace HB := Lib.hid (And.intro (g.at' HB.out.1) (And.intro (g.at' HB.out.2.1) (HB.out.2.2.trans g)))
  replace HR := Lib.hid (And.intro (HR.out.1.nw g) (HR.out.2.nw g))
  replace HX5 := Lib.hid (And.intro (g.at' HX5.out.1) (HX5.out.2.nw g))
  replace HX6 := Lib.hid (And.intro (g.at' HX6.out.1) (HX6.out.2.nw g))
  replace HX7 := Lib.hid (And.intro (g.at' HX7.out.1) (HX7.out.2.nw g))
  replace HX8 := Lib.hid (And.intro (g.at' HX8.out.1) (HX8.out.2.nw g))
  replace HX9 := Lib.hid (And.intro (g.at' HX9.out.1) (HX9.out.2.nw g))
  replace HX10 := Lib.hid (And.intro (g.at' HX10.out.1) (HX10.out.2.nw g))
  replace HX11 := Lib.hid (g.at' HX11.out)
  have HX12 := Lib.hid hb
  clear hb hu hB g
  have HS1 := Lib.hid (fun (z : World) (hz : Nw y33 z) => cSame xtL xrL xWL (.slice ar5 xnL kr5) (.slice ar6 xnL kr6) xqL z (by have := HLenL.out; omega) (HX5.out.2.nw hz) (HX6.out.2.nw hz))
  unfold hdV at HS1
  have HS2 := Lib.hid (fun (z : World) (hz : Nw y33 z) => cSame xtB xrB xWB (.slice ar7 xnB kr7) (.slice ar8 xnB kr8) xqB z (by have := HLenB.out; omega) (HX7.out.2.nw hz) (HX8.out.2.nw hz))
  unfold hdV at HS2
  have HS3 := Lib.hid (fun (z : World) (hz : Nw y33 z) => cSame xtH xrH xWH (.slice ar9 xnH kr9) (.slice ar10 xnH kr10) xqH z (by have := HLenH.out; omega) (HX9.out.2.nw hz) (HX10.out.2.nw hz))
  unfold hdV at HS3
  have HMd := Lib.hid (fun (z : World) (hz : Nw y33 z) => dMode t r W txn (.slice a n c) q z (by have := HQl.out; omega) (HR.out.1.nw hz))
  have HMr := Lib.hid (fun (z : World) (hz : Nw y33 z) => r9mode t r W txn (.slice a n c) q z (by have := HQl.out; omega) (HR.out.1.nw hz))
  have HGd := Lib.hid (fun (z : World) (hz : Nw y33 z) => dGroup t r W (.slice a n c) q z (by have := HQl.out; omega) (fun R hR => (HOk.out.rt R hR).md) (HR.out.1.nw hz))
  have HGr := Lib.hid (fun (z : World) (hz : Nw y33 z) => r9group t r W (.slice a n c) q z (by have := HQl.out; omega) HOk.out (HR.out.1.nw hz))
  have HBd := Lib.hid (fun (z : World) (hz : Nw y33 z) => dBlockers t r W id (.slice a n c) q z (by have := HQl.out; omega) HOk.out (HR.out.1.nw hz))
  have HBr := Lib.hid (fun (z : World) (hz : Nw y33 z) => r9blockers t r W id (.slice a n c) q z (by have := HQl.out; omega) HOk.out (HR.out.1.nw hz))
  obtain ⟨mdv, hmdv⟩ : ∃ x, mdQ q txn = x := ⟨_, rfl⟩
  rw [hmdv] at HMd HMr
  obtain ⟨gpv, hgpv⟩ : ∃ x, grpQ q = x := ⟨_, rfl⟩
  rw [hgpv] at HGd HGr
  obtain ⟨bkv, hbkv⟩ : ∃ x, blkR q id = x := ⟨_, rfl⟩
  rw [hbkv] at HBd HBr
  clear hmdv hgpv hbkv
  unfold hdV at HMd HMr HGd HGr HBd HBr
  have s0 : ∀ z, Nw y33 z → z.cell? ⟨p, 0, none⟩ = some (.int .i64 t) := fun z hz => hz.kp (hcell (j := 0) HB.out.1)
  have s1 : ∀ z, Nw y33 z → z.cell? ⟨p, 1, none⟩ = some (.int .i64 r) := fun z hz => hz.kp (hcell (j := 1) HB.out.1)
  have s2 : ∀ z, Nw y33 z → z.cell? ⟨p, 2, none⟩ = some (.slice a n c) := fun z hz => hz.kp (hcell (j := 2) HB.out.1)
  have s3 : ∀ z, Nw y33 z → z.cell? ⟨p, 3, none⟩ = some (.int .i64 W) := fun z hz => hz.kp (hcell (j := 3) HB.out.1)
  have l5_0 : ∀ z, Nw y33 z → z.cell? ⟨BHX5, 0, none⟩ = some (.int .i64 xtL) := fun z hz => hz.kp (hcell (j := 0) HX5.out.1)
  have l5_1 : ∀ z, Nw y33 z → z.cell? ⟨BHX5, 1, none⟩ = some (.int .i64 xrL) := fun z hz => hz.kp (hcell (j := 1) HX5.out.1)
  have l5_2 : ∀ z, Nw y33 z → z.cell? ⟨BHX5, 2, none⟩ = some (.slice ar5 xnL kr5) := fun z hz => hz.kp (hcell (j := 2) HX5.out.1)
  have l5_3 : ∀ z, Nw y33 z → z.cell? ⟨BHX5, 3, none⟩ = some (.int .i64 xWL) := fun z hz => hz.kp (hcell (j := 3) HX5.out.1)
  have l6_0 : ∀ z, Nw y33 z → z.cell? ⟨BHX6, 0, none⟩ = some (.int .i64 xtL) := fun z hz => hz.kp (hcell (j := 0) HX6.out.1)
  have l6_1 : ∀ z, Nw y33 z → z.cell? ⟨BHX6, 1, none⟩ = some (.int .i64 xrL) := fun z hz => hz.kp (hcell (j := 1) HX6.out.1)
  have l6_2 : ∀ z, Nw y33 z → z.cell? ⟨BHX6, 2, none⟩ = some (.slice ar6 xnL kr6) := fun z hz => hz.kp (hcell (j := 2) HX6.out.1)
  have l6_3 : ∀ z, Nw y33 z → z.cell? ⟨BHX6, 3, none⟩ = some (.int .i64 xWL) := fun z hz => hz.kp (hcell (j := 3) HX6.out.1)
  have b7_0 : ∀ z, Nw y33 z → z.cell? ⟨BHX7, 0, none⟩ = some (.int .i64 xtB) := fun z hz => hz.kp (hcell (j := 0) HX7.out.1)
  have b7_1 : ∀ z, Nw y33 z → z.cell? ⟨BHX7, 1, none⟩ = some (.int .i64 xrB) := fun z hz => hz.kp (hcell (j := 1) HX7.out.1)
  have b7_2 : ∀ z, Nw y33 z → z.cell? ⟨BHX7, 2, none⟩ = some (.slice ar7 xnB kr7) := fun z hz => hz.kp (hcell (j := 2) HX7.out.1)
  have b7_3 : ∀ z, Nw y33 z → z.cell? ⟨BHX7, 3, none⟩ = some (.int .i64 xWB) := fun z hz => hz.kp (hcell (j := 3) HX7.out.1)
  have b8_0 : ∀ z, Nw y33 z → z.cell? ⟨BHX8, 0, none⟩ = some (.int .i64 xtB) := fun z hz => hz.kp (hcell (j := 0) HX8.out.1)
  have b8_1 : ∀ z, Nw y33 z → z.cell? ⟨BHX8, 1, none⟩ = some (.int .i64 xrB) := fun z hz => hz.kp (hcell (j := 1) HX8.out.1)
  have b8_2 : ∀ z, Nw y33 z → z.cell? ⟨BHX8, 2, none⟩ = some (.slice ar8 xnB kr8) := fun z hz => hz.kp (hcell (j := 2) HX8.out.1)
  have b8_3 : ∀ z, Nw y33 z → z.cell? ⟨BHX8, 3, none⟩ = some (.int .i64 xWB) := fun z hz => hz.kp (hcell (j := 3) HX8.out.1)
  have h9_0 : ∀ z, Nw y33 z → z.cell? ⟨BHX9, 0, none⟩ = some (.int .i64 xtH) := fun z hz => hz.kp (hcell (j := 0) HX9.out.1)
  have h9_1 : ∀ z, Nw y33 z → z.cell? ⟨BHX9, 1, none⟩ = some (.int .i64 xrH) := fun z hz => hz.kp (hcell (j := 1) HX9.out.1)
  have h9_2 : ∀ z, Nw y33 z → z.cell? ⟨BHX9, 2, none⟩ = some (.slice ar9 xnH kr9) := fun z hz => hz.kp (hcell (j := 2) HX9.out.1)
  have h9_3 : ∀ z, Nw y33 z → z.cell? ⟨BHX9, 3, none⟩ = some (.int .i64 xWH) := fun z hz => hz.kp (hcell (j := 3) HX9.out.1)
  have h0_0 : ∀ z, Nw y33 z → z.cell? ⟨BHX10, 0, none⟩ = some (.int .i64 xtH) := fun z hz => hz.kp (hcell (j := 0) HX10.out.1)
  have h0_1 : ∀ z, Nw y33 z → z.cell? ⟨BHX10, 1, none⟩ = some (.int .i64 xrH) := fun z hz => hz.kp (hcell (j := 1) HX10.out.1)
  have h0_2 : ∀ z, Nw y33 z → z.cell? ⟨BHX10, 2, none⟩ = some (.slice ar10 xnH kr10) := fun z hz => hz.kp (hcell (j := 2) HX10.out.1)
  have h0_3 : ∀ z, Nw y33 z → z.cell? ⟨BHX10, 3, none⟩ = some (.int .i64 xWH) := fun z hz => hz.kp (hcell (j := 3) HX10.out.1)
  have f11_0 : ∀ z, Nw y33 z → z.cell? ⟨BHX11, 0, none⟩ = some (.int .i64 f0) := fun z hz => hz.kp (hcell (j := 0) HX11.out)
  have f11_1 : ∀ z, Nw y33 z → z.cell? ⟨BHX11, 1, none⟩ = some (.int .i64 f1) := fun z hz => hz.kp (hcell (j := 1) HX11.out)
  have f11_2 : ∀ z, Nw y33 z → z.cell? ⟨BHX11, 2, none⟩ = some (.int .i64 f2) := fun z hz => hz.kp (hcell (j := 2) HX11.out)
  have f11_3 : ∀ z, Nw y33 z → z.cell? ⟨BHX11, 3, none⟩ = some (.int .i64 f3) := fun z hz => hz.kp (hcell (j := 3) HX11.out)
  have f11_4 : ∀ z, Nw y33 z → z.cell? ⟨BHX11, 4, none⟩ = some (.int .i64 f4) := fun z hz => hz.kp (hcell (j := 4) HX11.out)
  have f12_0 : ∀ z, Nw y33 z → z.cell? ⟨BHX12, 0, none⟩ = some (.int .i64 f0) := fun z hz => hz.kp (hcell (j := 0) HX12.out)
  have f12_1 : ∀ z, Nw y33 z → z.cell? ⟨BHX12, 1, none⟩ = some (.int .i64 f1) := fun z hz => hz.kp (hcell (j := 1) HX12.out)
  have f12_2 : ∀ z, Nw y33 z → z.cell? ⟨BHX12, 2, none⟩ = some (.int .i64 f2) := fun z hz => hz.kp (hcell (j := 2) HX12.out)
  have f12_3 : ∀ z, Nw y33 z → z.cell? ⟨BHX12, 3, none⟩ = some (.int .i64 f3) := fun z hz => hz.kp (hcell (j := 3) HX12.out)
  have f12_4 : ∀ z, Nw y33 z → z.cell? ⟨BHX12, 4, none⟩ = some (.int .i64 f4) := fun z hz => hz.kp (hcell (j := 4) HX12.out)
  have q1 := (Nw.refl y33).drew1
  obtain ⟨wc, hwc⟩ : ∃ wc, y33.drew = wc := ⟨_, rfl⟩
  go_wp2
  rw [HE.out.1, HE.out.2]
  clear HE
  refine region_told [some true, some true, some false, none, some true, some true, some true, some true, some true, some true, some true, some true, some false, none, some true, some true, some true, some true, some true, some true, some true, some true, some true, some false, none, some true, some true, some true, some true, some true, some true, some true, some true, some true, some true, some true, some true, some true, some true, some true, some true, some true, some true, some true, some false, some true, some true, none, some false, none, some true, some true, some true, some true, some false, some true, none, some false, none, some true, some true, some true, some true, some true, some false, some true, some true, none, some false, none, some false, none, some true, some true] (Nw y33) (by as_aux_lemma => kernel_rfl) (by as_aux_lemma => kernel_rfl) (by as_aux_lemma => kernel_rfl) q1 ?_
  rw [hwc] at q1 ⊢
  clear hwc
  repeat (first
    | (refine HW.off ?_)
    | (refine HW.take' ?_; (first | (refine ⟨undef, Or.inr ⟨by rfl, rfl⟩, ?_⟩) | (apply Exists.intro; refine ⟨Or.inl ⟨by rfl, ?_⟩, ?_⟩; (intro x hx; go_simp; first | done | with_reducible rfl))); (try simp only [Act.put, List.setIfInBounds_toArray, List.set_cons_zero, List.set_cons_succ]))
    | (refine HW.go (fun K hK => ?_); go_simp; (first
      | (go_at_call 9; (first | (with_reducible refine (HS1.out _ q1).mono ?_) | (with_reducible refine (HS2.out _ q1).mono ?_) | (with_reducible refine (HS3.out _ q1).mono ?_)); rintro e wy ⟨rfl, g2⟩; refine hK.out _ _ (q1.trans g2) ?_; intro _; replace q1 := q1.trans g2; clear hK K g2)
      | (go_at_call 23; (with_reducible refine (HMd.out _ q1).mono ?_); rintro e wy ⟨rfl, g2⟩; refine hK.out _ _ (q1.trans g2) ?_; intro _; replace q1 := q1.trans g2; clear hK K g2)
      | (go_at_call 24; (with_reducible refine (HMr.out _ q1).mono ?_); rintro e wy ⟨rfl, g2⟩; refine hK.out _ _ (q1.trans g2) ?_; intro _; replace q1 := q1.trans g2; clear hK K g2)
      | (go_at_call 25; (with_reducible refine (HGd.out _ q1).mono ?_); rintro e wy ⟨rfl, g2⟩; refine hK.out _ _ (q1.trans g2) ?_; intro _; replace q1 := q1.trans g2; clear hK K g2)
      | (go_at_call 26; (with_reducible refine (HGr.out _ q1).mono ?_); rintro e wy ⟨rfl, g2⟩; refine hK.out _ _ (q1.trans g2) ?_; intro _; replace q1 := q1.trans g2; clear hK K g2)
      | (go_at_call 28; (with_reducible refine (HBd.out _ q1).mono ?_); rintro e wy ⟨vb, rfl, g2, hI⟩; refine hK.out _ _ (q1.trans g2) ?_; intro _; replace q1 := q1.trans g2; have HI1 := Lib.hid hI; clear hI; clear hK K g2)
      | (go_at_call 29; (with_reducible refine (HBr.out _ q1).mono ?_); rintro e wy ⟨vc, rfl, g2, hI⟩; refine hK.out _ _ (q1.trans g2) ?_; intro _; replace q1 := q1.trans g2; have HI2 := Lib.hid (And.intro (HI1.out.nw g2) hI); clear hI; clear hK K g2)
      | (go_at_call 27; (with_reducible refine (same_any _ _ _ _ HI2.out.1 HI2.out.2).mono ?_); rintro e wy ⟨rfl, g2⟩; refine hK.out _ _ (q1.trans g2) ?_; intro _; replace q1 := q1.trans g2; clear hK K g2)
      | (refine hK.out _ _ q1 ?_; intro _; clear hK K))))
  refine HW.end_ ?_
  refine NoPanic.normal ?_
  have HQ := Lib.hid q1
  clear q1
  go_wp2
  go_ret
  exact ⟨rfl, HB.out.2.2.trans HQ.out⟩
end Go.Proofs.YtmciiobncfchlaaGreat
end
