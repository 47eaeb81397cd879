/- Texts merged: QwH, QwI, QhA, QhB, QvX, QvT, QuU -/
import Derived.Test.YtmciiobncfchlaaQueueHoldsB11

/- The developers' package queue: distinct. -/
section
namespace Go.Proofs.Ytmciiobncfchlaa
open Go.RowKit Go.Maps Go.ChangeMaps
set_option linter.unusedVariables false      -- a contract need not use every name

set_option maxRecDepth 100000 in
set_option maxHeartbeats 4000000 in
theorem dDistinct (v f : Value) (p : Rq → Int) (q : List Rq) (w : World) (hl : q.length ≤ 1000) (hw : ∀ R ∈ q, Fit (p R)) (h : RqAt w v q) (hf : Nums w f p) :
    Calls Try.prog 107 #[v, f] w fun e w' => ∃ b, e = .returned (.bool b) ∧ Nw w w' ∧ (b = true ↔ (q.map p).Nodup) := by
  have hmm := @run_makeMap Try.prog
  obtain ⟨g, lb, rfl, eg, hT⟩ := hf
  have HT := Lib.hid hT
  have HAt := Lib.hid h
  have HFw := Lib.hid hw
  obtain ⟨a, c, rfl, _⟩ := h
  clear hT hw
  have hK := KeyS.made w
  have hN1 : Nw w (w.alloc (.map #[] 0)) := (Nw.refl w).alloc _
  obtain ⟨w1, hw1⟩ : ∃ w1, w.alloc (.map #[] 0) = w1 := ⟨_, rfl⟩
  rw [hw1] at hK hN1
  have HW1 := Lib.hid hw1
  obtain ⟨b, hb⟩ : ∃ b, w.heap.size = b := ⟨_, rfl⟩
  rw [hb] at hK
  have HB := Lib.hid hb
  have HK := Lib.hid (And.intro hK hN1)
  clear hK hN1 hw1
  go_enter Try.func107, Try.ntmps107
  go_wp2
  rw [HW1.out]
  try rw [hb]
  clear hb HW1 hmm
  go_loopw [11] (fun i wr => ∃ k : Nat, k ≤ q.length ∧ i = .int .i64 k ∧ KeyS wr b k ((q.take k).map p) ∧ Nw w wr) (fun i _ => q.length - (intOf i).toNat)
  case atStart => exact ⟨0, Nat.zero_le _, rfl, HK.out.1, HK.out.2⟩
  case round =>
    obtain ⟨k, hk, rfl, hS, hG⟩ := hrel
    by_cases hlk : k < q.length
    · obtain ⟨a', c', e, ⟨e4, _⟩ | ⟨b', o, e4, hc⟩⟩ := (HAt.out.nw hG)
      · subst e4; simp at hlk
      simp only [Value.slice.injEq, true_and] at e
      obtain ⟨rfl, rfl⟩ := e
      subst e4
      have hki : (k : Int) < (q.length : Int) := by omega
      have hce := hc.cell k hlk
      have HX := Lib.hid (show (q.take (k + 1)).map p = (q.take k).map p ++ [p q[k]] by rw [List.take_add_one, List.getElem?_eq_getElem hlk, List.map_append]; rfl)
      have hft := HFw.out _ (List.getElem_mem hlk)
      have HTk := Lib.hid (fun (z : World) (g : Nw w z) => HT.out q[k] z g)
      generalize p q[k] = x at *
      generalize q[k] = R at *
      obtain ⟨b0, b1, b2, b3, b4⟩ := R
      unfold rqV at HTk
      simp only at HTk
      have e0 := hce 0 _ rfl
      have e1 := hce 1 _ rfl
      have e2 := hce 2 _ rfl
      have e3 := hce 3 _ rfl
      have e4 := hce 4 _ rfl
      simp only [Nat.add_zero] at e0
      have g6 : Nw wr (wr.alloc (.cells #[.int .i64 b0, .int .i64 b1, .int .i64 b2, .int .i64 b3, .int .i64 b4] 41)) := (Nw.refl wr).alloc _
      obtain ⟨w6, hw6⟩ : ∃ w6, wr.alloc (.cells #[.int .i64 b0, .int .i64 b1, .int .i64 b2, .int .i64 b3, .int .i64 b4] 41) = w6 := ⟨_, rfl⟩
      have hq6 := RqB.made wr b0 b1 b2 b3 b4 41
      rw [hw6] at g6 hq6
      obtain ⟨hlq, y0, y1, y2, y3, y4⟩ := hq6
      have HW6 := Lib.hid hw6
      have HI := Lib.hid (And.intro (hS.nw g6) (hG.trans g6))
      have HFt := Lib.hid hft
      clear hce hc hS hG g6 hw6 hft
      go_wp2_with fail
      rw [HW6.out]
      go_wp2_with fail
      go_at_fn g
      refine (HTk.out _ HI.out.2).mono ?_
      rintro e w7 ⟨rfl, g7⟩
      obtain ⟨w8, hr, hS8, hg8⟩ := (HI.out.1.nw g7).put (by omega) HFt.out
      rw [← HX.out] at hS8
      have HR := Lib.hid hr
      have HE := Lib.hid (And.intro hS8 ((HI.out.2.trans g7).gro hg8 (fun i e => by have := Option.some.inj e; have := HB.out; omega)))
      clear hr hS8 hg8 g7 e0 e1 e2 e3 e4 y0 y1 y2 y3 y4 hlq
      go_wp2_with (at_mapUpdate; refine wpl_mapUp rfl (.tmp 15) (.tmp 18) (.tmp 19) 133 rfl _ _ _ _ rfl rfl rfl HR.out ?_)
      go_roundw
      case rel => exact ⟨k + 1, by omega, by go_num, HE.out⟩
      case measure => simp [intOf]; omega
    · obtain rfl : k = q.length := by omega
      rw [List.take_of_length_le (Nat.le_refl _)] at hS
      obtain ⟨s, hlen, _, hnd⟩ := hS.len
      rw [List.length_map] at hnd
      have HG := Lib.hid (And.intro hG hnd)
      clear hS hG hnd
      by_cases e : s = q.length
      · have d : ((s : Int) == (q.length : Int)) = true := by rw [e]; simp
        have HN := Lib.hid (HG.out.2.1 e)
        clear e
        go_wp2
        go_ret
        exact ⟨true, rfl, HG.out.1, by simpa using HN.out⟩
      · have d : ((s : Int) == (q.length : Int)) = false := by simp; omega
        have HN := Lib.hid (fun h => e (HG.out.2.2 h))
        clear e
        go_wp2
        go_ret
        exact ⟨false, rfl, HG.out.1, by simpa using HN.out⟩
end Go.Proofs.Ytmciiobncfchlaa
end

/- The developers' package queue: differ. -/
section
namespace Go.Proofs.Ytmciiobncfchlaa
open Go.RowKit Go.Maps Go.ChangeMaps
set_option linter.unusedVariables false      -- a contract need not use every name

theorem Tells.idle (w : World) : Tells w (.func (.func 106) #[] #[]) (fun R => !decide (0 < R.sn)) :=
  ⟨_, _, rfl, enters_of Try.func106 (by kernel_rfl) rfl, fun R w1 g => dIdle R w1⟩
theorem Nums.ids (w : World) : Nums w (.func (.func 108) #[] #[]) (fun R => R.id) :=
  ⟨_, _, rfl, enters_of Try.func108 (by kernel_rfl) rfl, fun R w1 g => dNumI R w1⟩
theorem Nums.txns (w : World) : Nums w (.func (.func 109) #[] #[]) (fun R => R.txn) :=
  ⟨_, _, rfl, enters_of Try.func109 (by kernel_rfl) rfl, fun R w1 g => dNumT R w1⟩
theorem Nums.sns (w : World) : Nums w (.func (.func 110) #[] #[]) (fun R => R.sn) :=
  ⟨_, _, rfl, enters_of Try.func110 (by kernel_rfl) rfl, fun R w1 g => dNumS R w1⟩
/-- All the numbers of a request are such as an int holds. -/
def FitR (R : Rq) : Prop := Fit R.id ∧ Fit R.txn ∧ Fit R.sn
theorem outQ_sub (p : Rq → Bool) (q : List Rq) : ∀ R ∈ outQ p q, R ∈ q := fun R h => (List.mem_filter.1 h).1
theorem outQ_len (p : Rq → Bool) (q : List Rq) : (outQ p q).length ≤ q.length := List.length_filter_le _ _
set_option maxRecDepth 100000 in
set_option maxHeartbeats 4000000 in
theorem dDiffer (v : Value) (q : List Rq) (w : World) (hl : q.length ≤ 1000) (hw : ∀ R ∈ q, FitR R) (h : RqAt w v q) :
    Calls Try.prog 85 #[v] w fun e w' => ∃ b, e = .returned (.bool b) ∧ Nw w w' ∧ (b = true ↔ (q.map fun R => R.id).Nodup ∧ (q.map fun R => R.txn).Nodup ∧ ((outQ (fun R => !decide (0 < R.sn)) q).map fun R => R.sn).Nodup) := by
  have HCl := Lib.hid (dClone v q w hl h)
  have HI := Lib.hid (fun (z : World) (g : Nw w z) => dDistinct v _ (fun R => R.id) q z hl (fun R hR => (hw R hR).1) (h.nw g) (Nums.ids z))
  have HT := Lib.hid (fun (z : World) (g : Nw w z) => dDistinct v _ (fun R => R.txn) q z hl (fun R hR => (hw R hR).2.1) (h.nw g) (Nums.txns z))
  have HFs := Lib.hid (fun R hR => (hw R (outQ_sub (fun R => !decide (0 < R.sn)) q R hR)).2.2)
  obtain ⟨P1, hP1⟩ : ∃ P1, (q.map fun R => R.id).Nodup = P1 := ⟨_, rfl⟩
  obtain ⟨P2, hP2⟩ : ∃ P2, (q.map fun R => R.txn).Nodup = P2 := ⟨_, rfl⟩
  obtain ⟨P3, hP3⟩ : ∃ P3, ((outQ (fun R => !decide (0 < R.sn)) q).map fun R => R.sn).Nodup = P3 := ⟨_, rfl⟩
  rw [hP1] at HI ⊢
  rw [hP2] at HT ⊢
  rw [hP3]
  have HP3 := Lib.hid hP3
  clear hP1 hP2 hP3 hw
  obtain ⟨a, c, rfl, _⟩ := h
  go_enter Try.func85, Try.ntmps85
  go_wp2_with fail
  go_at_call 48
  refine HCl.out.mono ?_
  rintro e w1 ⟨v1, rfl, g1, hO⟩
  have HD := Lib.hid (dDelete (fun R => !decide (0 < R.sn)) _ w.heap.size v1 q w1 hl hO (Tells.idle w1) (fun w2 _ => Tells.idle w2))
  have HO := Lib.hid (And.intro g1 hO)
  clear g1 hO HCl
  go_wp2_with fail
  go_at_call 76
  refine HD.out.mono ?_
  rintro e w2 ⟨v2, rfl, hR2, _, _, hT2⟩
  have HN2 := Lib.hid (nw_tch HO.out.1 hT2 (fun i e => oge HO.out.2 e))
  have HS := Lib.hid (fun (z : World) (g : Nw w2 z) => dDistinct v2 _ (fun R => R.sn) (outQ (fun R => !decide (0 < R.sn)) q) z (Nat.le_trans (outQ_len _ q) hl) HFs.out (hR2.nw g) (Nums.sns z))
  rw [HP3.out] at HS
  have HI2 := Lib.hid (HI.out w2 HN2.out)
  clear hR2 hT2 HD HO HI HP3 HFs
  go_wp2_with fail
  go_at_call 107
  refine HI2.out.mono ?_
  rintro e w3 ⟨b1, rfl, g3, h1⟩
  have H3 := Lib.hid (And.intro g3 h1)
  have HT2 := Lib.hid (HT.out w3 (HN2.out.trans g3))
  clear g3 h1 HI2 HT
  cases b1
  · go_wp2
    go_ret
    exact ⟨false, rfl, HN2.out.trans H3.out.1, by have h := H3.out.2; simp at h; simp [h]⟩
  go_wp2_with fail
  go_at_call 107
  refine HT2.out.mono ?_
  rintro e w4 ⟨b2, rfl, g4, h2⟩
  have H4 := Lib.hid (And.intro g4 h2)
  have HS2 := Lib.hid (HS.out w4 (H3.out.1.trans g4))
  clear g4 h2 HT2 HS
  cases b2
  · go_wp2
    go_ret
    exact ⟨false, rfl, (HN2.out.trans H3.out.1).trans H4.out.1, by have h := H4.out.2; simp at h; simp [h]⟩
  go_wp2_with fail
  go_at_call 107
  refine HS2.out.mono ?_
  rintro e w5 ⟨b3, rfl, g5, h3⟩
  have H5 := Lib.hid (And.intro g5 h3)
  clear g5 h3 HS2
  go_wp2
  go_ret
  exact ⟨b3, by simp, ((HN2.out.trans H3.out.1).trans H4.out.1).trans H5.out.1, by have h3 := H3.out.2; have h4 := H4.out.2; have h5 := H5.out.2; simp at h3 h4; simp [h3, h4, h5]⟩
end Go.Proofs.Ytmciiobncfchlaa
end

/- Law 9: acts: how many wait and how many upgrade; the sort of at most 40 that wait; the numbers of requests. Plain. -/
section
namespace Go.Proofs.Ytmciiobncfchlaa
set_option linter.unusedVariables false

def upB (r : Rq) : Bool := (r.md != 0) && decide (0 < r.sn)
def ups (q : List Rq) : Nat := q.countP upB
def meas (q : List Rq) : Nat := q.length + ups q
theorem tC_asym {W : Int} {q : List Rq} (h : Ok W q) {x y : Int} (h1 : tC q x y < 0) : ¬ tC q y x < 0 := fun h2 => by
  have := tC_tr h x y x h1 h2
  unfold tC at this
  rw [ahead_iff] at this
  generalize rqAt q x = a at this
  by_cases za : a.md = 0 <;> simp [za] at this
theorem wpl_asc (q : List Rq) : ∀ k, (wpl q k).Pairwise (· < ·)
  | 0 => by simp [wpl]
  | k + 1 => by
    unfold wpl
    split
    · rw [List.pairwise_append]
      refine ⟨wpl_asc q k, by simp, fun a ha b hb => ?_⟩
      rw [List.mem_singleton] at hb
      obtain ⟨j, h1, h2, _⟩ := (wpl_mem q a k).1 ha
      omega
    · exact wpl_asc q k
theorem wpl_ups (q : List Rq) : ∀ k, k ≤ q.length → (wpl q k).countP (fun x => (rqAt q x).md != 0) = (q.take k).countP upB
  | 0, _ => by simp [wpl]
  | k + 1, hk => by
    have e : q.take (k + 1) = q.take k ++ [q[k]'(by omega)] := (List.take_append_getElem (by omega)).symm
    have ih := wpl_ups q k (by omega)
    rw [e, List.countP_append]
    unfold wpl
    have hr := rqAt_nat q k (by omega)
    rw [hr]
    by_cases s : 0 < (q[k]'(by omega)).sn
    · rw [if_pos s, List.countP_append, ih]
      congr 1
      simp [List.countP_cons, hr, upB, s]
    · rw [if_neg s, ih]
      simp [List.countP_cons, upB, s]
/-- Up to 40 that wait, of whom at most 20 upgrade. -/
theorem stOk_40 {W : Int} {q : List Rq} (h : Ok W q) (hl : q.length ≤ 40) (hu : ups q ≤ 20) : StOk (tC q) (wpl q q.length) := by
  by_cases h20 : (wpl q q.length).length ≤ 20
  · exact .inl h20
  refine .inr ⟨Nat.le_trans (wpl_len q _) hl, ?_⟩
  obtain ⟨T, hT⟩ : ∃ T, wpl q q.length = T := ⟨_, rfl⟩
  have hm : ∀ x, x ∈ T ↔ ∃ k : Nat, k < q.length ∧ x = k ∧ 0 < (rqAt q x).sn := fun x => by rw [← hT]; exact wpl_mem q x _
  have hn : T.Nodup := by rw [← hT]; exact wpl_nodup q _
  have ha : T.Pairwise (· < ·) := by rw [← hT]; exact wpl_asc q _
  have hc : T.countP (fun x => (rqAt q x).md != 0) ≤ 20 := by
    rw [← hT, wpl_ups q _ (Nat.le_refl _), List.take_length]
    exact hu
  rw [hT] at h20 ⊢
  have srt : ∀ S : List Int, S.Sublist T → (sortS (tC q) S).Pairwise fun x y => tC q x y < 0 ∧ ¬ tC q y x < 0 := fun S hS =>
    (sortS_sorted (tC q) (fun x => ∃ k : Nat, k < q.length ∧ x = k ∧ 0 < (rqAt q x).sn) (fun x y z _ _ _ => tC_tr h x y z) (fun x y hx hy => tC_tot h x y hx hy) S (fun x hx => (hm x).1 (hS.subset hx)) (hn.sublist hS)).imp fun h1 => ⟨h1, tC_asym h h1⟩
  rw [List.pairwise_append]
  refine ⟨srt _ (List.take_sublist _ _), srt _ (List.drop_sublist _ _), fun x hx y hy => ?_⟩
  have hx := (sortS_perm _ _).mem_iff.1 hx
  have hy := (sortS_perm _ _).mem_iff.1 hy
  have hall : ∀ x ∈ T.take 20, ∀ y ∈ T.drop 20, x < y := by
    rw [← List.take_append_drop 20 T, List.pairwise_append] at ha
    exact ha.2.2
  have hlt : ∀ x ∈ T.take 20, ∀ y ∈ T.drop 20, (rqAt q y).md ≠ 0 → (rqAt q x).md ≠ 0 := by
    intro x hx y hy hmd z
    obtain ⟨i, hi, rfl, si⟩ := (hm x).1 (List.mem_of_mem_take hx)
    obtain ⟨j, hj, rfl, sj⟩ := (hm y).1 (List.mem_of_mem_drop hy)
    have hij := hall _ hx _ hy
    rw [rqAt_nat q i hi] at z
    rw [rqAt_nat q j hj] at hmd
    exact hmd ((List.pairwise_iff_getElem.1 h.pr i j hi hj (by omega)).ord z).1
  have hyz : (rqAt q y).md = 0 := by
    by_cases z : (rqAt q y).md = 0
    · exact z
    exfalso
    rw [← List.take_append_drop 20 T, List.countP_append] at hc
    have c1 : (T.take 20).countP (fun x => (rqAt q x).md != 0) = (T.take 20).length := List.countP_eq_length.2 fun x hx => by simpa using hlt x hx y hy z
    have c2 : 0 < (T.drop 20).countP (fun x => (rqAt q x).md != 0) := List.countP_pos_iff.2 ⟨y, hy, by simpa using z⟩
    have : (T.take 20).length = 20 := by rw [List.length_take]; omega
    omega
  have hlt' : tC q x y < 0 := by
    obtain ⟨i, hi, rfl, si⟩ := (hm x).1 (List.mem_of_mem_take hx)
    obtain ⟨j, hj, rfl, sj⟩ := (hm y).1 (List.mem_of_mem_drop hy)
    have hij := hall _ hx _ hy
    rcases tC_tot h _ _ ⟨i, hi, rfl, si⟩ ⟨j, hj, rfl, sj⟩ (by omega) with g | g
    · exact g
    · exfalso
      unfold tC at g
      rw [ahead_iff] at g
      rw [rqAt_nat q i hi, rqAt_nat q j hj] at g
      rw [rqAt_nat q j hj] at hyz
      have hp := List.pairwise_iff_getElem.1 h.pr i j hi hj (by omega)
      by_cases za : q[i].md = 0
      · have := (hp.ord za).2
        simp [za, hyz] at g
        omega
      · simp [za, hyz] at g
  exact ⟨hlt', tC_asym h hlt'⟩
end Go.Proofs.Ytmciiobncfchlaa
end

/- Law 9: acts: what a call adds; the numbers of requests. Plain. -/
section
namespace Go.Proofs.Ytmciiobncfchlaa
set_option linter.unusedVariables false

theorem ups_len (q : List Rq) : ups q ≤ q.length := List.countP_le_length
theorem ups_chg {W : Int} {q : List Rq} (h : Ok W q) {r : Rq} (hr : r ∈ q) (f : Rq → Rq) : ups (chg f r.id q) ≤ ups q + 1 ∧ (upB (f r) = false → ups (chg f r.id q) ≤ ups q) := by
  obtain ⟨l, m, rfl, h1, h2⟩ := h.part hr
  rw [chg_mid f h1 h2]
  unfold ups
  simp only [List.countP_append, List.countP_cons]
  refine ⟨?_, fun e => ?_⟩
  · split <;> split <;> omega
  · have e0 : (if upB (f r) = true then 1 else 0) = 0 := by rw [e]; rfl
    rw [e0]
    split <;> omega
theorem ups_lv (id : Int) (q : List Rq) : ups (lvQ id q) ≤ ups q := List.Sublist.countP_le List.filter_sublist
theorem ups_ab {W : Int} {q : List Rq} (h : Ok W q) {r : Rq} (hr : r ∈ q) : ups (abQ r q) ≤ ups q := by
  unfold abQ
  split
  · exact ups_lv _ _
  · exact (ups_chg h hr abR).2 (by simp [upB, abR])
theorem meas_ask {W : Int} {q : List Rq} (id txn m : Int) : meas (askQ W q id txn m).2.1 ≤ meas q + 1 := by
  unfold askQ meas ups
  split
  · simp [List.countP_cons, upB]; omega
  · simp [List.countP_cons, upB]; omega
theorem meas_up {W : Int} {q : List Rq} (h : Ok W q) {r : Rq} (hr : r ∈ q) (m : Int) : meas (upQ W q r m).2.1 ≤ meas q + 1 := by
  have key : ∀ f : Rq → Rq, meas (chg f r.id q) ≤ meas q + 1 := fun f => by
    have := (ups_chg h hr f).1
    unfold meas
    rw [chg_len]; omega
  unfold upQ
  split
  · exact Nat.le_succ _
  split
  · exact key _
  · exact key _
theorem meas_act (h : Hq) (h0 : Ok h.W h.q) (k id txn m : Int) (he : (actR h k id txn m).2 = 0) : meas (actR h k id txn m).1.q ≤ meas h.q + 1 := by
  unfold actR at he ⊢
  by_cases k0 : k = 0
  · simp only [if_pos k0] at he ⊢
    unfold askR at he ⊢
    by_cases e : askE h.q id txn m = 0
    · simp only [if_pos e]
      exact meas_ask id txn m
    · simp only [if_neg e] at he
      exact absurd he e
  simp only [if_neg k0] at he ⊢
  by_cases k1 : k = 1
  · simp only [if_pos k1] at he ⊢
    unfold upR at he ⊢
    by_cases e : m = 0 ∨ knI m = false
    · simp only [if_pos e] at he; cases he
    simp only [if_neg e] at he ⊢
    cases f : fnd h.q id with
    | none => rw [f] at he; cases he
    | some r =>
      rw [f] at he
      obtain ⟨hr, _⟩ := fnd_is f
      by_cases s : 0 < r.sn
      · simp only [if_pos s] at he; cases he
      · simp only [if_neg s]
        exact meas_up h0 hr m
  simp only [if_neg k1] at he ⊢
  by_cases k2 : k = 2
  · simp only [if_pos k2] at he ⊢
    unfold lvR at he ⊢
    cases f : fnd h.q id with
    | none => rw [f] at he; cases he
    | some r =>
      have := lvQ_len id h.q
      have := ups_lv id h.q
      show (lvQ id h.q).length + ups (lvQ id h.q) ≤ h.q.length + ups h.q + 1
      omega
  simp only [if_neg k2] at he ⊢
  unfold abRes at he ⊢
  cases f : fnd h.q id with
  | none => rw [f] at he; cases he
  | some r =>
    rw [f] at he
    obtain ⟨hr, _⟩ := fnd_is f
    by_cases s : 0 < r.sn
    · simp only [if_pos s]
      have := abQ_len r h.q
      have := ups_ab h0 hr
      show (abQ r h.q).length + ups (abQ r h.q) ≤ h.q.length + ups h.q + 1
      omega
    · simp only [if_neg s] at he; cases he
theorem meas_scan {W : Int} {q : List Rq} (h : Ok W q) : meas (scanQ q).2 ≤ meas q := by
  have e := ((scan_steps h).1.form h).1
  have hl := scan_len h
  unfold meas ups
  rw [hl]
  refine Nat.add_le_add_left ?_ _
  rw [e, List.countP_map]
  refine List.countP_mono_left fun r _ hx => ?_
  simp only [Function.comp] at hx
  split at hx
  · simp [upB, grtR] at hx
  · exact hx
theorem meas_do (h : Hq) (h0 : Ok h.W h.q) (hB : h.W + 1 ≤ 4611686018427387904) (k id txn m : Int) : meas (doQ h k id txn m).q ≤ meas h.q + 1 := by
  unfold doQ
  by_cases e : (actR h k id txn m).2 = 0
  · rw [if_pos e]
    exact Nat.le_trans (meas_scan (act_ok h h0 hB k id txn m e).1) (meas_act h h0 k id txn m e)
  · rw [if_neg e]; exact Nat.le_succ _
/-- The numbers of all requests meet a condition. -/
def Nums2 (P : Int → Int → Prop) (q : List Rq) : Prop := ∀ R ∈ q, P R.id R.txn
theorem Nums2.chg {P : Int → Int → Prop} {q : List Rq} (h : Nums2 P q) (f : Rq → Rq) (id : Int) (hf : ∀ r, (f r).id = r.id ∧ (f r).txn = r.txn) : Nums2 P (chg f id q) := by
  intro R hR
  unfold Go.Proofs.Ytmciiobncfchlaa.chg at hR
  obtain ⟨x, hx, rfl⟩ := List.mem_map.1 hR
  split
  · rw [(hf x).1, (hf x).2]; exact h x hx
  · exact h x hx
theorem Nums2.lv {P : Int → Int → Prop} {q : List Rq} (h : Nums2 P q) (id : Int) : Nums2 P (lvQ id q) := fun R hR => h R (List.mem_filter.1 hR).1
theorem Nums2.act {P : Int → Int → Prop} {h : Hq} (hn : Nums2 P h.q) (k id txn m : Int) (hp : P id txn) (he : (actR h k id txn m).2 = 0) : Nums2 P (actR h k id txn m).1.q := by
  unfold actR at he ⊢
  by_cases k0 : k = 0
  · simp only [if_pos k0] at he ⊢
    unfold askR at he ⊢
    by_cases e : askE h.q id txn m = 0
    · simp only [if_pos e]
      unfold askQ
      split
      · intro R hR
        rcases List.mem_append.1 hR with hR | hR
        · exact hn R hR
        · rw [List.mem_singleton] at hR; subst hR; exact hp
      · intro R hR
        rcases List.mem_append.1 hR with hR | hR
        · exact hn R hR
        · rw [List.mem_singleton] at hR; subst hR; exact hp
    · simp only [if_neg e] at he
      exact absurd he e
  simp only [if_neg k0] at he ⊢
  by_cases k1 : k = 1
  · simp only [if_pos k1] at he ⊢
    unfold upR at he ⊢
    by_cases e : m = 0 ∨ knI m = false
    · simp only [if_pos e] at he; cases he
    simp only [if_neg e] at he ⊢
    cases f : fnd h.q id with
    | none => rw [f] at he; cases he
    | some r =>
      rw [f] at he
      by_cases s : 0 < r.sn
      · simp only [if_pos s] at he; cases he
      · simp only [if_neg s]
        unfold upQ
        split
        · exact hn
        split
        · exact hn.chg _ _ fun r => ⟨rfl, rfl⟩
        · exact hn.chg _ _ fun r => ⟨rfl, rfl⟩
  simp only [if_neg k1] at he ⊢
  by_cases k2 : k = 2
  · simp only [if_pos k2] at he ⊢
    unfold lvR at he ⊢
    cases f : fnd h.q id with
    | none => rw [f] at he; cases he
    | some r => exact hn.lv id
  simp only [if_neg k2] at he ⊢
  unfold abRes at he ⊢
  cases f : fnd h.q id with
  | none => rw [f] at he; cases he
  | some r =>
    rw [f] at he
    by_cases s : 0 < r.sn
    · simp only [if_pos s]
      unfold abQ
      split
      · exact hn.lv _
      · exact hn.chg _ _ fun r => ⟨rfl, rfl⟩
    · simp only [if_neg s] at he; cases he
theorem Nums2.scan {P : Int → Int → Prop} {W : Int} {q : List Rq} (h : Ok W q) (hn : Nums2 P q) : Nums2 P (scanQ q).2 := by
  rw [((scan_steps h).1.form h).1]
  intro R hR
  obtain ⟨x, hx, rfl⟩ := List.mem_map.1 hR
  split
  · exact hn x hx
  · exact hn x hx
theorem Nums2.do_ {P : Int → Int → Prop} {h : Hq} (h0 : Ok h.W h.q) (hB : h.W + 1 ≤ 4611686018427387904) (hn : Nums2 P h.q) (k id txn m : Int) (hp : P id txn) : Nums2 P (doQ h k id txn m).q := by
  unfold doQ
  by_cases e : (actR h k id txn m).2 = 0
  · rw [if_pos e]
    exact Nums2.scan (act_ok h h0 hB k id txn m e).1 (hn.act k id txn m hp e)
  · rw [if_neg e]; exact hn
theorem fitR_of {W : Int} {q : List Rq} (h : Ok W q) (hn : Nums2 (fun a b => Fit a ∧ Fit b) q) : ∀ R ∈ q, FitR R := by
  intro R hR
  obtain ⟨h1, h2⟩ := hn R hR
  have h3 := (h.rt R hR).s0
  have h4 := (h.rt R hR).sW
  have h5 := h.wB
  exact ⟨h1, h2, by unfold Fit; omega⟩
/-- What holds of a head after k calls. -/
structure HAct (k : Nat) (h : Hq) : Prop where
  inv : HInv h
  t : h.t = 0
  r : h.r = -1
  W : h.W ≤ k
  ms : meas h.q ≤ k
  num : Nums2 (fun a b => Fit a ∧ Fit b) h.q
theorem HAct.nil : HAct 0 ⟨0, -1, 0, []⟩ := ⟨inv_nil _ _, rfl, rfl, Int.le_refl _, by simp [meas, ups], fun R hR => by cases hR⟩
theorem HAct.step {k : Nat} {h : Hq} (a : HAct k h) (hk : k < 40) (kd id txn m : Int) (hid : Fit id) (htx : Fit txn) : HAct (k + 1) (doQ h kd id txn m) := by
  have hB : h.W + 1 ≤ 4611686018427387904 := by have := a.W; omega
  obtain ⟨b1, b2, b3, _, b5, _⟩ := do_inv h a.inv hB kd id txn m
  refine ⟨b1, b2.trans a.t, b3.trans a.r, by have := a.W; omega, Nat.le_trans (meas_do h a.inv.ok hB kd id txn m) (by have := a.ms; omega), a.num.do_ a.inv.ok hB kd id txn m ⟨hid, htx⟩⟩
theorem HAct.len {k : Nat} {h : Hq} (a : HAct k h) : h.q.length ≤ k := by have := a.ms; unfold meas at this; omega
/-- A head whose measure is small can be scanned. -/
theorem stOk_ms {W : Int} {q : List Rq} (h : Ok W q) (hm : meas q ≤ 40) : StOk (tC q) (wpl q q.length) := by
  have := ups_len q
  unfold meas at hm
  exact stOk_40 h (by omega) (by omega)
end Go.Proofs.Ytmciiobncfchlaa
end

/- The developers' package queue: Hand. -/
section
namespace Go.Proofs.Ytmciiobncfchlaa
open Go.RowKit
set_option linter.unusedVariables false      -- a contract need not use every name

theorem hn_plc {W : Int} {q : List Rq} {id x : Int} {k : Nat} (h : Ok W q) (hk : k < q.length) (hf : fnd q id = some q[k]) :
    (q.any fun o => !(o.id == id) && o.txn == x) = ((plc (fun R => R.txn == x) q != -1) && (plc (fun R => R.txn == x) q != (k : Int))) := by
  rcases plc_form (fun R => R.txn == x) q with ⟨h1, h2⟩ | ⟨m, h1, hm, h3, h4⟩
  · rw [h1]
    rw [hn_none hk hf (fun m hm _ e => by have := h2 _ (List.getElem_mem hm); simp [e] at this)]
    rfl
  · rw [h1]
    have e1 : ((m : Int) != -1) = true := by rw [bne_iff_ne]; omega
    rw [e1, Bool.true_and]
    have h3' : q[m].txn = x := by simpa using h3
    by_cases e : m = k
    · subst e
      have : ((m : Int) != (m : Int)) = false := by simp
      rw [this]
      refine hn_none hk hf (fun j hj ne ej => ?_)
      have e5 : q[j] = q[m] := h.injT _ (List.getElem_mem hj) _ (List.getElem_mem hk) (by rw [ej, h3'])
      have e6 := id_ne h hj hk ne
      exact e6 (by rw [e5])
    · have : ((m : Int) != (k : Int)) = true := by rw [bne_iff_ne]; omega
      rw [this]
      exact hn_hit h hk hf hm e h3'
set_option maxRecDepth 100000 in
set_option maxHeartbeats 4000000 in
theorem dHand (t r W id x : Int) (v : Value) (q : List Rq) (w : World) (hl : q.length ≤ 1000) (hok : Ok W q) (h : RqAt w v q) :
    Calls Try.prog 14 #[hdV t r v W, .int .i64 id, .int .i64 x] w (HD1 (hnR ⟨t, r, W, q⟩ id x) w) := by
  have HOk := Lib.hid hok
  clear hok
  obtain ⟨X, hX⟩ : ∃ X, hnR ⟨t, r, W, q⟩ id x = X := ⟨_, rfl⟩
  rw [hX]
  unfold HD1
  have HCl := Lib.hid (fun (w1 : World) (g : Nw w w1) => dClone v q w1 hl (h.nw g))
  obtain ⟨px, hpx⟩ : ∃ px, plc (fun R => R.id == id) q = px := ⟨_, rfl⟩
  have hFi := fun (w1 : World) (g : Nw w w1) (f : Value) (hf : Tells w1 f (fun R => R.id == id)) => dFind t r W v f _ q w1 hl (h.nw g) hf
  rw [hpx] at hFi
  obtain ⟨py, hpy⟩ : ∃ py, plc (fun R => R.txn == x) q = py := ⟨_, rfl⟩
  have hFt := fun (w1 : World) (g : Nw w w1) (f : Value) (hf : Tells w1 f (fun R => R.txn == x)) => dFind t r W v f _ q w1 hl (h.nw g) hf
  rw [hpy] at hFt
  have HAt := Lib.hid h
  obtain ⟨a, c, rfl, _⟩ := h
  unfold hdV at hFi hFt ⊢
  have HFi := Lib.hid hFi
  have HFt := Lib.hid hFt
  clear hFi hFt
  have HWi := Lib.hid (dWithID id)
  have HTx := Lib.hid (dOfTxn x)
  obtain ⟨hx1, hx2, hx3, hx4⟩ := two_boxes w (.cells #[.int .i64 t, .int .i64 r, .slice a q.length c, .int .i64 W] 27) (.cells #[.int .i64 0, .int .i64 0, .slice none 0 0, .int .i64 0] 27)
  obtain ⟨w1, hw1⟩ : ∃ w1, (w.alloc (.cells #[.int .i64 t, .int .i64 r, .slice a q.length c, .int .i64 W] 27)).alloc (.cells #[.int .i64 0, .int .i64 0, .slice none 0 0, .int .i64 0] 27) = w1 := ⟨_, rfl⟩
  rw [hw1] at hx1 hx2 hx3
  have HB1 := Lib.hid (And.intro (And.intro hx1 hx2) hx3)
  have s0 : ∀ z, Nw w1 z → z.cell? ⟨w.heap.size, 0, none⟩ = some (.int .i64 t) := fun z hz => hz.kp (hcell (j := 0) hx1)
  have s1 : ∀ z, Nw w1 z → z.cell? ⟨w.heap.size, 1, none⟩ = some (.int .i64 r) := fun z hz => hz.kp (hcell (j := 1) hx1)
  have s2 : ∀ z, Nw w1 z → z.cell? ⟨w.heap.size, 2, none⟩ = some (.slice a q.length c) := fun z hz => hz.kp (hcell (j := 2) hx1)
  have s3 : ∀ z, Nw w1 z → z.cell? ⟨w.heap.size, 3, none⟩ = some (.int .i64 W) := fun z hz => hz.kp (hcell (j := 3) hx1)
  clear hx1 hx2 hx3 hx4
  have HW1 := Lib.hid hw1
  clear hw1
  have q1 := (Nw.refl w1).drew1
  obtain ⟨wc, hwc⟩ : ∃ wc, w1.drew = wc := ⟨_, rfl⟩
  go_enter Try.func14, Try.ntmps14
  go_wp2
  rw [HW1.out]
  have hB : Nw w1 w1 := Nw.refl w1
  have HT : ∀ (z : World), Nw w1 z → Nw w z := fun z hz => HB1.out.2.trans hz
  clear q1 hwc
  go_region_held3 (fun y => Nw w1 y) (first | assumption | exact Nw.drew1 (by assumption) | exact Nw.trans (by assumption) (by assumption)) (first | (go_at_call 37; (with_reducible refine (HWi.out _).mono ?_); rintro e wy ⟨pa, rfl, hg, hbx⟩; replace hbx := Tells.withID hbx) | (go_at_call 38; (with_reducible refine (HTx.out _).mono ?_); rintro e wy ⟨pa, rfl, hg, hbx⟩; replace hbx := Tells.ofTxn hbx) | (go_at_call 36; (with_reducible refine (HFi.out _ (HT _ (by assumption)) _ hbx).mono ?_); rintro e wy ⟨rfl, hg⟩; clear hbx) | (go_at_call 36; (with_reducible refine (HFt.out _ (HT _ (by assumption)) _ hbx).mono ?_); rintro e wy ⟨rfl, hg⟩; clear hbx))

  rename_i q1
  have HN := Lib.hid (HB1.out.2.trans q1)
  have hp1 := q1.at' HB1.out.1.1
  have hq1 := q1.at' HB1.out.1.2
  have c0 := hcell (j := 0) hp1
  have c1 := hcell (j := 1) hp1
  have c2 := hcell (j := 2) hp1
  have c3 := hcell (j := 3) hp1
  have hpl := hlt hp1
  rcases at_plc q id with ⟨e1, hf⟩ | ⟨k, e1, hk, hf⟩
  · obtain rfl := hpx.symm.trans e1
    have hR := hX.symm.trans (show hnR ⟨t, r, W, q⟩ id x = (noH, 5) by unfold hnR; rw [hf])
    subst hR
    have d0 := hcell (j := 0) hq1
    have d1 := hcell (j := 1) hq1
    have d2 := hcell (j := 2) hq1
    have d3 := hcell (j := 3) hq1
    have fz := fun k => hfz (j := k) hq1
    have hsl2 := hlt hq1
    clear hpx hpy hX e1 hf s0 s1 s2 s3 HB1 HFi HFt HWi HTx HAt HW1 q1 hp1 hq1 HCl
    go_wp2
    exact bodyPost_ret (v := .tuple #[.agg #[.int .i64 0, .int .i64 0, .slice none 0 0, .int .i64 0], .int .i64 5]) (by simp only [results, Try.results14]; simp [go_sem, *]) rfl ⟨_, rfl, fill_nw HN.out (Nat.le_succ _) _ _ _ _, Rd.nil _, Nat.le_refl _, Fresh.nil _ _⟩
  · obtain rfl := hpx.symm.trans e1
    have dk : ((k : Int) == -1) = false := by simp
    have hpl2 := hn_plc (x := x) HOk.out hk hf
    rw [hpy] at hpl2
    have hX1 : (q.any fun o => !(o.id == id) && o.txn == x) = true → X = (noH, 4) := fun s => hX.symm.trans (by unfold hnR; rw [hf]; exact if_pos s)
    have hX2 : ¬ (q.any fun o => !(o.id == id) && o.txn == x) = true → 0 < q[k].sn → X = (noH, 7) := fun s m => hX.symm.trans (by unfold hnR; rw [hf]; simp only [if_neg s]; exact if_pos m)
    have hX3 : ¬ (q.any fun o => !(o.id == id) && o.txn == x) = true → ¬ 0 < q[k].sn → X = (⟨t, r, W, q.set k ⟨q[k].id, x, q[k].md, q[k].wt, q[k].sn⟩⟩, 0) := fun s m => hX.symm.trans (by unfold hnR; rw [hf]; simp only [if_neg s]; rw [if_neg m, hn_at HOk.out hk hf])
    rw [hpl2] at hX1 hX2 hX3
    obtain ⟨bx, hbx⟩ : ∃ bx, (py != -1) = bx := ⟨_, rfl⟩
    obtain ⟨by2, hby2⟩ : ∃ by2, (py != (k : Int)) = by2 := ⟨_, rfl⟩
    rw [hbx, hby2] at hX1 hX2 hX3
    by_cases hy : (bx && by2) = true
    · have hR := hX1 hy
      subst hR
      rw [Bool.and_eq_true] at hy
      obtain ⟨rfl, rfl⟩ := hy
      have d0 := hcell (j := 0) hq1
      have d1 := hcell (j := 1) hq1
      have d2 := hcell (j := 2) hq1
      have d3 := hcell (j := 3) hq1
      have fz := fun k => hfz (j := k) hq1
      have hsl2 := hlt hq1
      clear hpx hpy hX e1 hf s0 s1 s2 s3 HB1 HFi HFt HWi HTx HAt HW1 q1 hp1 hq1 HCl hX1 hX2 hX3 hpl2
      go_wp2
      exact bodyPost_ret (v := .tuple #[.agg #[.int .i64 0, .int .i64 0, .slice none 0 0, .int .i64 0], .int .i64 4]) (by simp only [results, Try.results14]; simp [go_sem, *]) rfl ⟨_, rfl, fill_nw HN.out (Nat.le_succ _) _ _ _ _, Rd.nil _, Nat.le_refl _, Fresh.nil _ _⟩
    rcases HAt.out with ⟨a', c', e3, ⟨e4, _⟩ | ⟨b, o, e4, hc⟩⟩
    · subst e4; simp at hk
    simp only [Value.slice.injEq, true_and] at e3
    obtain ⟨rfl, rfl⟩ := e3
    subst e4
    have hki : (k : Int) < (q.length : Int) := by omega
    have hce := (hc.nw HN.out).cell k hk
    have HCe := Lib.hid (fun (z : World) (g : Nw w z) => (hc.nw g).cell k hk)
    have HWa := Lib.hid (fun z => dWaits q[k] z)
    have HHo := Lib.hid (fun z => dHolds q[k] z)
    have HRow := Lib.hid (fun (z : World) (g0 g cap : Nat) (j : Nat) (hj : j < 5) (u : Value) (new : Rq) (e : (rqrow q[k]).set j u = rqrow new) (h : RqOwn z g0 (.slice (some ⟨g, 0, none⟩) q.length cap) q) => own_upd h rfl k hk j hj u new e)
    have HRow2 := Lib.hid (fun (z : World) (g0 g cap : Nat) (X : Rq) (j : Nat) (hj : j < 5) (u : Value) (new : Rq) (e : (rqrow X).set j u = rqrow new) (h : RqOwn z g0 (.slice (some ⟨g, 0, none⟩) q.length cap) (q.set k X)) => own_upd h (by rw [List.length_set]) k (by rw [List.length_set]; exact hk) j hj u new (by rw [List.getElem_set_self]; exact e))
    simp only [List.set_set] at HRow2
    have HCo := Lib.hid (fun (z : World) (g0 g cap : Nat) (h : RqOwn z g0 (.slice (some ⟨g, 0, none⟩) q.length cap) q) => own_cell h rfl k hk)
    generalize q[k] = R at *
    obtain ⟨b0, b1, b2, b3, b4⟩ := R
    unfold rqV at HWa HHo
    have m0 := hce 0 _ rfl
    have m1 := hce 1 _ rfl
    have m2 := hce 2 _ rfl
    have m3 := hce 3 _ rfl
    have m4 := hce 4 _ rfl
    simp only [Nat.add_zero] at m0
    clear hce
    have HX2 := Lib.hid (hX2 hy)
    have HX3 := Lib.hid (hX3 hy)
    have HY := Lib.hid hy
    have HP := Lib.hid (And.intro hp1 hq1)
    clear hX1 hX2 hX3 hpl2 hpx hpy hX e1 hf s0 s1 s2 s3 HB1 HFi HFt HWi HTx HW1 q1 hc HOk HHo hy
    cases bx <;> cases by2 <;> first
     | (exfalso; exact absurd rfl HY.out)
     | skip
    all_goals
      clear HY
      go_wp2_with fail
      go_at_call 42
      refine (HWa.out _).mono ?_
      rintro e w2 ⟨rfl, g2⟩
      have hp2 := g2.at' HP.out.1
      have hq2 := g2.at' HP.out.2
      have HN2 := Lib.hid (HN.out.trans g2)
      clear c0 c1 c2 c3 hpl hp1 hq1
      have c0 := hcell (j := 0) hp2
      have c1 := hcell (j := 1) hp2
      have c2 := hcell (j := 2) hp2
      have c3 := hcell (j := 3) hp2
      have hpl := hlt hp2
      clear m0 m1 m2 m3 m4 g2 HWa HP
      by_cases hs : 0 < b4
      · have ds : decide (0 < b4) = true := by simpa using hs
        have hR := HX2.out hs
        subst hR
        have d0 := hcell (j := 0) hq2
        have d1 := hcell (j := 1) hq2
        have d2 := hcell (j := 2) hq2
        have d3 := hcell (j := 3) hq2
        have fz := fun k => hfz (j := k) hq2
        have hsl2 := hlt hq2
        clear hs HX2 HX3 HCe HRow HRow2 HCo HCl HAt HN hp2 hq2
        go_wp2
        exact bodyPost_ret (v := .tuple #[.agg #[.int .i64 0, .int .i64 0, .slice none 0 0, .int .i64 0], .int .i64 7]) (by simp only [results, Try.results14]; simp [go_sem, *]) rfl ⟨_, rfl, fill_nw HN2.out (Nat.le_succ _) _ _ _ _, Rd.nil _, Nat.le_refl _, Fresh.nil _ _⟩
      have ds : decide (0 < b4) = false := by simpa using hs
      have hR := HX3.out (by first | exact hs | exact Int.not_lt.1 hs)
      subst hR
      have HQ := Lib.hid (And.intro hp2 hq2)
      have HCl2 := Lib.hid (HCl.out _ HN2.out)
      clear hs HX2 HX3 HCe HCl HAt hp2 hq2
      go_wp2_with fail
      go_at_call 48
      refine HCl2.out.mono ?_
      rintro e w4 ⟨v4, rfl, g4, hO⟩
      obtain ⟨g, cap, rfl, hg0, hgl, _⟩ := RqOwn.at hO hk
      have hne : ¬ g = w.heap.size := by have := hlt HQ.out.1; omega
      have hne' : ¬ w.heap.size = g := fun e => hne e.symm
      have hn2 : ¬ g = w.heap.size + 1 := by have := hlt HQ.out.2; omega
      have hn2' : ¬ w.heap.size + 1 = g := fun e => hn2 e.symm
      have hp4 := g4.at' HQ.out.1
      have hq4 := g4.at' HQ.out.2
      have HB := Lib.hid (And.intro (hlt HQ.out.1) (hlt HQ.out.2))
      have hO1 := own_st hO (p := ⟨w.heap.size, 2, none⟩) (by exact HB.out.1) (.slice (some ⟨g, 0, none⟩) q.length cap)
      have hO2 := HRow.out _ _ _ _ 1 (by decide) (.int .i64 x) ⟨b0, x, b2, b3, b4⟩ rfl hO1
      have hO4 := fill_own hO2 (rb := w.heap.size + 1) HB.out.2 (.int .i64 t) (.int .i64 r) (.slice (some ⟨g, 0, none⟩) q.length cap) (.int .i64 W)
      have HO4 := Lib.hid hO4
      have HN4 := Lib.hid (HN2.out.trans g4)
      have HG := Lib.hid (And.intro hg0 HN2.out.sz)
      have hoc := HCo.out _ _ _ _ hO
      have c0 := hcell (j := 0) hp4
      have c1 := hcell (j := 1) hp4
      have c2 := hcell (j := 2) hp4
      have c3 := hcell (j := 3) hp4
      have hpl := hlt hp4
      have fp := fun k => hfz (j := k) hp4
      have fg := fun k => own_frz hO rfl k
      have m1 := hoc 1 _ rfl
      have d0 := hcell (j := 0) hq4
      have d1 := hcell (j := 1) hq4
      have d2 := hcell (j := 2) hq4
      have d3 := hcell (j := 3) hq4
      have fz := fun k => hfz (j := k) hq4
      have hsl2 := hlt hq4
      clear hq4 hp4 hO hO1 hO2 hO4 hoc g4 HCl2 HN HRow HRow2 HCo hg0
      go_wp2
      exact bodyPost_ret (v := .tuple #[.agg #[.int .i64 t, .int .i64 r, .slice (some ⟨g, 0, none⟩) q.length cap, .int .i64 W], .int .i64 0]) (by simp only [results, Try.results14]; simp [go_sem, *]) rfl ⟨_, rfl, fill_nw ((HN4.out.st (Nat.le_refl _) _).st (by show w.heap.size ≤ g; have := HG.out; omega) _) (Nat.le_succ _) _ _ _ _, RqOwn.rd HO4.out, HO4.out.cap, HO4.out.fresh HG.out.2⟩
end Go.Proofs.Ytmciiobncfchlaa
end

/- Law 9: empty, lives; the kit's LightHeads. -/
section
namespace Go.Proofs.Ytmciiobncfchlaa
open Go.RowKit
set_option linter.unusedVariables false      -- a contract need not use every name

theorem stOk_small (q : List Rq) (h : q.length ≤ 20) : StOk (tC q) (wpl q q.length) := stOk_20 _ _ (Nat.le_trans (wpl_len q _) h)
/-- A head in a box. -/
def HB (w : World) (B : Nat) (t r : Int) (v : Value) (W : Int) : Prop := w.heap[B]? = some (.cells #[.int .i64 t, .int .i64 r, v, .int .i64 W] 27)
abbrev filld (w : World) (B : Nat) (u0 u1 u2 u3 : Value) : World := (((w.setCell ⟨B, 0, none⟩ u0).setCell ⟨B, 1, none⟩ u1).setCell ⟨B, 2, none⟩ u2).setCell ⟨B, 3, none⟩ u3
theorem HB.fill {w : World} {B : Nat} {t r W : Int} {v : Value} (h : HB w B t r v W) (t' r' W' : Int) (v' : Value) : HB (filld w B (.int .i64 t') (.int .i64 r') v' (.int .i64 W')) B t' r' v' W' :=
  hset (j := 3) _ (hset (j := 2) _ (hset (j := 1) _ (hset (j := 0) _ h)))
theorem HB.made (w : World) (t r : Int) (v : Value) (W : Int) : HB (w.alloc (.cells #[.int .i64 t, .int .i64 r, v, .int .i64 W] 27)) w.heap.size t r v W := allocAt w _
theorem HB.nw {w w' : World} {B : Nat} {t r W : Int} {v : Value} (h : HB w B t r v W) (g : Nw w w') : HB w' B t r v W := g.at' h
/-- A result stored in a box that is older. -/
theorem is_one (w : World) (x : Int) : IS (w.alloc (.cells #[.int .i64 x] 3)) (.slice (some ⟨w.heap.size, 0, none⟩) 1 1) [x] := by
  have h := World.ownsRow_lit (base := 0) (size := 1) (e := 3) w #[.int .i64 x] 1 (Nat.zero_le _) (by unfold maxLen; omega) (by simp)
  unfold IS
  simpa using h
theorem rd_fill' {w0 w : World} {v : Value} {q : List Rq} (h : RqAt w v q) (hf : Fresh w0 v q) {B : Nat} (hB : B < w0.heap.size) (u0 u1 u2 u3 : Value) : RqAt (filld w B u0 u1 u2 u3) v q := rd_fill h hf hB u0 u1 u2 u3
set_option maxRecDepth 100000 in
theorem kT (x : Int) (w : World) : Calls Try.prog 31 #[.int .i64 x] w fun e w' => e = .returned (.agg #[.int .i64 x, .int .i64 (-1)]) ∧ Nw w w' := by
  go_enter Try.func31, Try.ntmps31
  go_wp2
  refine bodyPost_ret (v := .agg #[.int .i64 x, .int .i64 (-1)]) (by simp [results, Try.results31, go_sem, *]) rfl ⟨rfl, ?_⟩
  exact (Nw.refl w).alloc _
set_option maxRecDepth 100000 in
theorem lEmpty (w : World) : Calls Try.prog 9 #[] w fun e w' => e = .returned (hdV 0 (-1) (.slice none 0 0) 0) ∧ Nw w w' := by
  have HT := Lib.hid (kT 0)
  have hb := HB.made w 0 0 (.slice none 0 0) 0
  have hN : Nw w (w.alloc (.cells #[.int .i64 0, .int .i64 0, .slice none 0 0, .int .i64 0] 27)) := (Nw.refl w).alloc _
  go_enter Try.func9, Try.ntmps9
  go_wp2_with fail
  go_at_call 31
  refine (HT.out _).mono ?_
  rintro e w1 ⟨rfl, g⟩
  have hb1 := hb.nw g
  have d0 := hcell (j := 0) hb1
  have d1 := hcell (j := 1) hb1
  have d2 := hcell (j := 2) hb1
  have d3 := hcell (j := 3) hb1
  have fz := fun k => hfz (j := k) hb1
  have hl := hlt hb1
  have HN := Lib.hid (hN.trans g)
  clear hb hb1 g hN HT
  go_wp2
  exact bodyPost_ret (v := .agg #[.int .i64 0, .int .i64 (-1), .slice none 0 0, .int .i64 0]) (by simp [results, Try.results9, go_sem, *]) rfl ⟨rfl, fill_nw HN.out (Nat.le_refl _) _ _ _ _⟩
theorem lq0 : Ok 0 [] := (okQ_iff 0 []).1 (by kernel_rfl)
theorem lq1 : Ok 0 [⟨0, 1, 3, 3, 0⟩] := (okQ_iff 0 [⟨0, 1, 3, 3, 0⟩]).1 (by kernel_rfl)
theorem lq2 : Ok 1 [⟨0, 1, 3, 3, 0⟩, ⟨1, 2, 0, 6, 1⟩] := (okQ_iff 1 [⟨0, 1, 3, 3, 0⟩, ⟨1, 2, 0, 6, 1⟩]).1 (by kernel_rfl)
theorem lq3 : Ok 2 [⟨0, 1, 3, 3, 0⟩, ⟨1, 2, 0, 6, 1⟩, ⟨2, 3, 0, 3, 2⟩] := (okQ_iff 2 [⟨0, 1, 3, 3, 0⟩, ⟨1, 2, 0, 6, 1⟩, ⟨2, 3, 0, 3, 2⟩]).1 (by kernel_rfl)
theorem lq4 : Ok 2 [⟨1, 2, 0, 6, 1⟩, ⟨2, 3, 0, 3, 2⟩] := (okQ_iff 2 [⟨1, 2, 0, 6, 1⟩, ⟨2, 3, 0, 3, 2⟩]).1 (by kernel_rfl)
theorem la0 : askR ⟨0, -1, 0, []⟩ 0 1 3 = (⟨0, -1, 0, [⟨0, 1, 3, 3, 0⟩]⟩, true, 0) := by kernel_rfl
theorem la1 : askR ⟨0, -1, 0, [⟨0, 1, 3, 3, 0⟩]⟩ 1 2 6 = (⟨0, -1, 1, [⟨0, 1, 3, 3, 0⟩, ⟨1, 2, 0, 6, 1⟩]⟩, false, 0) := by kernel_rfl
theorem la2 : askR ⟨0, -1, 1, [⟨0, 1, 3, 3, 0⟩, ⟨1, 2, 0, 6, 1⟩]⟩ 2 3 3 = (⟨0, -1, 2, [⟨0, 1, 3, 3, 0⟩, ⟨1, 2, 0, 6, 1⟩, ⟨2, 3, 0, 3, 2⟩]⟩, false, 0) := by kernel_rfl
theorem ll3 : lvR ⟨0, -1, 2, [⟨0, 1, 3, 3, 0⟩, ⟨1, 2, 0, 6, 1⟩, ⟨2, 3, 0, 3, 2⟩]⟩ 0 = (⟨0, -1, 2, [⟨1, 2, 0, 6, 1⟩, ⟨2, 3, 0, 3, 2⟩]⟩, 0) := by kernel_rfl
theorem ls4 : scanQ [⟨1, 2, 0, 6, 1⟩, ⟨2, 3, 0, 3, 2⟩] = ([1], [⟨1, 2, 6, 6, 0⟩, ⟨2, 3, 0, 3, 2⟩]) := by kernel_rfl
theorem lm5 : mdQ [⟨1, 2, 6, 6, 0⟩, ⟨2, 3, 0, 3, 2⟩] 2 = 6 ∧ mdQ [⟨1, 2, 6, 6, 0⟩, ⟨2, 3, 0, 3, 2⟩] 3 = 0 := ⟨by kernel_rfl, by kernel_rfl⟩
set_option maxRecDepth 100000 in
set_option maxHeartbeats 8000000 in
theorem lives_ok (w : World) : Calls Try.prog 7 #[] w fun e w' => e = .returned (.bool true) ∧ Nw w w' := by
  have HEm := Lib.hid lEmpty
  have HA0 := Lib.hid (fun w => dAsk 0 (-1) 0 0 1 3 (.slice none 0 0) [] w (by simp) lq0 (Rd.nil w))
  unfold HD2 at HA0
  rw [la0] at HA0
  unfold hdV at HEm HA0
  go_enter Try.func7, Try.ntmps7
  go_wp2_with fail
  go_at_call 9
  refine (HEm.out _).mono ?_
  rintro e w1 ⟨rfl, g1⟩
  go_wp2_with fail
  go_at_call 8
  refine (HA0.out _).mono ?_
  rintro e w2 ⟨v, rfl, g2, hR, _, hf⟩
  obtain ⟨a, k, hv⟩ := hR.form
  simp only [List.length_cons, List.length_nil, Nat.reduceAdd] at hv
  subst hv
  have hb := HB.made w2 0 (-1) (.slice a 1 k) 0
  have hN : Nw w (w2.alloc (.cells #[.int .i64 0, .int .i64 (-1), .slice a 1 k, .int .i64 0] 27)) := (g1.trans g2).alloc _
  replace hR := hR.nw ((Nw.refl w2).alloc (.cells #[.int .i64 0, .int .i64 (-1), .slice a 1 k, .int .i64 0] 27))
  obtain ⟨B, hB⟩ : ∃ B, w2.heap.size = B := ⟨_, rfl⟩
  have hBw : w.heap.size ≤ B := by rw [← hB]; exact (g1.trans g2).sz
  rw [hB] at hb
  have HW := Lib.hid hB
  obtain ⟨u1, hw3⟩ : ∃ u1, w2.alloc (.cells #[.int .i64 0, .int .i64 (-1), .slice a 1 k, .int .i64 0] 27) = u1 := ⟨_, rfl⟩
  have HW3 := Lib.hid hw3
  rw [hw3] at hb hN hR
  have H1 := Lib.hid (And.intro hb (And.intro hN hR))
  clear hB hw3 hf g1 g2 hb hN hR
  have HC1 := Lib.hid (dAsk 0 (-1) 0 1 2 6 (.slice a 1 k) [⟨0, 1, 3, 3, 0⟩] u1 (by simp) lq1 H1.out.2.2)
  unfold HD2 at HC1
  rw [la1] at HC1
  unfold hdV at HC1
  have c0 := hcell (j := 0) H1.out.1
  have c1 := hcell (j := 1) H1.out.1
  have c2 := hcell (j := 2) H1.out.1
  have c3 := hcell (j := 3) H1.out.1
  have hl := hlt H1.out.1
  go_wp2_with fail
  rw [HW3.out, HW.out]
  go_wp2_with fail
  go_at_call 8
  refine HC1.out.mono ?_
  rintro e u1' ⟨v, rfl, gg, hR, _, hf⟩
  clear c0 c1 c2 c3 hl
  have hb1 := H1.out.1.nw gg
  obtain ⟨a2, k2, hv⟩ := hR.form
  simp only [List.length_cons, List.length_nil, Nat.reduceAdd] at hv
  subst hv
  have d0 := hcell (j := 0) hb1
  have d1 := hcell (j := 1) hb1
  have d2 := hcell (j := 2) hb1
  have d3 := hcell (j := 3) hb1
  have dz := fun k => hfz (j := k) hb1
  have dl := hlt hb1
  obtain ⟨u2, hu2⟩ : ∃ x, filld u1' B (.int .i64 0) (.int .i64 (-1)) (.slice a2 2 k2) (.int .i64 1) = x := ⟨_, rfl⟩
  have H2 := Lib.hid (And.intro (hb1.fill 0 (-1) 1 (.slice a2 2 k2)) (And.intro (fill_nw (H1.out.2.1.trans gg) hBw (.int .i64 0) (.int .i64 (-1)) (.slice a2 2 k2) (.int .i64 1)) (rd_fill' hR hf (hlt H1.out.1) (.int .i64 0) (.int .i64 (-1)) (.slice a2 2 k2) (.int .i64 1))))
  change Hid (HB (filld u1' B (.int .i64 0) (.int .i64 (-1)) (.slice a2 2 k2) (.int .i64 1)) B 0 (-1) (.slice a2 2 k2) 1 ∧ Nw w (filld u1' B (.int .i64 0) (.int .i64 (-1)) (.slice a2 2 k2) (.int .i64 1)) ∧ RqAt (filld u1' B (.int .i64 0) (.int .i64 (-1)) (.slice a2 2 k2) (.int .i64 1)) (.slice a2 2 k2) _) at H2
  rw [hu2] at H2
  have HE2 := Lib.hid hu2
  clear hb1
  clear hu2 gg hR hf HC1
  have HC2 := Lib.hid (dAsk 0 (-1) 1 2 3 3 (.slice a2 2 k2) [⟨0, 1, 3, 3, 0⟩, ⟨1, 2, 0, 6, 1⟩] u2 (by simp) lq2 H2.out.2.2)
  unfold HD2 at HC2
  rw [la2] at HC2
  unfold hdV at HC2
  have c0 := hcell (j := 0) H2.out.1
  have c1 := hcell (j := 1) H2.out.1
  have c2 := hcell (j := 2) H2.out.1
  have c3 := hcell (j := 3) H2.out.1
  have hl := hlt H2.out.1
  go_wp2_with fail
  have hE := HE2.out; unfold filld at hE; rw [hE]; clear hE d0 d1 d2 d3 dz dl
  go_wp2_with fail
  go_at_call 8
  refine HC2.out.mono ?_
  rintro e u2' ⟨v, rfl, gg, hR, _, hf⟩
  clear c0 c1 c2 c3 hl
  have hb2 := H2.out.1.nw gg
  obtain ⟨a3, k3, hv⟩ := hR.form
  simp only [List.length_cons, List.length_nil, Nat.reduceAdd] at hv
  subst hv
  have d0 := hcell (j := 0) hb2
  have d1 := hcell (j := 1) hb2
  have d2 := hcell (j := 2) hb2
  have d3 := hcell (j := 3) hb2
  have dz := fun k => hfz (j := k) hb2
  have dl := hlt hb2
  obtain ⟨u3, hu3⟩ : ∃ x, filld u2' B (.int .i64 0) (.int .i64 (-1)) (.slice a3 3 k3) (.int .i64 2) = x := ⟨_, rfl⟩
  have H3 := Lib.hid (And.intro (hb2.fill 0 (-1) 2 (.slice a3 3 k3)) (And.intro (fill_nw (H2.out.2.1.trans gg) hBw (.int .i64 0) (.int .i64 (-1)) (.slice a3 3 k3) (.int .i64 2)) (rd_fill' hR hf (hlt H2.out.1) (.int .i64 0) (.int .i64 (-1)) (.slice a3 3 k3) (.int .i64 2))))
  change Hid (HB (filld u2' B (.int .i64 0) (.int .i64 (-1)) (.slice a3 3 k3) (.int .i64 2)) B 0 (-1) (.slice a3 3 k3) 2 ∧ Nw w (filld u2' B (.int .i64 0) (.int .i64 (-1)) (.slice a3 3 k3) (.int .i64 2)) ∧ RqAt (filld u2' B (.int .i64 0) (.int .i64 (-1)) (.slice a3 3 k3) (.int .i64 2)) (.slice a3 3 k3) _) at H3
  rw [hu3] at H3
  have HE3 := Lib.hid hu3
  clear hb2
  clear hu3 gg hR hf HC2
  have HC3 := Lib.hid (dLeave 0 (-1) 2 0 (.slice a3 3 k3) [⟨0, 1, 3, 3, 0⟩, ⟨1, 2, 0, 6, 1⟩, ⟨2, 3, 0, 3, 2⟩] u3 (by simp) H3.out.2.2)
  unfold HD1 at HC3
  rw [ll3] at HC3
  unfold hdV at HC3
  have c0 := hcell (j := 0) H3.out.1
  have c1 := hcell (j := 1) H3.out.1
  have c2 := hcell (j := 2) H3.out.1
  have c3 := hcell (j := 3) H3.out.1
  have hl := hlt H3.out.1
  go_wp2_with fail
  have hE := HE3.out; unfold filld at hE; rw [hE]; clear hE d0 d1 d2 d3 dz dl
  go_wp2_with fail
  go_at_call 11
  refine HC3.out.mono ?_
  rintro e u3' ⟨v, rfl, gg, hR, _, hf⟩
  clear c0 c1 c2 c3 hl
  have hb3 := H3.out.1.nw gg
  obtain ⟨a4, k4, hv⟩ := hR.form
  simp only [List.length_cons, List.length_nil, Nat.reduceAdd] at hv
  subst hv
  have d0 := hcell (j := 0) hb3
  have d1 := hcell (j := 1) hb3
  have d2 := hcell (j := 2) hb3
  have d3 := hcell (j := 3) hb3
  have dz := fun k => hfz (j := k) hb3
  have dl := hlt hb3
  obtain ⟨u4, hu4⟩ : ∃ x, filld u3' B (.int .i64 0) (.int .i64 (-1)) (.slice a4 2 k4) (.int .i64 2) = x := ⟨_, rfl⟩
  have H4 := Lib.hid (And.intro (hb3.fill 0 (-1) 2 (.slice a4 2 k4)) (And.intro (fill_nw (H3.out.2.1.trans gg) hBw (.int .i64 0) (.int .i64 (-1)) (.slice a4 2 k4) (.int .i64 2)) (rd_fill' hR hf (hlt H3.out.1) (.int .i64 0) (.int .i64 (-1)) (.slice a4 2 k4) (.int .i64 2))))
  change Hid (HB (filld u3' B (.int .i64 0) (.int .i64 (-1)) (.slice a4 2 k4) (.int .i64 2)) B 0 (-1) (.slice a4 2 k4) 2 ∧ Nw w (filld u3' B (.int .i64 0) (.int .i64 (-1)) (.slice a4 2 k4) (.int .i64 2)) ∧ RqAt (filld u3' B (.int .i64 0) (.int .i64 (-1)) (.slice a4 2 k4) (.int .i64 2)) (.slice a4 2 k4) _) at H4
  rw [hu4] at H4
  have HE4 := Lib.hid hu4
  clear hb3
  clear hu4 gg hR hf HC3
  have HC4 := Lib.hid (dScan 0 (-1) 2 (.slice a4 2 k4) [⟨1, 2, 0, 6, 1⟩, ⟨2, 3, 0, 3, 2⟩] u4 (by simp) lq4 H4.out.2.2 (stOk_small [⟨1, 2, 0, 6, 1⟩, ⟨2, 3, 0, 3, 2⟩] (by simp)))
  simp only [ls4] at HC4
  unfold hdV at HC4
  have c0 := hcell (j := 0) H4.out.1
  have c1 := hcell (j := 1) H4.out.1
  have c2 := hcell (j := 2) H4.out.1
  have c3 := hcell (j := 3) H4.out.1
  have hl := hlt H4.out.1
  go_wp2_with fail
  have hE := HE4.out; unfold filld at hE; rw [hE]; clear hE d0 d1 d2 d3 dz dl
  go_wp2_with fail
  go_at_call 12
  refine HC4.out.mono ?_
  rintro e u4' ⟨v, vi, rfl, gg, hR, _, hI, hf, hif⟩
  clear c0 c1 c2 c3 hl
  have hb4 := H4.out.1.nw gg
  obtain ⟨a5, k5, hv⟩ := hR.form
  simp only [List.length_cons, List.length_nil, Nat.reduceAdd] at hv
  subst hv
  have d0 := hcell (j := 0) hb4
  have d1 := hcell (j := 1) hb4
  have d2 := hcell (j := 2) hb4
  have d3 := hcell (j := 3) hb4
  have dz := fun k => hfz (j := k) hb4
  have dl := hlt hb4
  obtain ⟨u5, hu5⟩ : ∃ x, filld u4' B (.int .i64 0) (.int .i64 (-1)) (.slice a5 2 k5) (.int .i64 2) = x := ⟨_, rfl⟩
  have H5 := Lib.hid (And.intro (hb4.fill 0 (-1) 2 (.slice a5 2 k5)) (And.intro (fill_nw (H4.out.2.1.trans gg) hBw (.int .i64 0) (.int .i64 (-1)) (.slice a5 2 k5) (.int .i64 2)) (rd_fill' hR hf (hlt H4.out.1) (.int .i64 0) (.int .i64 (-1)) (.slice a5 2 k5) (.int .i64 2))))
  change Hid (HB (filld u4' B (.int .i64 0) (.int .i64 (-1)) (.slice a5 2 k5) (.int .i64 2)) B 0 (-1) (.slice a5 2 k5) 2 ∧ Nw w (filld u4' B (.int .i64 0) (.int .i64 (-1)) (.slice a5 2 k5) (.int .i64 2)) ∧ RqAt (filld u4' B (.int .i64 0) (.int .i64 (-1)) (.slice a5 2 k5) (.int .i64 2)) (.slice a5 2 k5) _) at H5
  rw [hu5] at H5
  have HE5 := Lib.hid hu5
  clear hb4
  have HI := Lib.hid (And.intro hI (And.intro hif (hlt H4.out.1)))
  clear hu5 gg hR hf HC4 hI hif
  have hI5 : IS u5 vi [1] := by
    rw [← HE5.out]
    exact is_fill HI.out.1 (fun g e => by have := HI.out.2.1 g e; have := HI.out.2.2; omega) _ _ _ _
  obtain ⟨ai, ci, hvi, _⟩ := HI.out.1.box
  subst hvi
  simp only [List.length_cons, List.length_nil, Nat.reduceAdd] at hI5
  have hI6 := hI5.nw ((Nw.refl u5).alloc (.cells #[.int .i64 1] 3))
  have hI7 : IS (u5.alloc (.cells #[.int .i64 1] 3)) (.slice (some ⟨u5.heap.size, 0, none⟩) 1 1) [1] := is_one u5 1
  have HSm := Lib.hid (same_any _ _ _ [1] hI6 hI7)
  have HMo := Lib.hid (fun (x : World) (g : Nw u5 x) (t : Int) => dMode 0 (-1) 2 t (.slice a5 2 k5) [⟨1, 2, 6, 6, 0⟩, ⟨2, 3, 0, 3, 2⟩] x (by simp) (H5.out.2.2.nw g))
  unfold hdV at HMo
  have M1 := Lib.hid (fun (x : World) (g : Nw u5 x) => HMo.out x g 2)
  have M2 := Lib.hid (fun (x : World) (g : Nw u5 x) => HMo.out x g 3)
  rw [lm5.1] at M1
  rw [lm5.2] at M2
  clear HMo hI5 hI6 hI7
  go_wp2_with fail
  have hE := HE5.out
  unfold filld at hE
  rw [hE]
  clear hE d0 d1 d2 d3 dz dl
  have hsz : u4'.heap.size = u5.heap.size := by rw [← HE5.out]; simp [World.setCell]
  rw [hsz]
  clear hsz
  go_at_call 17
  refine HSm.out.mono ?_
  rintro e x1 ⟨rfl, s1⟩
  have t1 : Nw u5 x1 := ((Nw.refl u5).alloc _).trans s1
  have c0 := hcell (j := 0) (H5.out.1.nw t1)
  have c1 := hcell (j := 1) (H5.out.1.nw t1)
  have c2 := hcell (j := 2) (H5.out.1.nw t1)
  have c3 := hcell (j := 3) (H5.out.1.nw t1)
  have hl := hlt (H5.out.1.nw t1)
  have T1 := Lib.hid t1
  clear s1 t1
  go_wp2_with fail
  go_at_call 18
  refine (M1.out _ T1.out).mono ?_
  rintro e x2 ⟨rfl, s2⟩
  have T2 := Lib.hid (T1.out.trans s2)
  clear c0 c1 c2 c3 hl
  have c0 := hcell (j := 0) (H5.out.1.nw T2.out)
  have c1 := hcell (j := 1) (H5.out.1.nw T2.out)
  have c2 := hcell (j := 2) (H5.out.1.nw T2.out)
  have c3 := hcell (j := 3) (H5.out.1.nw T2.out)
  have hl := hlt (H5.out.1.nw T2.out)
  clear s2
  go_wp2_with fail
  go_at_call 18
  refine (M2.out _ T2.out).mono ?_
  rintro e x3 ⟨rfl, s3⟩
  go_wp2
  go_ret
  exact ⟨rfl, H5.out.2.1.trans (T2.out.trans s3)⟩
end Go.Proofs.Ytmciiobncfchlaa
end

/- The document's own queue: Scan. -/
section
namespace Go.Proofs.Ytmciiobncfchlaa
open Go.RowKit
set_option linter.unusedVariables false      -- a contract need not use every name

def lenV : Value → Nat
  | .slice _ n _ => n
  | _ => 0
theorem is_len {w : World} {v : Value} {l : List Int} (h : IS w v l) : lenV v = l.length := by
  rcases h.form with ⟨rfl, rfl⟩ | ⟨g, cap, rfl⟩ <;> rfl
/-- Between two grants. -/
structure ScI (w : World) (t r W : Int) (a1 : Option Addr) (n1 k1 : Nat) (g0 pb rb : Nat) (q : List Rq) (u : Value) (ids : List Int) (q' : List Rq) (x : World) : Prop where
  isr : IS x u ids
  new : ∀ g, u.ownBlock = some g → w.heap.size ≤ g
  own : RqOwn x g0 (.slice a1 n1 k1) q'
  len : q'.length = n1
  st : Steps q ids q'
  pb : x.heap[pb]? = some (.cells #[.int .i64 t, .int .i64 r, .slice a1 n1 k1, .int .i64 W] 27 (0, 0))
  rb : x.heap[rb]? = some (.cells #[.int .i64 0, .int .i64 0, .slice none 0 0, .int .i64 0] 27 (0, 0))
  nw : Nw w x
theorem ScI.nx {w : World} {t r W : Int} {a1 : Option Addr} {n1 k1 g0 pb rb : Nat} {q : List Rq} {u : Value} {ids : List Int} {q' : List Rq} {x y : World} (h : ScI w t r W a1 n1 k1 g0 pb rb q u ids q' x) (g : Nw x y) : ScI w t r W a1 n1 k1 g0 pb rb q u ids q' y :=
  ⟨h.isr.nw g, h.new, onw h.own g, h.len, h.st, g.at' h.pb, g.at' h.rb, h.nw.trans g⟩
theorem not_fit {q : List Rq} {m : Int} {W : Int} (h : Ok W q) {k : Nat} (hk : k < q.length) (hf : ¬ fitI q m (k : Int)) : ∃ o ∈ q, o.id ≠ q[k].id ∧ o.md ≠ 0 ∧ cpI o.md m = false := by
  refine Classical.byContradiction fun hn => hf fun j hj ne hm => ?_
  cases e : cpI q[j].md m with
  | true => rfl
  | false => exact absurd ⟨q[j], List.getElem_mem hj, id_ne h hj hk (by omega), hm, e⟩ hn
theorem is_fit {q : List Rq} {m : Int} {k : Nat} (hk : k < q.length) (hf : fitI q m (k : Int)) : ∀ o ∈ q, o.id ≠ q[k].id → o.md ≠ 0 → cpI o.md m = true := by
  intro o ho ne hm
  obtain ⟨j, hj, rfl⟩ := List.getElem_of_mem ho
  exact hf j hj (fun e => ne (by have : j = k := by omega
                                 subst this; rfl)) hm
theorem heap_st {w : World} {B : Nat} {o : Option Obj} {p : Addr} (h : w.heap[B]? = o) (hp : p.block ≠ B) (u : Value) : (w.setCell p u).heap[B]? = o := by
  rw [← h]
  exact Below.heap_setCell _ _ _ _ (by first | exact hp | exact hp.symm)
theorem own_st' {w : World} {g0 e size n : Nat} {v : Value} {xs : List Value} {p : Addr} (h : w.ownsRow g0 e size v n xs) (hp : ∀ g, v.ownBlock = some g → g ≠ p.block) (u : Value) : (w.setCell p u).ownsRow g0 e size v n xs :=
  okeep h (sgrown w p u) (fun g hg q => hp g hg (Option.some.inj q).symm)
theorem is_ne {w : World} {u : Value} {l : List Int} {B : Nat} {c : Array Value} {T : TypeId} {fr : Nat × Nat} (h : IS w u l) (hb : w.heap[B]? = some (.cells c T fr)) (hT : T ≠ 3) : ∀ g, u.ownBlock = some g → g ≠ B := by
  rintro g hg rfl
  obtain ⟨c', hc⟩ := oheap h hg
  rw [hb] at hc
  injection hc with hc
  injection hc with _ e _
  exact hT e
theorem ScI.grt {w : World} {t r W : Int} {g n1 k1 g0 pb rb i j : Nat} {q : List Rq} {u a b : Value} {ids : List Int} {q' : List Rq} {x : World} (h : ScI w t r W (some ⟨g, 0, none⟩) n1 k1 g0 pb rb q u ids q' x) (hu : ∀ g', u.ownBlock = some g' → g' ≠ g) (hp : g ≠ pb) (hr : g ≠ rb) (hw : w.heap.size ≤ g) :
    IS ((x.drew.setCell ⟨g, i, none⟩ a).setCell ⟨g, j, none⟩ b) u ids ∧ ((x.drew.setCell ⟨g, i, none⟩ a).setCell ⟨g, j, none⟩ b).heap[pb]? = some (.cells #[.int .i64 t, .int .i64 r, .slice (some ⟨g, 0, none⟩) n1 k1, .int .i64 W] 27 (0, 0)) ∧
      ((x.drew.setCell ⟨g, i, none⟩ a).setCell ⟨g, j, none⟩ b).heap[rb]? = some (.cells #[.int .i64 0, .int .i64 0, .slice none 0 0, .int .i64 0] 27 (0, 0)) ∧ Nw w ((x.drew.setCell ⟨g, i, none⟩ a).setCell ⟨g, j, none⟩ b) :=
  ⟨own_st' (own_st' (h.isr.nw (Nw.refl _).dr) (p := ⟨g, i, none⟩) hu a) (p := ⟨g, j, none⟩) hu b, heap_st (heap_st (w := x.drew) h.pb (p := ⟨g, i, none⟩) hp a) (p := ⟨g, j, none⟩) hp b, heap_st (heap_st (w := x.drew) h.rb (p := ⟨g, i, none⟩) hr a) (p := ⟨g, j, none⟩) hr b,
    (h.nw.dr.st (p := ⟨g, i, none⟩) hw a).st (p := ⟨g, j, none⟩) hw b⟩
theorem own_tch {w w' : World} {g0 e size n : Nat} {u v : Value} {xs : List Value} (ho : w.ownsRow g0 e size v n xs) (hg : Tch (fun k => u.ownBlock = some k) w w') (hne : ∀ g, v.ownBlock = some g → u.ownBlock ≠ some g) : w'.ownsRow g0 e size v n xs :=
  okeep ho (row := u.ownBlock) ⟨hg.os, hg.tape, hg.output, hg.size, fun k hk hn => hg.block k hk (fun e => hn e.symm)⟩ hne
theorem ScI.push {w : World} {t r W : Int} {g n1 k1 g0 pb rb : Nat} {q : List Rq} {u u' : Value} {ids : List Int} {c : Int} {q' : List Rq} {y y1 : World} (hi : IS y u ids) (hn : ∀ g, u.ownBlock = some g → w.heap.size ≤ g) (ho : RqOwn y g0 (.slice (some ⟨g, 0, none⟩) n1 k1) q') (hl : q'.length = n1) (st : Steps q (ids ++ [c]) q')
    (hp : y.heap[pb]? = some (.cells #[.int .i64 t, .int .i64 r, .slice (some ⟨g, 0, none⟩) n1 k1, .int .i64 W] 27 (0, 0))) (hr : y.heap[rb]? = some (.cells #[.int .i64 0, .int .i64 0, .slice none 0 0, .int .i64 0] 27 (0, 0))) (nw : Nw w y)
    (i1 : IS y1 u' (ids ++ [c])) (tch : Tch (fun k => u.ownBlock = some k) y y1) (hb : ∀ k, u'.ownBlock = some k → u.ownBlock = some k ∨ y.heap.size ≤ k) (hug : ∀ g', u.ownBlock = some g' → g' ≠ g) : ScI w t r W (some ⟨g, 0, none⟩) n1 k1 g0 pb rb q u' (ids ++ [c]) q' y1 :=
  ⟨i1, fun k e => (hb k e).elim (hn k) (fun q => Nat.le_trans nw.sz q), own_tch ho tch (fun g2 e e2 => hug g2 e2 (Option.some.inj e).symm), hl, st, (tch.block pb (hlt hp) (fun e => is_ne hi hp (by decide) pb e rfl)).trans hp, (tch.block rb (hlt hr) (fun e => is_ne hi hr (by decide) rb e rfl)).trans hr, nw_tch nw tch hn⟩
theorem fill_is {a : World} {rb : Nat} {v : Value} {l : List Int} (h : IS a v l) (hb : ∀ g, v.ownBlock = some g → g ≠ rb) (u0 u1 u2 u3 : Value) : IS ((((a.setCell ⟨rb, 0, none⟩ u0).setCell ⟨rb, 1, none⟩ u1).setCell ⟨rb, 2, none⟩ u2).setCell ⟨rb, 3, none⟩ u3) v l :=
  own_st' (own_st' (own_st' (own_st' h (p := ⟨rb, 0, none⟩) hb u0) (p := ⟨rb, 1, none⟩) hb u1) (p := ⟨rb, 2, none⟩) hb u2) (p := ⟨rb, 3, none⟩) hb u3
set_option maxRecDepth 100000 in
set_option maxHeartbeats 16000000 in
theorem r9scan (t r W : Int) (v : Value) (q : List Rq) (w : World) (hl : q.length ≤ 1000) (hok : Ok W q) (h : RqAt w v q) :
    Calls Try.prog 28 #[hdV t r v W] w fun e w' => ∃ v' vi, e = .returned (.tuple #[hdV t r v' W, vi]) ∧ Nw w w' ∧ RqAt w' v' (scanQ q).2 ∧ capOk v' ∧ IS w' vi (scanQ q).1 := by
  have HOk := Lib.hid hok
  clear hok
  have HCp := Lib.hid (fun (w1 : World) (g : Nw w w1) => r9copied t r W v q w1 hl (h.nw g))
  unfold hdV at HCp
  unfold hdV
  obtain ⟨a, c, rfl, h⟩ := h
  clear h
  have HX := Lib.hid (two_boxes w (.cells #[.int .i64 t, .int .i64 r, .slice a q.length c, .int .i64 W] 27) (.cells #[.int .i64 0, .int .i64 0, .slice none 0 0, .int .i64 0] 27))
  go_enter Try.func28, Try.ntmps28
  go_wp2_with fail
  refine (HCp.out _ HX.out.2.2.1).mono ?_
  rintro e w1 ⟨v1, rfl, g1, hO⟩
  rw [HX.out.2.2.2] at hO
  obtain ⟨a1, k1, hv1⟩ := (RqOwn.rd hO).form
  subst hv1
  have hq1 := g1.at' HX.out.2.1
  have hN1 := HX.out.2.2.1.trans g1
  have hal := allocAt w1 (.cells #[.int .i64 t, .int .i64 r, .slice a1 q.length k1, .int .i64 W] 27)
  have hNa : Nw w1 (w1.alloc (.cells #[.int .i64 t, .int .i64 r, .slice a1 q.length k1, .int .i64 W] 27)) := (Nw.refl w1).alloc _
  have hs1 := g1.sz
  rw [HX.out.2.2.2] at hs1
  obtain ⟨pb, hpb⟩ : ∃ pb, w1.heap.size = pb := ⟨_, rfl⟩
  rw [hpb] at hal
  have hne : ∀ g, (Value.slice a1 q.length k1).ownBlock = some g → g ≠ pb := fun g hg e => by have := olt hO hg; omega
  have hI : ScI w t r W a1 q.length k1 (w.heap.size + 1 + 1) pb (w.heap.size + 1) q (.slice none 0 0) [] q (w1.alloc (.cells #[.int .i64 t, .int .i64 r, .slice a1 q.length k1, .int .i64 W] 27)) := ⟨IS.nil _, fun g hg => by simp [Value.ownBlock] at hg, onw hO hNa, rfl, .refl, hal, hNa.at' hq1, hN1.trans hNa⟩
  have HPn := Lib.hid (And.intro hne (show w.heap.size + 1 + 1 ≤ pb by omega))
  have HPb := Lib.hid hpb
  clear hne hpb hs1 g1 hq1 hN1 hal hNa hO HX HCp
  go_wp2
  rw [HPb.out]
  clear HPb
  generalize w1.alloc (.cells #[.int .i64 t, .int .i64 r, .slice a1 q.length k1, .int .i64 W] 27) = z at *
  clear w1
  go_loopw [5] (fun u wr => ∃ ids q', ScI w t r W a1 q.length k1 (w.heap.size + 1 + 1) pb (w.heap.size + 1) q u ids q' wr) (fun u _ => wtg q - lenV u)
  case atStart => exact ⟨[], q, hI⟩
  case round =>
    clear hI
    obtain ⟨ids, q2, hS⟩ := hrel
    have hok2 := hS.st.ok HOk.out
    have hl2 : q2.length ≤ 1000 := by rw [hS.len]; exact hl
    have hal := hS.pb
    have p0 := hcell (j := 0) hal
    have p1 := hcell (j := 1) hal
    have p2 := hcell (j := 2) hal
    have p3 := hcell (j := 3) hal
    have hpl := hlt hal
    have HU := Lib.hid (r9upgrading t r W (.slice a1 q.length k1) q2 wr hl2 hS.own.rd)
    have HWa := Lib.hid (fun (w1 : World) (g : Nw wr w1) => r9waiting t r W (.slice a1 q.length k1) q2 w1 hl2 (hS.own.rd.nw g))
    have HF := Lib.hid (fun (mm but : Int) (w1 : World) (g : Nw wr w1) => r9fits t r W mm but (.slice a1 q.length k1) q2 w1 hl2 (hS.own.rd.nw g))
    unfold hdV at HU HWa HF
    have HS := Lib.hid hS
    have HO2 := Lib.hid hok2
    have hul := is_len hS.isr
    have hwt := hS.st.wtg HOk.out
    have HM := Lib.hid (And.intro hul hwt)
    clear hS hok2 hal hul hwt
    go_wp2_with fail
    refine HU.out.mono ?_
    rintro e w5 ⟨j, rfl, g5, hj⟩
    have HG5 := Lib.hid g5
    have hal5 := g5.at' HS.out.pb
    clear p0 p1 p2 p3 hpl g5
    have p0 := hcell (j := 0) hal5
    have p1 := hcell (j := 1) hal5
    have p2 := hcell (j := 2) hal5
    have p3 := hcell (j := 3) hal5
    have hpl := hlt hal5
    clear hal5
    rcases hj with ⟨rfl, hno⟩ | ⟨k, rfl, _, hk, hu, hmin⟩
    rotate_left
    · skip
      have hmin2 := fun a ha u => hmin a (by rw [List.take_length]; exact ha) u
      have HYes := Lib.hid (fun hf => cand_up HO2.out (List.getElem_mem hk) hu hmin2 hf)
      have HNo := Lib.hid (fun hf => done_up HO2.out (List.getElem_mem hk) hu hmin2 hf)
      clear hmin hmin2 hu HU HWa
      have hSz := HS.out.nx HG5.out
      rcases oform hSz.own with ⟨e, _⟩ | ⟨g, cap, e⟩
      · exfalso; have := hSz.len; simp only [Value.slice.injEq] at e; omega
      simp only [Value.slice.injEq] at e
      obtain ⟨rfl, e2, rfl⟩ := e
      clear e2
      have hnl := hSz.len
      have hki : (k : Int) < (q.length : Int) := by omega
      have hk0 : decide ((k : Int) < 0) = false := by simp
      have HCl := Lib.hid (fun (x : World) (gx : Nw w5 x) => own_cell (onw hSz.own gx) hnl.symm k hk)
      have HFi := Lib.hid (fun (f : ¬ fitI q2 q2[k].wt (k : Int)) => not_fit HO2.out hk f)
      have HFy := Lib.hid (fun (f : fitI q2 q2[k].wt (k : Int)) => is_fit hk f)
      have HSz := Lib.hid hSz
      have HUp := Lib.hid (fun (x : World) (h : RqOwn x (w.heap.size + 1 + 1) (.slice (some ⟨g, 0, none⟩) q.length k1) q2) => own_upd (own_upd h hnl.symm k hk 2 (by decide) (.int .i64 q2[k].wt) ⟨q2[k].id, q2[k].txn, q2[k].wt, q2[k].wt, q2[k].sn⟩ rfl) (by rw [List.length_set]; exact hnl.symm) k (by rw [List.length_set]; exact hk) 4 (by decide) (.int .i64 0) (grtR q2[k]) (by rw [List.getElem_set_self]; rfl))
      simp only [List.set_set] at HUp
      have HSt := Lib.hid (fun hc => HS.out.st.snoc (List.getElem_mem hk) hc)
      have HCh := Lib.hid (chg_set HO2.out grtR k hk)
      have HHk := Lib.hid hk
      generalize q2[k] = R at *
      obtain ⟨b0, b1, b2, b3, b4⟩ := R
      have hal := hSz.pb
      clear hSz hk p0 p1 p2 p3 hpl
      go_wp2_with fail
      obtain ⟨S, hSe⟩ : ∃ S, S = Nw w5 := ⟨_, rfl⟩
      have hS0 : Hs S w5.drew := by subst hSe; exact (Nw.refl _).dr
      have t0 : ∀ x, Hs S x → x.cell? ⟨pb, 0, none⟩ = some (.int .i64 t) := fun x h => by subst hSe; exact Nw.kp h (hcell hal)
      have t1 : ∀ x, Hs S x → x.cell? ⟨pb, 1, none⟩ = some (.int .i64 r) := fun x h => by subst hSe; exact Nw.kp h (hcell hal)
      have t2 : ∀ x, Hs S x → x.cell? ⟨pb, 2, none⟩ = some (.slice (some ⟨g, 0, none⟩) q.length k1) := fun x h => by subst hSe; exact Nw.kp h (hcell hal)
      have t3 : ∀ x, Hs S x → x.cell? ⟨pb, 3, none⟩ = some (.int .i64 W) := fun x h => by subst hSe; exact Nw.kp h (hcell hal)
      have t4 : ∀ x, Hs S x → x.cell? ⟨g, k * 5 + 3, none⟩ = some (.int .i64 b3) := fun x h => by subst hSe; exact HCl.out x h 3 _ rfl
      have HN := Lib.hid (show ∀ a b, Hs S a → Nw a b → Hs S b from fun a b h g => by subst hSe; exact Nw.trans h g)
      have HV := Lib.hid (show ∀ a, Hs S a → Nw w5 a from fun a h => by subst hSe; exact h)
      clear hSe hal
      refine region_plan (.take (.take (.take (.take (.take (.take (.take (.take (.take (.take (.take (.off (.go1 (.take (.take .fin))))))))))))))) (Hs S) (by kernel_rfl) (by kernel_rfl) (by kernel_rfl) hS0 ?_
      iterate 11 (refine HP.take' ?_; (first | (refine ⟨undef, Or.inr ⟨by rfl, rfl⟩, ?_⟩) | (apply Exists.intro; refine ⟨Or.inl ⟨by rfl, ?_⟩, ?_⟩; (intro x hx'; go_simp; first | done | with_reducible rfl))); (try simp only [Act.put, List.setIfInBounds_toArray, List.set_cons_zero, List.set_cons_succ]))
      refine HP.off ?_
      refine HP.go1 (fun KK hKK => ?_)
      go_simp
      refine (HF.out b3 (k : Int) _ ((HG5.out).trans (HV.out _ hS0))).mono ?_
      rintro e y1 ⟨f, rfl, gf, hff⟩
      have hS1 := HN.out _ _ hS0 gf
      refine hKK.out _ _ hS1 ?_
      intro _
      clear hKK KK
      (try simp only [Act.put, List.setIfInBounds_toArray, List.set_cons_zero, List.set_cons_succ])
      cases f
      · iterate 2 (refine HP.take' ?_; (first | (refine ⟨undef, Or.inr ⟨by rfl, rfl⟩, ?_⟩) | (apply Exists.intro; refine ⟨Or.inl ⟨by rfl, ?_⟩, ?_⟩; (intro x hx'; go_simp; first | done | with_reducible rfl))); (try simp only [Act.put, List.setIfInBounds_toArray, List.set_cons_zero, List.set_cons_succ]))
        refine HP.end_ ?_
        refine NoPanic.normal ?_
        have HD := Lib.hid (HNo.out (HFi.out (fun e => by have := hff.2 e; cases this)))
        have HY1 := Lib.hid ((HG5.out).trans (HV.out _ hS1))
        clear hff hS0 hS1 t0 t1 t2 t3 t4 HN HV gf HSt HCh HUp HCl HFi HFy HSz
        have hsc := (HS.out.st.scan HOk.out HD.out)
        have hSn := HS.out.nx HY1.out
        have hq := hSn.rb
        have hal := hSn.pb
        have p0 := hcell (j := 0) hal
        have p1 := hcell (j := 1) hal
        have p2 := hcell (j := 2) hal
        have p3 := hcell (j := 3) hal
        have d0 := hcell (j := 0) hq
        have d1 := hcell (j := 1) hq
        have d2 := hcell (j := 2) hq
        have d3 := hcell (j := 3) hq
        have fz := fun k => hfz (j := k) hq
        have hpl := hlt hal
        have HSn := Lib.hid hSn
        have HSc := Lib.hid hsc
        have HNe := Lib.hid (is_ne hSn.isr hq (by decide))
        obtain ⟨ua, uc, hu5, _⟩ := hSn.isr.box
        obtain ⟨ul, hul⟩ : ∃ n, ids.length = n := ⟨_, rfl⟩
        rw [hul] at hu5
        subst hu5
        clear hsc hSn hq hal hul HD HYes HNo HF HM HO2
        go_wp2
        refine bodyPost_ret (v := .tuple #[.agg #[.int .i64 t, .int .i64 r, .slice (some ⟨g, 0, none⟩) q.length k1, .int .i64 W], .slice ua ul uc]) (by simp [results, Try.results28, go_sem, *]) rfl ⟨_, _, rfl, fill_nw HSn.out.nw (Nat.le_succ _) _ _ _ _, ?_, ?_, ?_⟩
        · rw [HSc.out]; exact RqOwn.rd (fill_own HSn.out.own (by omega) _ _ _ _)
        · exact RqOwn.cap HSn.out.own
        · rw [HSc.out]; exact fill_is HSn.out.isr HNe.out _ _ _ _
      · iterate 2 (refine HP.take' ?_; (first | (refine ⟨undef, Or.inr ⟨by rfl, rfl⟩, ?_⟩) | (apply Exists.intro; refine ⟨Or.inl ⟨by rfl, ?_⟩, ?_⟩; (intro x hx'; go_simp; first | done | with_reducible rfl))); (try simp only [Act.put, List.setIfInBounds_toArray, List.set_cons_zero, List.set_cons_succ]))
        refine HP.end_ ?_
        refine NoPanic.normal ?_
        have HD := Lib.hid (HYes.out (HFy.out (hff.1 rfl)))
        have HY1 := Lib.hid (HV.out _ hS1)
        clear hff hS0 hS1 t0 t1 t2 t3 t4 HN HV gf HFi HFy HYes HNo HF
        have hy := HSz.out.nx HY1.out
        have hg1 := oge hy.own (g := g) rfl
        obtain ⟨cr, hcr⟩ := oheap hy.own (g := g) rfl
        have HIg := Lib.hid (is_ne hy.isr hcr (by decide))
        clear hcr
        have hpg : g ≠ pb := HPn.out.1 g rfl
        have hpc : ∀ j, y1.cell? ⟨pb, j, none⟩ = _ := fun j => hcell (j := j) hy.pb
        have p2 := hpc 2
        have r2 := HCl.out _ HY1.out 2 _ rfl
        have r3 := HCl.out _ HY1.out 3 _ rfl
        have r4 := HCl.out _ HY1.out 4 _ rfl
        have rz := own_frz hy.own (by exact hy.len.symm)
        have HU := Lib.hid (HUp.out _ (onw hy.own (Nw.refl _).dr))
        have HY := Lib.hid hy
        have HG := Lib.hid (And.intro hg1 hpg)
        have n3 : ¬ (pb = g) := fun e => hpg e.symm
        have n4 : ¬ (g = pb) := hpg
        clear hpc hy HCl HUp HSz hg1 hpg
        go_wp2_with fail
        obtain ⟨y0, hy0⟩ : ∃ y0, y1.drew = y0 := ⟨_, rfl⟩
        obtain ⟨S, hSe⟩ : ∃ S : World → Prop, S = fun x => x = y0 ∨ x = y0.setCell ⟨g, k * 5 + 2, none⟩ (.int .i64 b3) ∨ x = (y0.setCell ⟨g, k * 5 + 2, none⟩ (.int .i64 b3)).setCell ⟨g, k * 5 + 4, none⟩ (.int .i64 0) := ⟨_, rfl⟩
        have s2 : y0.cell? ⟨pb, 2, none⟩ = some (.slice (some ⟨g, 0, none⟩) q.length k1) := by subst hy0; exact p2
        have s4 : y0.cell? ⟨g, k * 5 + 2, none⟩ = some (.int .i64 b2) := by subst hy0; exact r2
        have s5 : y0.cell? ⟨g, k * 5 + 3, none⟩ = some (.int .i64 b3) := by subst hy0; exact r3
        have s6 : y0.cell? ⟨g, k * 5 + 4, none⟩ = some (.int .i64 b4) := by subst hy0; exact r4
        have s7 : ∀ j, y0.frozen? ⟨g, j, none⟩ = false := by subst hy0; exact rz
        have t2 : ∀ x, Hs S x → x.cell? ⟨pb, 2, none⟩ = some (.slice (some ⟨g, 0, none⟩) q.length k1) := fun x h => by subst hSe; rcases h with rfl | rfl | rfl <;> simp [go_sem, s2]
        have t4 : ∀ x, Hs S x → x.cell? ⟨g, k * 5 + 3, none⟩ = some (.int .i64 b3) := fun x h => by subst hSe; rcases h with rfl | rfl | rfl <;> simp [go_sem, s5]
        have hS0 : Hs S y1.drew := by rw [hy0, hSe]; exact .inl rfl
        have hS1 : Hs S (y0.setCell ⟨g, k * 5 + 2, none⟩ (.int .i64 b3)) := by rw [hSe]; exact .inr (.inl rfl)
        have hS2 : Hs S ((y0.setCell ⟨g, k * 5 + 2, none⟩ (.int .i64 b3)).setCell ⟨g, k * 5 + 4, none⟩ (.int .i64 0)) := by rw [hSe]; exact .inr (.inr rfl)
        clear hSe
        refine region_plan (.take (.take (.take (.take (.take (.take (.take (.take (.take (.take (.take (.take (.take (.take (.off (.go1 (.take (.take (.off (.go1 .fin)))))))))))))))))))) (Hs S) (by kernel_rfl) (by kernel_rfl) (by kernel_rfl) hS0 ?_
        rw [hy0]
        iterate 14 (refine HP.take' ?_; (first | (refine ⟨undef, Or.inr ⟨by rfl, rfl⟩, ?_⟩) | (apply Exists.intro; refine ⟨Or.inl ⟨by rfl, ?_⟩, ?_⟩; (intro x hx'; go_simp; first | done | with_reducible rfl))); (try simp only [Act.put, List.setIfInBounds_toArray, List.set_cons_zero, List.set_cons_succ]))
        refine HP.off ?_
        refine HP.go1 (fun KK hKK => ?_)
        go_simp
        refine hKK.out _ _ hS1 ?_
        intro _
        clear hKK KK
        (try simp only [Act.put, List.setIfInBounds_toArray, List.set_cons_zero, List.set_cons_succ])
        iterate 2 (refine HP.take' ?_; (first | (refine ⟨undef, Or.inr ⟨by rfl, rfl⟩, ?_⟩) | (apply Exists.intro; refine ⟨Or.inl ⟨by rfl, ?_⟩, ?_⟩; (intro x hx'; go_simp; first | done | with_reducible rfl))); (try simp only [Act.put, List.setIfInBounds_toArray, List.set_cons_zero, List.set_cons_succ]))
        refine HP.off ?_
        refine HP.go1 (fun KK hKK => ?_)
        go_simp
        refine hKK.out _ _ hS2 ?_
        intro _
        clear hKK KK
        (try simp only [Act.put, List.setIfInBounds_toArray, List.set_cons_zero, List.set_cons_succ])
        refine HP.end_ ?_
        refine NoPanic.normal ?_
        subst hy0
        clear hS0 hS1 hS2 t2 t4 s2 s4 s5 s6 s7 p2 r2 r3 r4 rz n3 n4
        have hgg := HG.out.1
        have hgr := HY.out.grt (i := k * 5 + 2) (j := k * 5 + 4) (a := .int .i64 b3) (b := .int .i64 0) HIg.out HG.out.2 (by omega) (by omega)
        have hcl := own_cell HU.out (by rw [List.length_set]; exact hnl.symm) k (by rw [List.length_set]; exact HHk.out) 0 (.int .i64 b0) (by rw [List.getElem_set_self]; rfl)
        simp only [Nat.add_zero] at hcl
        generalize (y1.drew.setCell ⟨g, k * 5 + 2, none⟩ (.int .i64 b3)).setCell ⟨g, k * 5 + 4, none⟩ (.int .i64 0) = y at *
        have p2 : y.cell? ⟨pb, 2, none⟩ = some (.slice (some ⟨g, 0, none⟩) q.length k1) := hcell hgr.2.1
        have hSt := HSt.out HD.out
        rw [HCh.out] at hSt
        have hw := hSt.wtg HOk.out
        rw [List.length_append] at hw
        simp only [List.length_singleton] at hw
        have hwl : wtg q ≤ q.length := List.countP_le_length
        obtain ⟨ao, co, hu5, _⟩ := hgr.1.box
        subst hu5
        obtain ⟨v3, y3, hrun, q1, qt, qb, g3, cap3, hv3⟩ := IS.push y _ ids b0 hgr.1 (by omega)
        subst hv3
        have hS3 := ScI.push hgr.1 HY.out.new HU.out (by rw [List.length_set]; exact hnl) hSt hgr.2.1 hgr.2.2.1 hgr.2.2.2 q1 qt qb HIg.out
        have HS3 := Lib.hid hS3
        have HR2 := Lib.hid hrun
        have HW := Lib.hid (And.intro HM.out.1 hw)
        clear hS3 hrun hw hwl hSt hgr q1 qt qb hgg HY HIg HG HU HD HSt HCh HM
        go_wp2_with (at_builtin; (refine wpl_app (by rfl) (.tmp 47) (.tmp 54) 36 rfl _ _ _ _ rfl rfl HR2.out ?_))
        go_roundw
        case rel => exact ⟨_, _, HS3.out⟩
        case measure => have := HW.out.1; have := HW.out.2; simp [lenV]; omega
    have hno2 := fun a ha => hno a (by rw [List.take_length]; exact ha)
    go_wp2_with fail
    refine (HWa.out _ HG5.out).mono ?_
    rintro e w6 ⟨jw, rfl, g6, hjw⟩
    have HG6 := Lib.hid (HG5.out.trans g6)
    have hal6 := HG6.out.at' HS.out.pb
    clear p0 p1 p2 p3 hpl g6
    have p0 := hcell (j := 0) hal6
    have p1 := hcell (j := 1) hal6
    have p2 := hcell (j := 2) hal6
    have p3 := hcell (j := 3) hal6
    have hpl := hlt hal6
    clear hal6
    rcases hjw with ⟨rfl, hz⟩ | ⟨k, rfl, hk, hz, hfi⟩
    rotate_left
    · skip
      have HYes := Lib.hid (fun hf => cand_wa HO2.out hk hz hfi hno2 hf)
      have HNo := Lib.hid (fun hf => done_wa HO2.out hk hz hfi hno2 hf)
      clear hno hno2 hz hfi HU HWa
      have hSz := HS.out.nx HG6.out
      rcases oform hSz.own with ⟨e, _⟩ | ⟨g, cap, e⟩
      · exfalso; have := hSz.len; simp only [Value.slice.injEq] at e; omega
      simp only [Value.slice.injEq] at e
      obtain ⟨rfl, e2, rfl⟩ := e
      clear e2
      have hnl := hSz.len
      have hki : (k : Int) < (q.length : Int) := by omega
      have hk0 : decide ((k : Int) < 0) = false := by simp
      have HCl := Lib.hid (fun (x : World) (gx : Nw w6 x) => own_cell (onw hSz.own gx) hnl.symm k hk)
      have HFi := Lib.hid (fun (f : ¬ fitI q2 q2[k].wt (k : Int)) => not_fit HO2.out hk f)
      have HFy := Lib.hid (fun (f : fitI q2 q2[k].wt (k : Int)) => is_fit hk f)
      have HSz := Lib.hid hSz
      have HUp := Lib.hid (fun (x : World) (h : RqOwn x (w.heap.size + 1 + 1) (.slice (some ⟨g, 0, none⟩) q.length k1) q2) => own_upd (own_upd h hnl.symm k hk 2 (by decide) (.int .i64 q2[k].wt) ⟨q2[k].id, q2[k].txn, q2[k].wt, q2[k].wt, q2[k].sn⟩ rfl) (by rw [List.length_set]; exact hnl.symm) k (by rw [List.length_set]; exact hk) 4 (by decide) (.int .i64 0) (grtR q2[k]) (by rw [List.getElem_set_self]; rfl))
      simp only [List.set_set] at HUp
      have HSt := Lib.hid (fun hc => HS.out.st.snoc (List.getElem_mem hk) hc)
      have HCh := Lib.hid (chg_set HO2.out grtR k hk)
      have HHk := Lib.hid hk
      generalize q2[k] = R at *
      obtain ⟨b0, b1, b2, b3, b4⟩ := R
      have hal := hSz.pb
      clear hSz hk p0 p1 p2 p3 hpl
      go_wp2_with fail
      obtain ⟨S, hSe⟩ : ∃ S, S = Nw w6 := ⟨_, rfl⟩
      have hS0 : Hs S w6.drew := by subst hSe; exact (Nw.refl _).dr
      have t0 : ∀ x, Hs S x → x.cell? ⟨pb, 0, none⟩ = some (.int .i64 t) := fun x h => by subst hSe; exact Nw.kp h (hcell hal)
      have t1 : ∀ x, Hs S x → x.cell? ⟨pb, 1, none⟩ = some (.int .i64 r) := fun x h => by subst hSe; exact Nw.kp h (hcell hal)
      have t2 : ∀ x, Hs S x → x.cell? ⟨pb, 2, none⟩ = some (.slice (some ⟨g, 0, none⟩) q.length k1) := fun x h => by subst hSe; exact Nw.kp h (hcell hal)
      have t3 : ∀ x, Hs S x → x.cell? ⟨pb, 3, none⟩ = some (.int .i64 W) := fun x h => by subst hSe; exact Nw.kp h (hcell hal)
      have t4 : ∀ x, Hs S x → x.cell? ⟨g, k * 5 + 3, none⟩ = some (.int .i64 b3) := fun x h => by subst hSe; exact HCl.out x h 3 _ rfl
      have HN := Lib.hid (show ∀ a b, Hs S a → Nw a b → Hs S b from fun a b h g => by subst hSe; exact Nw.trans h g)
      have HV := Lib.hid (show ∀ a, Hs S a → Nw w6 a from fun a h => by subst hSe; exact h)
      clear hSe hal
      refine region_plan (.take (.take (.take (.take (.take (.take (.take (.take (.take (.take (.take (.off (.go1 (.take (.take .fin))))))))))))))) (Hs S) (by kernel_rfl) (by kernel_rfl) (by kernel_rfl) hS0 ?_
      iterate 11 (refine HP.take' ?_; (first | (refine ⟨undef, Or.inr ⟨by rfl, rfl⟩, ?_⟩) | (apply Exists.intro; refine ⟨Or.inl ⟨by rfl, ?_⟩, ?_⟩; (intro x hx'; go_simp; first | done | with_reducible rfl))); (try simp only [Act.put, List.setIfInBounds_toArray, List.set_cons_zero, List.set_cons_succ]))
      refine HP.off ?_
      refine HP.go1 (fun KK hKK => ?_)
      go_simp
      refine (HF.out b3 (k : Int) _ ((HG6.out).trans (HV.out _ hS0))).mono ?_
      rintro e y1 ⟨f, rfl, gf, hff⟩
      have hS1 := HN.out _ _ hS0 gf
      refine hKK.out _ _ hS1 ?_
      intro _
      clear hKK KK
      (try simp only [Act.put, List.setIfInBounds_toArray, List.set_cons_zero, List.set_cons_succ])
      cases f
      · iterate 2 (refine HP.take' ?_; (first | (refine ⟨undef, Or.inr ⟨by rfl, rfl⟩, ?_⟩) | (apply Exists.intro; refine ⟨Or.inl ⟨by rfl, ?_⟩, ?_⟩; (intro x hx'; go_simp; first | done | with_reducible rfl))); (try simp only [Act.put, List.setIfInBounds_toArray, List.set_cons_zero, List.set_cons_succ]))
        refine HP.end_ ?_
        refine NoPanic.normal ?_
        have HD := Lib.hid (HNo.out (HFi.out (fun e => by have := hff.2 e; cases this)))
        have HY1 := Lib.hid ((HG6.out).trans (HV.out _ hS1))
        clear hff hS0 hS1 t0 t1 t2 t3 t4 HN HV gf HSt HCh HUp HCl HFi HFy HSz
        have hsc := (HS.out.st.scan HOk.out HD.out)
        have hSn := HS.out.nx HY1.out
        have hq := hSn.rb
        have hal := hSn.pb
        have p0 := hcell (j := 0) hal
        have p1 := hcell (j := 1) hal
        have p2 := hcell (j := 2) hal
        have p3 := hcell (j := 3) hal
        have d0 := hcell (j := 0) hq
        have d1 := hcell (j := 1) hq
        have d2 := hcell (j := 2) hq
        have d3 := hcell (j := 3) hq
        have fz := fun k => hfz (j := k) hq
        have hpl := hlt hal
        have HSn := Lib.hid hSn
        have HSc := Lib.hid hsc
        have HNe := Lib.hid (is_ne hSn.isr hq (by decide))
        obtain ⟨ua, uc, hu5, _⟩ := hSn.isr.box
        obtain ⟨ul, hul⟩ : ∃ n, ids.length = n := ⟨_, rfl⟩
        rw [hul] at hu5
        subst hu5
        clear hsc hSn hq hal hul HD HYes HNo HF HM HO2
        go_wp2
        refine bodyPost_ret (v := .tuple #[.agg #[.int .i64 t, .int .i64 r, .slice (some ⟨g, 0, none⟩) q.length k1, .int .i64 W], .slice ua ul uc]) (by simp [results, Try.results28, go_sem, *]) rfl ⟨_, _, rfl, fill_nw HSn.out.nw (Nat.le_succ _) _ _ _ _, ?_, ?_, ?_⟩
        · rw [HSc.out]; exact RqOwn.rd (fill_own HSn.out.own (by omega) _ _ _ _)
        · exact RqOwn.cap HSn.out.own
        · rw [HSc.out]; exact fill_is HSn.out.isr HNe.out _ _ _ _
      · iterate 2 (refine HP.take' ?_; (first | (refine ⟨undef, Or.inr ⟨by rfl, rfl⟩, ?_⟩) | (apply Exists.intro; refine ⟨Or.inl ⟨by rfl, ?_⟩, ?_⟩; (intro x hx'; go_simp; first | done | with_reducible rfl))); (try simp only [Act.put, List.setIfInBounds_toArray, List.set_cons_zero, List.set_cons_succ]))
        refine HP.end_ ?_
        refine NoPanic.normal ?_
        have HD := Lib.hid (HYes.out (HFy.out (hff.1 rfl)))
        have HY1 := Lib.hid (HV.out _ hS1)
        clear hff hS0 hS1 t0 t1 t2 t3 t4 HN HV gf HFi HFy HYes HNo HF
        have hy := HSz.out.nx HY1.out
        have hg1 := oge hy.own (g := g) rfl
        obtain ⟨cr, hcr⟩ := oheap hy.own (g := g) rfl
        have HIg := Lib.hid (is_ne hy.isr hcr (by decide))
        clear hcr
        have hpg : g ≠ pb := HPn.out.1 g rfl
        have hpc : ∀ j, y1.cell? ⟨pb, j, none⟩ = _ := fun j => hcell (j := j) hy.pb
        have p2 := hpc 2
        have r2 := HCl.out _ HY1.out 2 _ rfl
        have r3 := HCl.out _ HY1.out 3 _ rfl
        have r4 := HCl.out _ HY1.out 4 _ rfl
        have rz := own_frz hy.own (by exact hy.len.symm)
        have HU := Lib.hid (HUp.out _ (onw hy.own (Nw.refl _).dr))
        have HY := Lib.hid hy
        have HG := Lib.hid (And.intro hg1 hpg)
        have n3 : ¬ (pb = g) := fun e => hpg e.symm
        have n4 : ¬ (g = pb) := hpg
        clear hpc hy HCl HUp HSz hg1 hpg
        go_wp2_with fail
        obtain ⟨y0, hy0⟩ : ∃ y0, y1.drew = y0 := ⟨_, rfl⟩
        obtain ⟨S, hSe⟩ : ∃ S : World → Prop, S = fun x => x = y0 ∨ x = y0.setCell ⟨g, k * 5 + 2, none⟩ (.int .i64 b3) ∨ x = (y0.setCell ⟨g, k * 5 + 2, none⟩ (.int .i64 b3)).setCell ⟨g, k * 5 + 4, none⟩ (.int .i64 0) := ⟨_, rfl⟩
        have s2 : y0.cell? ⟨pb, 2, none⟩ = some (.slice (some ⟨g, 0, none⟩) q.length k1) := by subst hy0; exact p2
        have s4 : y0.cell? ⟨g, k * 5 + 2, none⟩ = some (.int .i64 b2) := by subst hy0; exact r2
        have s5 : y0.cell? ⟨g, k * 5 + 3, none⟩ = some (.int .i64 b3) := by subst hy0; exact r3
        have s6 : y0.cell? ⟨g, k * 5 + 4, none⟩ = some (.int .i64 b4) := by subst hy0; exact r4
        have s7 : ∀ j, y0.frozen? ⟨g, j, none⟩ = false := by subst hy0; exact rz
        have t2 : ∀ x, Hs S x → x.cell? ⟨pb, 2, none⟩ = some (.slice (some ⟨g, 0, none⟩) q.length k1) := fun x h => by subst hSe; rcases h with rfl | rfl | rfl <;> simp [go_sem, s2]
        have t4 : ∀ x, Hs S x → x.cell? ⟨g, k * 5 + 3, none⟩ = some (.int .i64 b3) := fun x h => by subst hSe; rcases h with rfl | rfl | rfl <;> simp [go_sem, s5]
        have hS0 : Hs S y1.drew := by rw [hy0, hSe]; exact .inl rfl
        have hS1 : Hs S (y0.setCell ⟨g, k * 5 + 2, none⟩ (.int .i64 b3)) := by rw [hSe]; exact .inr (.inl rfl)
        have hS2 : Hs S ((y0.setCell ⟨g, k * 5 + 2, none⟩ (.int .i64 b3)).setCell ⟨g, k * 5 + 4, none⟩ (.int .i64 0)) := by rw [hSe]; exact .inr (.inr rfl)
        clear hSe
        refine region_plan (.take (.take (.take (.take (.take (.take (.take (.take (.take (.take (.take (.take (.take (.take (.off (.go1 (.take (.take (.off (.go1 .fin)))))))))))))))))))) (Hs S) (by kernel_rfl) (by kernel_rfl) (by kernel_rfl) hS0 ?_
        rw [hy0]
        iterate 14 (refine HP.take' ?_; (first | (refine ⟨undef, Or.inr ⟨by rfl, rfl⟩, ?_⟩) | (apply Exists.intro; refine ⟨Or.inl ⟨by rfl, ?_⟩, ?_⟩; (intro x hx'; go_simp; first | done | with_reducible rfl))); (try simp only [Act.put, List.setIfInBounds_toArray, List.set_cons_zero, List.set_cons_succ]))
        refine HP.off ?_
        refine HP.go1 (fun KK hKK => ?_)
        go_simp
        refine hKK.out _ _ hS1 ?_
        intro _
        clear hKK KK
        (try simp only [Act.put, List.setIfInBounds_toArray, List.set_cons_zero, List.set_cons_succ])
        iterate 2 (refine HP.take' ?_; (first | (refine ⟨undef, Or.inr ⟨by rfl, rfl⟩, ?_⟩) | (apply Exists.intro; refine ⟨Or.inl ⟨by rfl, ?_⟩, ?_⟩; (intro x hx'; go_simp; first | done | with_reducible rfl))); (try simp only [Act.put, List.setIfInBounds_toArray, List.set_cons_zero, List.set_cons_succ]))
        refine HP.off ?_
        refine HP.go1 (fun KK hKK => ?_)
        go_simp
        refine hKK.out _ _ hS2 ?_
        intro _
        clear hKK KK
        (try simp only [Act.put, List.setIfInBounds_toArray, List.set_cons_zero, List.set_cons_succ])
        refine HP.end_ ?_
        refine NoPanic.normal ?_
        subst hy0
        clear hS0 hS1 hS2 t2 t4 s2 s4 s5 s6 s7 p2 r2 r3 r4 rz n3 n4
        have hgg := HG.out.1
        have hgr := HY.out.grt (i := k * 5 + 2) (j := k * 5 + 4) (a := .int .i64 b3) (b := .int .i64 0) HIg.out HG.out.2 (by omega) (by omega)
        have hcl := own_cell HU.out (by rw [List.length_set]; exact hnl.symm) k (by rw [List.length_set]; exact HHk.out) 0 (.int .i64 b0) (by rw [List.getElem_set_self]; rfl)
        simp only [Nat.add_zero] at hcl
        generalize (y1.drew.setCell ⟨g, k * 5 + 2, none⟩ (.int .i64 b3)).setCell ⟨g, k * 5 + 4, none⟩ (.int .i64 0) = y at *
        have p2 : y.cell? ⟨pb, 2, none⟩ = some (.slice (some ⟨g, 0, none⟩) q.length k1) := hcell hgr.2.1
        have hSt := HSt.out HD.out
        rw [HCh.out] at hSt
        have hw := hSt.wtg HOk.out
        rw [List.length_append] at hw
        simp only [List.length_singleton] at hw
        have hwl : wtg q ≤ q.length := List.countP_le_length
        obtain ⟨ao, co, hu5, _⟩ := hgr.1.box
        subst hu5
        obtain ⟨v3, y3, hrun, q1, qt, qb, g3, cap3, hv3⟩ := IS.push y _ ids b0 hgr.1 (by omega)
        subst hv3
        have hS3 := ScI.push hgr.1 HY.out.new HU.out (by rw [List.length_set]; exact hnl) hSt hgr.2.1 hgr.2.2.1 hgr.2.2.2 q1 qt qb HIg.out
        have HS3 := Lib.hid hS3
        have HR2 := Lib.hid hrun
        have HW := Lib.hid (And.intro HM.out.1 hw)
        clear hS3 hrun hw hwl hSt hgr q1 qt qb hgg HY HIg HG HU HD HSt HCh HM
        go_wp2_with (at_builtin; (refine wpl_app (by rfl) (.tmp 47) (.tmp 54) 36 rfl _ _ _ _ rfl rfl HR2.out ?_))
        go_roundw
        case rel => exact ⟨_, _, HS3.out⟩
        case measure => have := HW.out.1; have := HW.out.2; simp [lenV]; omega
    have HD := Lib.hid (done_none hno2 hz)
    clear hz hno hno2 HU HWa
    go_wp2_with fail
    obtain ⟨S, hSe⟩ : ∃ S, S = Nw w6 := ⟨_, rfl⟩
    have hS0 : Hs S w6.drew := by subst hSe; exact (Nw.refl _).dr
    have HV := Lib.hid (show ∀ a, Hs S a → Nw w6 a from fun a h => by subst hSe; exact h)
    clear hSe
    refine region_plan (.take (.take (.take (.take (.take (.take (.take (.take (.take (.take (.take (.off (.go1 (.take (.take .fin))))))))))))))) (Hs S) (by kernel_rfl) (by kernel_rfl) (by kernel_rfl) hS0 ?_
    iterate 11 (refine HP.take' ?_; (first | (refine ⟨undef, Or.inr ⟨by rfl, rfl⟩, ?_⟩) | (apply Exists.intro; refine ⟨Or.inl ⟨by rfl, ?_⟩, ?_⟩; (intro x hx'; go_simp; first | done | with_reducible rfl))); (try simp only [Act.put, List.setIfInBounds_toArray, List.set_cons_zero, List.set_cons_succ]))
    refine HP.off ?_
    refine HP.go1 (fun KK hKK => ?_)
    go_simp
    refine hKK.out _ _ hS0 ?_
    intro _
    clear hKK KK
    (try simp only [Act.put, List.setIfInBounds_toArray, List.set_cons_zero, List.set_cons_succ])
    iterate 2 (refine HP.take' ?_; (first | (refine ⟨undef, Or.inr ⟨by rfl, rfl⟩, ?_⟩) | (apply Exists.intro; refine ⟨Or.inl ⟨by rfl, ?_⟩, ?_⟩; (intro x hx'; go_simp; first | done | with_reducible rfl))); (try simp only [Act.put, List.setIfInBounds_toArray, List.set_cons_zero, List.set_cons_succ]))
    refine HP.end_ ?_
    refine NoPanic.normal ?_
    have HY1 := Lib.hid HG6.out.dr
    clear hS0 HV HG6 HG5 p0 p1 p2 p3 hpl
    generalize w6.drew = y1 at *
    have hsc := (HS.out.st.scan HOk.out HD.out)
    have hSn := HS.out.nx HY1.out
    have hq := hSn.rb
    have hal := hSn.pb
    have p0 := hcell (j := 0) hal
    have p1 := hcell (j := 1) hal
    have p2 := hcell (j := 2) hal
    have p3 := hcell (j := 3) hal
    have d0 := hcell (j := 0) hq
    have d1 := hcell (j := 1) hq
    have d2 := hcell (j := 2) hq
    have d3 := hcell (j := 3) hq
    have fz := fun k => hfz (j := k) hq
    have hpl := hlt hal
    have HSn := Lib.hid hSn
    have HSc := Lib.hid hsc
    have HNe := Lib.hid (is_ne hSn.isr hq (by decide))
    obtain ⟨ua, uc, hu5, _⟩ := hSn.isr.box
    obtain ⟨ul, hul⟩ : ∃ n, ids.length = n := ⟨_, rfl⟩
    rw [hul] at hu5
    subst hu5
    clear hsc hSn hq hal hul HD HF HM HO2
    go_wp2
    refine bodyPost_ret (v := .tuple #[.agg #[.int .i64 t, .int .i64 r, .slice a1 q.length k1, .int .i64 W], .slice ua ul uc]) (by simp [results, Try.results28, go_sem, *]) rfl ⟨_, _, rfl, fill_nw HSn.out.nw (Nat.le_succ _) _ _ _ _, ?_, ?_, ?_⟩
    · rw [HSc.out]; exact RqOwn.rd (fill_own HSn.out.own (by omega) _ _ _ _)
    · exact RqOwn.cap HSn.out.own
    · rw [HSc.out]; exact fill_is HSn.out.isr HNe.out _ _ _ _
end Go.Proofs.Ytmciiobncfchlaa
end
