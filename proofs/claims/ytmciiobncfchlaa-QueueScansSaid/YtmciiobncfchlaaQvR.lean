
/- The developers' package queue: grants, an iterator; Scan. -/
import Derived.Test.YtmciiobncfchlaaQvP
import Derived.Test.YtmciiobncfchlaaQvQ
import Derived.Test.YtmciiobncfchlaaQvJ
namespace Go.Proofs.Ytmciiobncfchlaa
open Go.RowKit Go.Shelf Go.Maps Go.ChangeMaps
attribute [local go_sem] Oper.semAt_some
set_option linter.unusedVariables false

theorem e_grants : ∀ args w, (callFunc 46 args).run Try.prog w = .ok (.enter 46 args) w := enters_of Try.func46 (by kernel_rfl) rfl
theorem rq_int_ne : 41 ≠ 3 := by decide
def SL (p b : Nat) (v : Value) : Nat → Prop := fun k => k = p ∨ k = b ∨ v.ownBlock = some k
theorem Ln.bound {w : World} {g0 p : Nat} {t r W : Int} {v : Value} {b n : Nat} {q : List Rq} {c : Int → Int} (h : Ln w g0 p t r W v b n q c) : ∀ k, SL p b v k → k < w.heap.size := by
  rintro k (rfl | rfl | e)
  · exact hlt h.obj
  · exact h.map.lt
  · exact olt h.own e
theorem Ln.kps {S : Nat → Prop} {A B : World} {g0 p : Nat} {t r W : Int} {v : Value} {b n : Nat} {q : List Rq} {c : Int → Int} (h : Ln A g0 p t r W v b n q c) (k : KpS S A B) (hS : ∀ i, SL p b v i → S i) : Ln B g0 p t r W v b n q c := by
  refine ⟨(k.same p (hS p (.inl rfl))).trans h.obj, ?_, ?_, h.gp, h.gb⟩
  · refine ⟨h.own.1, ?_⟩
    rcases h.own.2 with e | ⟨g, cap, cur, rfl, hb, hg, rest⟩
    · exact .inl e
    · exact .inr ⟨g, cap, cur, rfl, hb, (k.same g (hS g (.inr (.inr rfl)))).trans hg, rest⟩
  · obtain ⟨D, ⟨es, cl, hb, F, hs, hD⟩, h2, h3⟩ := h.map
    exact ⟨D, ⟨es, cl, (k.same b (hS b (.inr (.inl rfl)))).trans hb, F, hs, hD⟩, h2, h3⟩
theorem IS.kps {S : Nat → Prop} {A B : World} {v : Value} {l : List Int} (h : IS A v l) (k : KpS S A B) (hS : ∀ g, v.ownBlock = some g → S g) : IS B v l := by
  refine ⟨h.1, ?_⟩
  rcases h.2 with e | ⟨g, cap, cur, rfl, hb, hg, rest⟩
  · exact .inl e
  · exact .inr ⟨g, cap, cur, rfl, hb, (k.same g (hS g rfl)).trans hg, rest⟩
/-- What holds between two grants. -/
structure GrI (J : (Nat → Prop) → List Int → World → Prop) (S : Nat → Prop) (g0 p : Nat) (t r W : Int) (v : Value) (b n : Nat) (q : List Rq) (T : List Int) (vt : Value) (i : Nat) (pre : List Int) (q' : List Rq) (wr : World) : Prop where
  j : J S pre wr
  bd : ∀ k, S k → k < wr.heap.size
  row : IS wr vt T
  st : Steps q pre q'
  ti : TInv q q' T i
  ln : ∃ n', n' ≤ n + 2 * i ∧ Ln wr g0 p t r W v b n' q' (cntQ q')
def EndL (g0 p : Nat) (t r W : Int) (v : Value) (b : Nat) (q : List Rq) (w : World) : Prop := ∃ n', Ln w g0 p t r W v b n' q (cntQ q)
set_option maxRecDepth 100000 in
set_option maxHeartbeats 4000000 in
theorem grants_in (m : Nat) (hm : 1 ≤ m) (g0 p b n : Nat) (t r W : Int) (v : Value) (q : List Rq) (w : World) (h : Ln w g0 p t r W v b n q (cntQ q)) (hok : Ok W q) (hl : q.length ≤ 1000) (hn : n ≤ 2000) (hst : StOk (tC q) (wpl q q.length)) :
    SeqH Fence.wide m Try.prog 46 #[.pointer (some ⟨p, 0, none⟩)] #[] (scanQ q).1 (SL p b v) (EndL g0 p t r W v b (scanQ q).2) w := by
  intro L J Jx W0 hW hJ hJx hY h0
  have hL0 := h.nw hW
  have HTu := Lib.hid (dTurns hL0 hl hst)
  have hTk := tok_of hok hst
  obtain ⟨T, hT⟩ : ∃ T, stR (tC q) (wpl q q.length) = T := ⟨_, rfl⟩
  rw [hT] at HTu hTk
  have hTl : T.length ≤ 1000 := by rw [← hT, (stR_perm (tC q) _).length_eq]; have := wpl_len q q.length; omega
  have HJ := Lib.hid hJ
  have HY := Lib.hid hY
  have H0 := Lib.hid (And.intro h0 (And.intro hL0 (And.intro hok hTk)))
  clear h hW hJ hJx hY h0 hL0 hok hTk hT hst
  refine callsIn_of_wp Try.func46 rfl trivial ?_ rfl
  simp only [Try.ntmps46, List.size_toArray, List.length_cons, List.length_nil, Nat.reduceAdd, Nat.reduceSub, Array.replicate_succ, Array.replicate_zero, List.push_toArray, List.append_toArray, List.nil_append, List.cons_append]
  gi_wp2_with fail
  refine ⟨trivial, (callsIn_wide.2 HTu.out).mono ?_⟩
  rintro e w1 ⟨vt, rfl, g1, hIT, hfT⟩
  obtain ⟨S, hS⟩ : ∃ S : Nat → Prop, (fun k => SL p b v k ∨ (W0.heap.size ≤ k ∧ k < w1.heap.size)) = S := ⟨_, rfl⟩
  have hSL : ∀ k, SL p b v k → S k := fun k e => by rw [← hS]; exact .inl e
  have hST : ∀ g, vt.ownBlock = some g → S g := fun g e => by rw [← hS]; exact .inr ⟨hfT g e, hIT.lt e⟩
  have hbd1 : ∀ k, S k → k < w1.heap.size := fun k e => by
    rw [← hS] at e
    rcases e with e | e
    · exact Nat.lt_of_lt_of_le (H0.out.2.1.bound k e) g1.sz
    · exact e.2
  have hG0 : GrI J S g0 p t r W v b n q T vt 0 [] q w1 :=
    ⟨HJ.out (SL p b v) S [] W0 w1 H0.out.1 (Tch.nw g1) hSL (fun k e => by rw [← hS] at e; rcases e with e | e; exact .inl e; exact .inr e.1) hbd1, hbd1, hIT, .refl, ti_start H0.out.2.2.2, n, by omega, H0.out.2.1.nw g1⟩
  have HG := Lib.hid hG0
  have HS := Lib.hid (And.intro hSL hST)
  obtain ⟨at1, ct, hvt, _⟩ := hIT.box
  subst hvt
  clear hG0 hSL hST hbd1 hS g1 hIT hfT HTu
  gi_wp2
  gi_loopw [10] (fun x wr => ∃ (i : Nat) (pre : List Int) (q' : List Rq), x = .int .i64 i ∧ i ≤ T.length ∧ Hid (GrI J S g0 p t r W v b n q T (.slice at1 T.length ct) i pre q' wr)) (fun x _ => T.length - (intOf x).toNat)
  case atStart => exact ⟨0, [], q, rfl, Nat.zero_le _, HG⟩
  case round =>
    obtain ⟨i, pre, q', rfl, hi, HR⟩ := hrel
    by_cases hlt : i < T.length
    · obtain ⟨k, eT, hk, hqk, hsn, hfy, hfn⟩ := turn_next H0.out.2.2.1 HR.out.st H0.out.2.2.2 HR.out.ti hlt
      obtain ⟨n', hn', hLn⟩ := HR.out.ln
      have hlen := steps_len HR.out.st H0.out.2.2.1
      have okq := HR.out.st.ok H0.out.2.2.1
      obtain ⟨g, cap, hv, hg0, hgl, hce⟩ := RqOwn.at hLn.own hk
      subst hv
      obtain ⟨ao, c2, hvv, hbx⟩ := HR.out.row.box
      obtain ⟨gt, rfl, _⟩ := hbx (by omega)
      simp only [Value.slice.injEq, true_and] at hvv
      obtain ⟨rfl, rfl⟩ := hvv
      have hTc := HR.out.row.cell i hlt
      rw [show T.getD i 0 = (k : Int) by rw [← eT]; simp [List.getD, hlt]] at hTc
      have hTl2 := HR.out.row.glt
      have hii : (i : Int) < (T.length : Int) := by omega
      have hkk : (k : Int) < (q'.length : Int) := by omega
      have hpl := heap_lt' hLn.obj
      have m2 := hcell (j := 2) hLn.obj
      have hrt := okq.rt _ (List.getElem_mem hk)
      have hcb := cntQ_bd q'
      have hql : q'.length ≤ 1000 := by omega
      have hts := fun hc => turn_step H0.out.2.2.1 HR.out.st H0.out.2.2.2 HR.out.ti hlt eT hk hc
      have hgr := fun (w7 : World) (hN : Nw wr w7) => dGrant (hLn.nw hN) k hk hrt.md hrt.wt (fun y => by have := hcb y; omega) (by omega) hql
      have hcs := cntQ_set q' k hk (grtR q'[k])
      generalize hR : q'[k] = R at *
      obtain ⟨b0, b1, b2, b3, b4⟩ := R
      have e0 := hce 0 _ rfl
      have e1 := hce 1 _ rfl
      have e2 := hce 2 _ rfl
      have e3 := hce 3 _ rfl
      have e4 := hce 4 _ rfl
      simp only [Nat.add_zero] at e0
      simp only at hrt hfy hfn hts hgr hcs hsn
      have g6 : Nw wr (wr.alloc (.cells #[.int .i64 b0, .int .i64 b1, .int .i64 b2, .int .i64 b3, .int .i64 b4] 41)) := (Nw.refl wr).alloc _
      have hq6 := RqB.made wr b0 b1 b2 b3 b4 41
      obtain ⟨w6, hw6⟩ : ∃ w6, wr.alloc (.cells #[.int .i64 b0, .int .i64 b1, .int .i64 b2, .int .i64 b3, .int .i64 b4] 41) = w6 := ⟨_, rfl⟩
      rw [hw6] at g6 hq6
      have hF := dFits p b n' (cntQ q') b2 b3 _ _ _ _ _ w6 (hLn.nw g6).obj (hLn.nw g6).map (fun y => by have := hcb y; omega) hrt.wt
      obtain ⟨hlq, y0, y1, y2, y3, y4⟩ := hq6
      obtain ⟨B, hB⟩ : ∃ B, fitB (cntQ q') b2 b3 = B := ⟨_, rfl⟩
      rw [hB] at hF hfy hfn
      have HW6 := Lib.hid hw6
      have HF := Lib.hid hF
      have HGr := Lib.hid hgr
      have HTs := Lib.hid (And.intro hts (And.intro hcs (And.intro hn' g6)))
      have HY0 := Lib.hid (And.intro y0 (And.intro hlq (And.intro hLn.map.lt hgl)))
      cases B
      · have hd := hfn rfl
        have hsc := HR.out.st.scan H0.out.2.2.1 hd
        have HSc := Lib.hid hsc
        clear hce hrt hfy hfn hts hgr hcs hR hF hB hw6 hLn hlen okq hcb hd hsc eT hqk hsn
        gi_wp2_with fail
        rw [HW6.out]
        gi_wp2_with fail
        refine ⟨trivial, (callsIn_wide.2 HF.out).mono ?_⟩
        rintro e w7 ⟨rfl, g7⟩
        have HE : Hid ((∃ S, J S (scanQ q).1 w7 ∧ EndL g0 p t r W (.slice (some ⟨g, 0, none⟩) q'.length cap) b (scanQ q).2 w7) ∨ ∃ S pre, pre <+: (scanQ q).1 ∧ Jx S pre w7) := Lib.hid (by
          rw [HSc.out]
          have hN := HTs.out.2.2.2.trans g7
          obtain ⟨n'', _, hl2⟩ := HR.out.ln
          exact .inl ⟨S, HJ.out S S pre wr w7 HR.out.j (Tch.nw hN) (fun _ e => e) (fun _ e => .inl e) (fun k e => Nat.lt_of_lt_of_le (HR.out.bd k e) hN.sz), n'', hl2.nw hN⟩)
        clear g7 y0 y1 y2 y3 y4 hlq
        gi_wp2
        refine bodyPost_ret (results_none rfl _ _ _) rfl ?_
        exact ⟨⟨_, rfl⟩, HE.out⟩
      · have hst2 := hts (hfy rfl)
        have HSt := Lib.hid hst2
        have HC := Lib.hid hcs
        clear hce hrt hfy hfn hts hgr hcs hR hF hB hw6 hLn hlen okq hcb eT hqk hsn hst2
        gi_wp2_with fail
        rw [HW6.out]
        gi_wp2_with fail
        refine ⟨trivial, (callsIn_wide.2 HF.out).mono ?_⟩
        rintro e w7 ⟨rfl, g7⟩
        have HG7 := Lib.hid (HTs.out.2.2.2.trans g7)
        have HK7 := Lib.hid g7
        clear g7 y0 y1 y2 y3 y4 hlq
        gi_wp2_with fail
        refine ⟨trivial, (callsIn_wide.2 (HGr.out w7 HG7.out)).mono ?_⟩
        rintro e w8 ⟨rfl, hL8, hT8⟩
        have hbxl : wr.heap.size < w7.heap.size := Nat.lt_of_lt_of_le HY0.out.2.1 HK7.out.sz
        have z0 : w8.cell? ⟨wr.heap.size, 0, none⟩ = some (.int .i64 b0) := (hT8.cell hbxl (fun e => by have := HY0.out.2.2; omega)).trans (HK7.out.kp HY0.out.1)
        have hz0 := World.block_lt_of_cell? _ _ z0
        have hTS : Tch S wr w8 := (Tch.nw HG7.out).trans' hT8 (fun i _ e => by
          rcases e with rfl | rfl
          · exact HS.out.1 _ (.inr (.inl rfl))
          · exact HS.out.1 _ (.inr (.inr rfl)))
        have hbd8 : ∀ k, S k → k < w8.heap.size := fun k e => Nat.lt_of_lt_of_le (HR.out.bd k e) hTS.size
        have hJ8 : J S pre w8 := HJ.out S S pre wr w8 HR.out.j hTS (fun _ e => e) (fun _ e => .inl e) hbd8
        have hpre := steps_pre HSt.out.1 H0.out.2.2.1
        obtain ⟨fn, tmps, assign, body, hy, hRd⟩ := HY.out S pre b0 w8 hJ8 HS.out.1 hbd8 hpre
        have hI8 : IS w8 (.slice (some ⟨gt, 0, none⟩) T.length ct) T := (HR.out.row.nw HG7.out).tch hT8 (fun g' e q1 => by
          have hg' := HS.out.2 g' e
          have e1 := Option.some.inj e
          subst e1
          rcases q1 with q1 | q1
          · obtain ⟨es, cl, ob⟩ := (HR.out.ln.choose_spec.2).map.obj
            rcases HR.out.row.2 with ⟨h', _⟩ | ⟨g2, cap2, cur, h', _, hg2, _⟩
            · simp at h'
            · simp only [Value.slice.injEq, Option.some.injEq, Addr.mk.injEq, and_true, true_and] at h'
              obtain ⟨rfl, rfl⟩ := h'
              simp only at q1
              rw [q1, ob] at hg2; cases hg2
          · obtain ⟨cs, hc⟩ := oheap (HR.out.ln.choose_spec.2).own (g := g) rfl
            rcases HR.out.row.2 with ⟨h', _⟩ | ⟨g2, cap2, cur, h', _, hg2, _⟩
            · simp at h'
            · simp only [Value.slice.injEq, Option.some.injEq, Addr.mk.injEq, and_true, true_and] at h'
              obtain ⟨rfl, rfl⟩ := h'
              simp only at q1
              rw [q1, hc] at hg2
              injection hg2 with hg2
              injection hg2 with _ hg2
              exact absurd hg2 rq_int_ne)
        have HN8 := Lib.hid (And.intro hI8 (And.intro hL8 (And.intro hbd8 hpre)))
        clear hL8 hT8 hTS hbd8 hJ8 hpre hI8
        gi_wp2
        refine hRd.mono ?_
        rintro e w9 (⟨rfl, j2, k2⟩ | ⟨rfl, jx2, _⟩)
        · have H2 : Hid (GrI J S g0 p t r W (.slice (some ⟨g, 0, none⟩) q'.length cap) b n q T (.slice (some ⟨gt, 0, none⟩) T.length ct) (i + 1) (pre ++ [b0]) (q'.set k (grtR ⟨b0, b1, b2, b3, b4⟩)) w9) := Lib.hid
            ⟨j2, fun k e => Nat.lt_of_lt_of_le (HN8.out.2.2.1 k e) k2.size, HN8.out.1.kps k2 HS.out.2, HSt.out.1, HSt.out.2, n' + 2, by have := HTs.out.2.2.1; omega, (HN8.out.2.1.eq HC.out.symm).kps k2 HS.out.1⟩
          clear j2 k2 hy hRd
          gi_wp2
          go_roundw
          case rel => exact ⟨i + 1, _, _, by go_num, by omega, H2⟩
          case measure => simp [intOf]; omega
        · have H2 := Lib.hid jx2
          clear jx2 hy hRd
          gi_wp2
          refine bodyPost_ret (results_none rfl _ _ _) rfl ?_
          exact ⟨⟨_, rfl⟩, .inr ⟨S, pre ++ [b0], HN8.out.2.2.2, H2.out⟩⟩
    · have hd := turn_end H0.out.2.2.1 HR.out.st HR.out.ti hlt
      have hsc := HR.out.st.scan H0.out.2.2.1 hd
      have HE : Hid ((∃ S, J S (scanQ q).1 wr ∧ EndL g0 p t r W v b (scanQ q).2 wr) ∨ ∃ S pre, pre <+: (scanQ q).1 ∧ Jx S pre wr) := Lib.hid (by
        rw [hsc]
        obtain ⟨n'', _, hl2⟩ := HR.out.ln
        exact .inl ⟨S, HR.out.j, n'', hl2⟩)
      obtain rfl : i = T.length := by omega
      clear hd hsc
      gi_wp2
      refine bodyPost_end (results_none rfl _ _ _) rfl ?_
      exact ⟨⟨_, rfl⟩, HE.out⟩
theorem is_fill {w : World} {v : Value} {l : List Int} {rb : Nat} (h : IS w v l) (hb : ∀ g, v.ownBlock = some g → g ≠ rb) (u0 u1 u2 u3 : Value) : IS ((((w.setCell ⟨rb, 0, none⟩ u0).setCell ⟨rb, 1, none⟩ u1).setCell ⟨rb, 2, none⟩ u2).setCell ⟨rb, 3, none⟩ u3) v l :=
  (((h.tch (setCell_at w ⟨rb, 0, none⟩ u0) hb).tch (setCell_at _ ⟨rb, 1, none⟩ u1) hb).tch (setCell_at _ ⟨rb, 2, none⟩ u2) hb).tch (setCell_at _ ⟨rb, 3, none⟩ u3) hb
theorem endl_put {g0 p : Nat} {t r W : Int} {v : Value} {b : Nat} {q : List Rq} {m : Nat} (hb : ∀ k, SL p b v k → k < m) (A : World) (l : Nat) (o o' : Obj) (hl : m ≤ l) (h : EndL g0 p t r W v b q A) : EndL g0 p t r W v b q (A.putObj l o') := by
  obtain ⟨n', h⟩ := h
  refine ⟨n', h.kps (S := SL p b v) ⟨by simp, fun k e => ?_⟩ (fun _ e => e)⟩
  exact World.putObj_heap_other (fun e2 => by have := hb k e; omega)
set_option maxRecDepth 100000 in
set_option maxHeartbeats 4000000 in
theorem dScan (t r W : Int) (v : Value) (q : List Rq) (w : World) (hl : q.length ≤ 1000) (hok : Ok W q) (h : RqAt w v q) (hst : StOk (tC q) (wpl q q.length)) :
    Calls Try.prog 12 #[hdV t r v W] w fun e w' => ∃ v' vi, e = .returned (.tuple #[hdV t r v' W, vi]) ∧ Nw w w' ∧ RqAt w' v' (scanQ q).2 ∧ capOk v' ∧ IS w' vi (scanQ q).1 ∧ Fresh w v' (scanQ q).2 ∧ ∀ g, vi.ownBlock = some g → w.heap.size ≤ g := by
  have HLi := Lib.hid (fun (w1 : World) (g : Nw w w1) => dLineOf t r W v q w1 hl (fun R hR => (hok.rt R hR).md) (h.nw g))
  obtain ⟨a, c, rfl⟩ := h.form
  unfold hdV at HLi ⊢
  obtain ⟨hx1, hx2, hx3, hx4⟩ := two_boxes w (.cells #[.int .i64 t, .int .i64 r, .slice a q.length c, .int .i64 W] 27) (.cells #[.int .i64 0, .int .i64 0, .slice none 0 0, .int .i64 0] 27)
  obtain ⟨w1, hw1⟩ : ∃ w1, (w.alloc (.cells #[.int .i64 t, .int .i64 r, .slice a q.length c, .int .i64 W] 27)).alloc (.cells #[.int .i64 0, .int .i64 0, .slice none 0 0, .int .i64 0] 27) = w1 := ⟨_, rfl⟩
  rw [hw1] at hx2 hx3
  have HX := Lib.hid (And.intro hx2 hx3)
  have HW1 := Lib.hid hw1
  clear hx1 hx2 hx3 hx4 h hw1
  go_enter Try.func12, Try.ntmps12
  go_wp2_with fail
  rw [HW1.out]
  go_at_call 39
  refine (HLi.out _ HX.out.2).mono ?_
  rintro e w2 ⟨p, v1, b, n, rfl, g2, hL2, hnq⟩
  have hq2 := g2.at' HX.out.1
  have HQ := Lib.hid (And.intro hq2 (And.intro (HX.out.2.trans g2) (And.intro hL2 (hlt HX.out.1))))
  have hsl := hL2.bound
  have hls : (scanQ q).1.length ≤ 100000 := by
    have hw := (scan_steps hok).1.wtg hok
    have : wtg q ≤ q.length := List.countP_le_length
    omega
  have hC := collect_any _ #[.pointer (some ⟨p, 0, none⟩)] #[] e_grants (scanQ q).1 (SL p b v1) (EndL w1.heap.size p t r W v1 b (scanQ q).2) w2 hls hsl (grants_in 4 (by omega) w1.heap.size p b n t r W v1 q w2 hL2 hok hl (by omega) hst) (fun A l o o' h1 _ _ h2 => endl_put hsl A l o o' h1 h2)
  have HC := Lib.hid hC
  have HSL := Lib.hid (And.intro hsl (fun k (e : SL p b v1 k) => show w1.heap.size ≤ k by
    rcases e with rfl | rfl | e
    · exact hL2.gp
    · exact hL2.gb
    · exact oge hL2.own e))
  clear hq2 g2 hL2 hsl hls hC hst HLi HX
  go_wp2_with fail
  go_at_call 45
  refine HC.out.mono ?_
  rintro e w3 ⟨vi, rfl, hIi, hif, ⟨n3, hL3⟩, hT3⟩
  have hq3 := (hT3.block (w.heap.size + 1) (hlt HQ.out.1) (fun e => by have := HSL.out.2 _ e; have := HQ.out.2.2.2; omega)).trans HQ.out.1
  have hN3 : Nw w w3 := nw_tch HQ.out.2.1 hT3 (fun k e => by have := HSL.out.2 k e; have := HQ.out.2.2.2; omega)
  obtain ⟨a2, k2, hv2⟩ := (RqOwn.rd hL3.own).form
  obtain ⟨n2, hn2⟩ : ∃ n, (scanQ q).2.length = n := ⟨_, rfl⟩
  rw [hn2] at hv2
  subst hv2
  obtain ⟨ai, ci, hvi, _⟩ := hIi.box
  obtain ⟨ni, hni⟩ : ∃ n, (scanQ q).1.length = n := ⟨_, rfl⟩
  rw [hni] at hvi
  subst hvi
  have HE := Lib.hid (And.intro hN3 (And.intro hL3 (And.intro hIi (And.intro hif HQ.out.2.2.2))))
  have hpl := hlt hL3.obj
  have e0 := hcell (j := 0) hL3.obj
  have e1 := hcell (j := 1) hL3.obj
  have e2 := hcell (j := 2) hL3.obj
  have e3 := hcell (j := 3) hL3.obj
  have d0 := hcell (j := 0) hq3
  have d1 := hcell (j := 1) hq3
  have d2 := hcell (j := 2) hq3
  have d3 := hcell (j := 3) hq3
  have fz := fun k => hfz (j := k) hq3
  have hsl2 := hlt hq3
  have HS2 := Lib.hid (hlt HQ.out.1)
  have HQF : Hid (w.heap.size ≤ w1.heap.size) := Lib.hid (by have := HQ.out.2.2.2; omega)
  clear hL3 hT3 hN3 hq3 hIi hif hn2 hni HC HSL HQ
  go_wp2
  exact bodyPost_ret (v := .tuple #[.agg #[.int .i64 t, .int .i64 r, .slice a2 n2 k2, .int .i64 W], .slice ai ni ci]) (by simp only [results, Try.results12]; simp [go_sem, *]) rfl ⟨_, _, rfl, fill_nw HE.out.1 (Nat.le_succ _) _ _ _ _, (HE.out.2.1.done HE.out.2.2.2.2 _ _ _ _).1, HE.out.2.1.own.cap, is_fill HE.out.2.2.1 (fun g e => by have := HE.out.2.2.2.1 g e; have := HS2.out; omega) _ _ _ _, HE.out.2.1.own.fresh HQF.out, fun g e => by have := HE.out.2.2.2.1 g e; have := HS2.out; omega⟩
end Go.Proofs.Ytmciiobncfchlaa
