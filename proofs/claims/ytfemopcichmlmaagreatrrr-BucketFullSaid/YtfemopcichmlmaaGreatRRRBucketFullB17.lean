/- Texts merged: SmR, BdL, QuU, BdM, BdN, BdO -/
import Derived.Test.YtfemopcichmlmaaGreatRRRBucketFullB16

/- The developers' package queue: Scan, whatever the number of requests (up to a thousand). -/
section
namespace Go.Proofs.YtfemopcichmlmaaGreatRRR
open Go.RowKit Go.Shelf Go.Maps Go.ChangeMaps
attribute [local go_sem] Oper.semAt_some
set_option linter.unusedVariables false

set_option maxRecDepth 100000 in
set_option maxHeartbeats 4000000 in
theorem grantsG_in (m : Nat) (hm : 1 ≤ m) (g0 p b n : Nat) (t r W : Int) (v : Value) (q : List Rq) (w : World) (h : Ln w g0 p t r W v b n q (cntQ q)) (hok : Ok W q) (hl : q.length ≤ 1000) (hn : n ≤ 2000) :
    SeqH Fence.wide m Tryz.prog 76 #[.pointer (some ⟨p, 0, none⟩)] #[] (scanQ q).1 (SL p b v) (EndL g0 p t r W v b (scanQ q).2) w := by
  intro L J Jx W0 hW hJ hJx hY h0
  have hL0 := h.nw hW
  have HTu := Lib.hid (dTurnsG hL0 hl hok)
  have HJ := Lib.hid hJ
  have HY := Lib.hid hY
  have H00 := Lib.hid (And.intro h0 (And.intro hL0 hok))
  clear h hW hJ hJx hY h0 hL0 hok
  refine callsIn_of_wp Tryz.func76 rfl trivial ?_ rfl
  simp only [Tryz.ntmps76, List.size_toArray, List.length_cons, List.length_nil, Nat.reduceAdd, Nat.reduceSub, Array.replicate_succ, Array.replicate_zero, List.push_toArray, List.append_toArray, List.nil_append, List.cons_append]
  gi_wp2_with fail
  refine ⟨trivial, (callsIn_wide.2 HTu.out).mono ?_⟩
  rintro e w1 ⟨vt, T, rfl, g1, hIT, hTk, hTl, hfT⟩
  have H0 := Lib.hid (And.intro H00.out.1 (And.intro H00.out.2.1 (And.intro H00.out.2.2 hTk)))
  clear hTk H00
  obtain ⟨S, hS⟩ : ∃ S : Nat → Prop, (fun k => SL p b v k ∨ (W0.heap.size ≤ k ∧ k < w1.heap.size)) = S := ⟨_, rfl⟩
  have hSL : ∀ k, SL p b v k → S k := fun k e => by rw [← hS]; exact .inl e
  have hST : ∀ g, vt.ownBlock = some g → S g := fun g e => by rw [← hS]; exact .inr ⟨hfT g e, hIT.lt e⟩
  have hbd1 : ∀ k, S k → k < w1.heap.size := fun k e => by
    rw [← hS] at e
    rcases e with e | e
    · exact Nat.lt_of_lt_of_le (H0.out.2.1.bound k e) g1.sz
    · exact e.2
  have hG0 : GrI J S g0 p t r W v b n q T vt 0 [] q w1 :=
    ⟨HJ.out (SL p b v) S [] W0 w1 H0.out.1 (Tch.nw g1) hSL (fun k e => by rw [← hS] at e; rcases e with e | e; exact .inl e; exact .inr e.1) hbd1, hbd1, hIT, .refl, ti_start H0.out.2.2.2, n, by omega, H0.out.2.1.nw g1⟩
  have HG := Lib.hid hG0
  have HS := Lib.hid (And.intro hSL hST)
  obtain ⟨at1, ct, hvt, _⟩ := hIT.box
  subst hvt
  clear hG0 hSL hST hbd1 hS g1 hIT hfT HTu
  gi_wp2
  gi_loopw [10] (fun x wr => ∃ (i : Nat) (pre : List Int) (q' : List Rq), x = .int .i64 i ∧ i ≤ T.length ∧ Hid (GrI J S g0 p t r W v b n q T (.slice at1 T.length ct) i pre q' wr)) (fun x _ => T.length - (intOf x).toNat)
  case atStart => exact ⟨0, [], q, rfl, Nat.zero_le _, HG⟩
  case round =>
    obtain ⟨i, pre, q', rfl, hi, HR⟩ := hrel
    by_cases hlt : i < T.length
    · obtain ⟨k, eT, hk, hqk, hsn, hfy, hfn⟩ := turn_next H0.out.2.2.1 HR.out.st H0.out.2.2.2 HR.out.ti hlt
      obtain ⟨n', hn', hLn⟩ := HR.out.ln
      have hlen := steps_len HR.out.st H0.out.2.2.1
      have okq := HR.out.st.ok H0.out.2.2.1
      obtain ⟨g, cap, hv, hg0, hgl, hce⟩ := RqOwn.at hLn.own hk
      subst hv
      obtain ⟨ao, c2, hvv, hbx⟩ := HR.out.row.box
      obtain ⟨gt, rfl, _⟩ := hbx (by omega)
      simp only [Value.slice.injEq, true_and] at hvv
      obtain ⟨rfl, rfl⟩ := hvv
      have hTc := HR.out.row.cell i hlt
      rw [show T.getD i 0 = (k : Int) by rw [← eT]; simp [List.getD, hlt]] at hTc
      have hTl2 := HR.out.row.glt
      have hii : (i : Int) < (T.length : Int) := by omega
      have hkk : (k : Int) < (q'.length : Int) := by omega
      have hpl := heap_lt' hLn.obj
      have m2 := hcell (j := 2) hLn.obj
      have hrt := okq.rt _ (List.getElem_mem hk)
      have hcb := cntQ_bd q'
      have hql : q'.length ≤ 1000 := by omega
      have hts := fun hc => turn_step H0.out.2.2.1 HR.out.st H0.out.2.2.2 HR.out.ti hlt eT hk hc
      have hgr := fun (w7 : World) (hN : Nw wr w7) => dGrant (hLn.nw hN) k hk hrt.md hrt.wt (fun y => by have := hcb y; omega) (by omega) hql
      have hcs := cntQ_set q' k hk (grtR q'[k])
      generalize hR : q'[k] = R at *
      obtain ⟨b0, b1, b2, b3, b4⟩ := R
      have e0 := hce 0 _ rfl
      have e1 := hce 1 _ rfl
      have e2 := hce 2 _ rfl
      have e3 := hce 3 _ rfl
      have e4 := hce 4 _ rfl
      simp only [Nat.add_zero] at e0
      simp only at hrt hfy hfn hts hgr hcs hsn
      have g6 : Nw wr (wr.alloc (.cells #[.int .i64 b0, .int .i64 b1, .int .i64 b2, .int .i64 b3, .int .i64 b4] 42)) := (Nw.refl wr).alloc _
      have hq6 := RqB.made wr b0 b1 b2 b3 b4 42
      obtain ⟨w6, hw6⟩ : ∃ w6, wr.alloc (.cells #[.int .i64 b0, .int .i64 b1, .int .i64 b2, .int .i64 b3, .int .i64 b4] 42) = w6 := ⟨_, rfl⟩
      rw [hw6] at g6 hq6
      have hF := dFits p b n' (cntQ q') b2 b3 _ _ _ _ _ w6 (hLn.nw g6).obj (hLn.nw g6).map (fun y => by have := hcb y; omega) hrt.wt
      obtain ⟨hlq, y0, y1, y2, y3, y4⟩ := hq6
      obtain ⟨B, hB⟩ : ∃ B, fitB (cntQ q') b2 b3 = B := ⟨_, rfl⟩
      rw [hB] at hF hfy hfn
      have HW6 := Lib.hid hw6
      have HF := Lib.hid hF
      have HGr := Lib.hid hgr
      have HTs := Lib.hid (And.intro hts (And.intro hcs (And.intro hn' g6)))
      have HY0 := Lib.hid (And.intro y0 (And.intro hlq (And.intro hLn.map.lt hgl)))
      cases B
      · have hd := hfn rfl
        have hsc := HR.out.st.scan H0.out.2.2.1 hd
        have HSc := Lib.hid hsc
        clear hce hrt hfy hfn hts hgr hcs hR hF hB hw6 hLn hlen okq hcb hd hsc eT hqk hsn
        gi_wp2_with fail
        rw [HW6.out]
        gi_wp2_with fail
        refine ⟨trivial, (callsIn_wide.2 HF.out).mono ?_⟩
        rintro e w7 ⟨rfl, g7⟩
        have HE : Hid ((∃ S, J S (scanQ q).1 w7 ∧ EndL g0 p t r W (.slice (some ⟨g, 0, none⟩) q'.length cap) b (scanQ q).2 w7) ∨ ∃ S pre, pre <+: (scanQ q).1 ∧ Jx S pre w7) := Lib.hid (by
          rw [HSc.out]
          have hN := HTs.out.2.2.2.trans g7
          obtain ⟨n'', _, hl2⟩ := HR.out.ln
          exact .inl ⟨S, HJ.out S S pre wr w7 HR.out.j (Tch.nw hN) (fun _ e => e) (fun _ e => .inl e) (fun k e => Nat.lt_of_lt_of_le (HR.out.bd k e) hN.sz), n'', hl2.nw hN⟩)
        clear g7 y0 y1 y2 y3 y4 hlq
        gi_wp2
        refine bodyPost_ret (results_none rfl _ _ _) rfl ?_
        exact ⟨⟨_, rfl⟩, HE.out⟩
      · have hst2 := hts (hfy rfl)
        have HSt := Lib.hid hst2
        have HC := Lib.hid hcs
        clear hce hrt hfy hfn hts hgr hcs hR hF hB hw6 hLn hlen okq hcb eT hqk hsn hst2
        gi_wp2_with fail
        rw [HW6.out]
        gi_wp2_with fail
        refine ⟨trivial, (callsIn_wide.2 HF.out).mono ?_⟩
        rintro e w7 ⟨rfl, g7⟩
        have HG7 := Lib.hid (HTs.out.2.2.2.trans g7)
        have HK7 := Lib.hid g7
        clear g7 y0 y1 y2 y3 y4 hlq
        gi_wp2_with fail
        refine ⟨trivial, (callsIn_wide.2 (HGr.out w7 HG7.out)).mono ?_⟩
        rintro e w8 ⟨rfl, hL8, hT8⟩
        have hbxl : wr.heap.size < w7.heap.size := Nat.lt_of_lt_of_le HY0.out.2.1 HK7.out.sz
        have z0 : w8.cell? ⟨wr.heap.size, 0, none⟩ = some (.int .i64 b0) := (hT8.cell hbxl (fun e => by have := HY0.out.2.2; omega)).trans (HK7.out.kp HY0.out.1)
        have hz0 := World.block_lt_of_cell? _ _ z0
        have hTS : Tch S wr w8 := (Tch.nw HG7.out).trans' hT8 (fun i _ e => by
          rcases e with rfl | rfl
          · exact HS.out.1 _ (.inr (.inl rfl))
          · exact HS.out.1 _ (.inr (.inr rfl)))
        have hbd8 : ∀ k, S k → k < w8.heap.size := fun k e => Nat.lt_of_lt_of_le (HR.out.bd k e) hTS.size
        have hJ8 : J S pre w8 := HJ.out S S pre wr w8 HR.out.j hTS (fun _ e => e) (fun _ e => .inl e) hbd8
        have hpre := steps_pre HSt.out.1 H0.out.2.2.1
        obtain ⟨fn, tmps, assign, body, hy, hRd⟩ := HY.out S pre b0 w8 hJ8 HS.out.1 hbd8 hpre
        have hI8 : IS w8 (.slice (some ⟨gt, 0, none⟩) T.length ct) T := (HR.out.row.nw HG7.out).tch hT8 (fun g' e q1 => by
          have hg' := HS.out.2 g' e
          have e1 := Option.some.inj e
          subst e1
          rcases q1 with q1 | q1
          · obtain ⟨es, cl, ob⟩ := (HR.out.ln.choose_spec.2).map.obj
            rcases HR.out.row.2 with ⟨h', _⟩ | ⟨g2, cap2, cur, h', _, hg2, _⟩
            · simp at h'
            · simp only [Value.slice.injEq, Option.some.injEq, Addr.mk.injEq, and_true, true_and] at h'
              obtain ⟨rfl, rfl⟩ := h'
              simp only at q1
              rw [q1, ob] at hg2; cases hg2
          · obtain ⟨cs, hc⟩ := oheap (HR.out.ln.choose_spec.2).own (g := g) rfl
            rcases HR.out.row.2 with ⟨h', _⟩ | ⟨g2, cap2, cur, h', _, hg2, _⟩
            · simp at h'
            · simp only [Value.slice.injEq, Option.some.injEq, Addr.mk.injEq, and_true, true_and] at h'
              obtain ⟨rfl, rfl⟩ := h'
              simp only at q1
              rw [q1, hc] at hg2
              injection hg2 with hg2
              injection hg2 with _ hg2
              exact absurd hg2 rq_int_ne)
        have HN8 := Lib.hid (And.intro hI8 (And.intro hL8 (And.intro hbd8 hpre)))
        clear hL8 hT8 hTS hbd8 hJ8 hpre hI8
        gi_wp2
        refine hRd.mono ?_
        rintro e w9 (⟨rfl, j2, k2⟩ | ⟨rfl, jx2, _⟩)
        · have H2 : Hid (GrI J S g0 p t r W (.slice (some ⟨g, 0, none⟩) q'.length cap) b n q T (.slice (some ⟨gt, 0, none⟩) T.length ct) (i + 1) (pre ++ [b0]) (q'.set k (grtR ⟨b0, b1, b2, b3, b4⟩)) w9) := Lib.hid
            ⟨j2, fun k e => Nat.lt_of_lt_of_le (HN8.out.2.2.1 k e) k2.size, HN8.out.1.kps k2 HS.out.2, HSt.out.1, HSt.out.2, n' + 2, by have := HTs.out.2.2.1; omega, (HN8.out.2.1.eq HC.out.symm).kps k2 HS.out.1⟩
          clear j2 k2 hy hRd
          gi_wp2
          go_roundw
          case rel => exact ⟨i + 1, _, _, by go_num, by omega, H2⟩
          case measure => simp [intOf]; omega
        · have H2 := Lib.hid jx2
          clear jx2 hy hRd
          gi_wp2
          refine bodyPost_ret (results_none rfl _ _ _) rfl ?_
          exact ⟨⟨_, rfl⟩, .inr ⟨S, pre ++ [b0], HN8.out.2.2.2, H2.out⟩⟩
    · have hd := turn_end H0.out.2.2.1 HR.out.st HR.out.ti hlt
      have hsc := HR.out.st.scan H0.out.2.2.1 hd
      have HE : Hid ((∃ S, J S (scanQ q).1 wr ∧ EndL g0 p t r W v b (scanQ q).2 wr) ∨ ∃ S pre, pre <+: (scanQ q).1 ∧ Jx S pre wr) := Lib.hid (by
        rw [hsc]
        obtain ⟨n'', _, hl2⟩ := HR.out.ln
        exact .inl ⟨S, HR.out.j, n'', hl2⟩)
      obtain rfl : i = T.length := by omega
      clear hd hsc
      gi_wp2
      refine bodyPost_end (results_none rfl _ _ _) rfl ?_
      exact ⟨⟨_, rfl⟩, HE.out⟩

set_option maxRecDepth 100000 in
set_option maxHeartbeats 4000000 in
theorem dScanG (t r W : Int) (v : Value) (q : List Rq) (w : World) (hl : q.length ≤ 1000) (hok : Ok W q) (h : RqAt w v q) :
    Calls Tryz.prog 55 #[hdV t r v W] w fun e w' => ∃ v' vi, e = .returned (.tuple #[hdV t r v' W, vi]) ∧ Nw w w' ∧ RqAt w' v' (scanQ q).2 ∧ capOk v' ∧ IS w' vi (scanQ q).1 ∧ Fresh w v' (scanQ q).2 ∧ ∀ g, vi.ownBlock = some g → w.heap.size ≤ g := by
  have HLi := Lib.hid (fun (w1 : World) (g : Nw w w1) => dLineOf t r W v q w1 hl (fun R hR => (hok.rt R hR).md) (h.nw g))
  obtain ⟨a, c, rfl⟩ := h.form
  unfold hdV at HLi ⊢
  obtain ⟨hx1, hx2, hx3, hx4⟩ := two_boxes w (.cells #[.int .i64 t, .int .i64 r, .slice a q.length c, .int .i64 W] 52) (.cells #[.int .i64 0, .int .i64 0, .slice none 0 0, .int .i64 0] 52)
  obtain ⟨w1, hw1⟩ : ∃ w1, (w.alloc (.cells #[.int .i64 t, .int .i64 r, .slice a q.length c, .int .i64 W] 52)).alloc (.cells #[.int .i64 0, .int .i64 0, .slice none 0 0, .int .i64 0] 52) = w1 := ⟨_, rfl⟩
  rw [hw1] at hx2 hx3
  have HX := Lib.hid (And.intro hx2 hx3)
  have HW1 := Lib.hid hw1
  clear hx1 hx2 hx3 hx4 h hw1
  go_enter Tryz.func55, Tryz.ntmps55
  go_wp2_with fail
  rw [HW1.out]
  go_at_call 51
  refine (HLi.out _ HX.out.2).mono ?_
  rintro e w2 ⟨p, v1, b, n, rfl, g2, hL2, hnq⟩
  have hq2 := g2.at' HX.out.1
  have HQ := Lib.hid (And.intro hq2 (And.intro (HX.out.2.trans g2) (And.intro hL2 (hlt HX.out.1))))
  have hsl := hL2.bound
  have hls : (scanQ q).1.length ≤ 100000 := by
    have hw := (scan_steps hok).1.wtg hok
    have : wtg q ≤ q.length := List.countP_le_length
    omega
  have hC := collect_any _ #[.pointer (some ⟨p, 0, none⟩)] #[] e_grants (scanQ q).1 (SL p b v1) (EndL w1.heap.size p t r W v1 b (scanQ q).2) w2 hls hsl (grantsG_in 4 (by omega) w1.heap.size p b n t r W v1 q w2 hL2 hok hl (by omega)) (fun A l o o' h1 _ _ h2 => endl_put hsl A l o o' h1 h2)
  have HC := Lib.hid hC
  have HSL := Lib.hid (And.intro hsl (fun k (e : SL p b v1 k) => show w1.heap.size ≤ k by
    rcases e with rfl | rfl | e
    · exact hL2.gp
    · exact hL2.gb
    · exact oge hL2.own e))
  clear hq2 g2 hL2 hsl hls hC HLi HX
  go_wp2_with fail
  go_at_call 75
  refine HC.out.mono ?_
  rintro e w3 ⟨vi, rfl, hIi, hif, ⟨n3, hL3⟩, hT3⟩
  have hq3 := (hT3.block (w.heap.size + 1) (hlt HQ.out.1) (fun e => by have := HSL.out.2 _ e; have := HQ.out.2.2.2; omega)).trans HQ.out.1
  have hN3 : Nw w w3 := nw_tch HQ.out.2.1 hT3 (fun k e => by have := HSL.out.2 k e; have := HQ.out.2.2.2; omega)
  obtain ⟨a2, k2, hv2⟩ := (RqOwn.rd hL3.own).form
  obtain ⟨n2, hn2⟩ : ∃ n, (scanQ q).2.length = n := ⟨_, rfl⟩
  rw [hn2] at hv2
  subst hv2
  obtain ⟨ai, ci, hvi, _⟩ := hIi.box
  obtain ⟨ni, hni⟩ : ∃ n, (scanQ q).1.length = n := ⟨_, rfl⟩
  rw [hni] at hvi
  subst hvi
  have HE := Lib.hid (And.intro hN3 (And.intro hL3 (And.intro hIi (And.intro hif HQ.out.2.2.2))))
  have hpl := hlt hL3.obj
  have e0 := hcell (j := 0) hL3.obj
  have e1 := hcell (j := 1) hL3.obj
  have e2 := hcell (j := 2) hL3.obj
  have e3 := hcell (j := 3) hL3.obj
  have d0 := hcell (j := 0) hq3
  have d1 := hcell (j := 1) hq3
  have d2 := hcell (j := 2) hq3
  have d3 := hcell (j := 3) hq3
  have fz := fun k => hfz (j := k) hq3
  have hsl2 := hlt hq3
  have HS2 := Lib.hid (hlt HQ.out.1)
  have HQF : Hid (w.heap.size ≤ w1.heap.size) := Lib.hid (by have := HQ.out.2.2.2; omega)
  clear hL3 hT3 hN3 hq3 hIi hif hn2 hni HC HSL HQ
  go_wp2
  exact bodyPost_ret (v := .tuple #[.agg #[.int .i64 t, .int .i64 r, .slice a2 n2 k2, .int .i64 W], .slice ai ni ci]) (by simp only [results, Tryz.results55]; simp [go_sem, *]) rfl ⟨_, _, rfl, fill_nw HE.out.1 (Nat.le_succ _) _ _ _ _, (HE.out.2.1.done HE.out.2.2.2.2 _ _ _ _).1, HE.out.2.1.own.cap, is_fill HE.out.2.2.1 (fun g e => by have := HE.out.2.2.2.1 g e; have := HS2.out; omega) _ _ _ _, HE.out.2.1.own.fresh HQF.out, fun g e => by have := HE.out.2.2.2.1 g e; have := HS2.out; omega⟩
end Go.Proofs.YtfemopcichmlmaaGreatRRR
end

/- made, with, at, settle. -/
section
namespace Go.Proofs.YtfemopcichmlmaaGreatRRR
open Go.RowKit Go.Shelf
set_option linter.unusedVariables false      -- a contract need not use every name

/-! ### made -/
theorem infoBk : (Tryz.prog.info? 80).isSome = true := by kernel_rfl
theorem beql_self (a : Addr) (w : World) : Sem.run Tryz.prog (binOp .eql 29 (.pointer (some a)) (.pointer (some a))) w = .ok (.bool true) w := by
  obtain ⟨j, hj⟩ := Option.isSome_iff_exists.1 infoBk
  exact run_eql_ptr_same w a Tryz.underlying29 hj
theorem bmade_yes (o : Nat) (w : World) (h : w.cell? ⟨o, 0, none⟩ = some (.pointer (some ⟨o, 0, none⟩))) : Calls Tryz.prog 25 #[.pointer (some ⟨o, 0, none⟩)] w fun e w' => e = .returned (.bool true) ∧ w = w' := by
  have he := beql_self
  go_enter Tryz.func25, Tryz.ntmps25
  go_wp2
  go_ret
  exact ⟨rfl, rfl⟩
theorem bmade_nil (w : World) : Calls Tryz.prog 25 #[.pointer none] w fun e w' => e = .returned (.bool false) ∧ w = w' := by
  go_enter Tryz.func25, Tryz.ntmps25
  go_wp2
  go_ret
  exact ⟨rfl, rfl⟩
theorem with_any {w : World} {o mb po n : Nat} {l : List Hp} {L : List Bool} {F : Nat → Prop} (h : Db w o mb po n l L F) (id : Int) :
    Calls Tryz.prog 35 #[.pointer (some ⟨o, 0, none⟩), .int .i64 id] w fun e w' => e = .returned (hpH (wthP l id)) ∧ Nw w w' := callsIn_wide.1 (with_in 4 (by omega) h id)
/-! ### at -/
def atP (l : List Hp) (a : Int × Int) : Hp := (getP l a).getD ⟨⟨a.1, a.2, 0, []⟩, 0, none, 0⟩
set_option maxRecDepth 20000 in
set_option maxHeartbeats 1000000 in
theorem at_any {w : World} {o mb po n : Nat} {l : List Hp} {L : List Bool} {F : Nat → Prop} (h : Db w o mb po n l L F) (t r : Int) (wa : wfN (t, r)) :
    Calls Tryz.prog 30 #[.pointer (some ⟨o, 0, none⟩), .agg #[.int .i64 t, .int .i64 r]] w fun e w' => e = .returned (hpH (atP l (t, r))) ∧ Nw w w' := by
  have H := Lib.hid h
  have hol := h.ol
  obtain ⟨w1, hw1⟩ : ∃ w1, (w.alloc (.cells #[.int .i64 t, .int .i64 r] 24)).alloc (.cells #[.int .i64 0, .int .i64 0, .slice none 0 0, .int .i64 0] 52) = w1 := ⟨_, rfl⟩
  have g1 : Nw w w1 := by rw [← hw1]; exact ((Nw.refl w).alloc _).alloc _
  have b0 : w1.heap[w.heap.size]? = some (.cells #[.int .i64 t, .int .i64 r] 24 (0, 0)) := by
    rw [← hw1]; exact ((Nw.refl _).alloc _).at' (allocAt w _)
  have b1 : w1.heap[w.heap.size + 1]? = some (.cells #[.int .i64 0, .int .i64 0, .slice none 0 0, .int .i64 0] 52 (0, 0)) := by
    rw [← hw1]
    have := allocAt (w.alloc (.cells #[.int .i64 t, .int .i64 r] 24)) (.cells #[.int .i64 0, .int .i64 0, .slice none 0 0, .int .i64 0] 52)
    rwa [World.size_alloc] at this
  have HG := Lib.hid (And.intro g1 (And.intro b0 b1))
  have H1 := Lib.hid hw1
  clear h hw1
  go_enter Tryz.func30, Tryz.ntmps30
  go_wp2_with fail
  rw [H1.out]
  have n0 := hcell (j := 0) b0
  have n1 := hcell (j := 1) b0
  have c3 := g1.kp H.out.c3
  have hD : Nw w w1.drew := g1.dr
  cases hg : getP l (t, r) with
  | some x =>
    obtain ⟨hx, hnx⟩ := getP_some hg
    have hlk := fun (d : Wd (fun y => y = w1.drew)) => ((H.out.nw (show Nw w d.w by rw [d.h]; exact hD)).map).look_yes wa hg
    have d0 : ∀ d : Wd (fun y => y = w1.drew), d.w.cell? ⟨w.heap.size, 0, none⟩ = some (.int .i64 t) := fun d => by rw [d.h]; exact n0
    have d1 : ∀ d : Wd (fun y => y = w1.drew), d.w.cell? ⟨w.heap.size, 1, none⟩ = some (.int .i64 r) := fun d => by rw [d.h]; exact n1
    have d3 : ∀ d : Wd (fun y => y = w1.drew), d.w.cell? ⟨o, 3, none⟩ = some (.map (some mb)) := fun d => by rw [d.h]; exact c3
    have hne : Nonempty (Wd (fun y => y = w1.drew)) := ⟨⟨_, rfl⟩⟩
    have hok := (H.out.nw hD).ok x hx
    have HA := Lib.hid (show atP l (t, r) = x by unfold atP; rw [hg]; rfl)
    obtain ⟨⟨xt, xr, xW, xq⟩, xp, xa, xc⟩ := x
    have c0 := hok.c0
    have c1 := hok.c1
    have c2 := hok.c2
    have c4 := hok.c3
    have hxl := hok.lt
    obtain ⟨ql, hql⟩ : ∃ ql, xq.length = ql := ⟨_, rfl⟩
    simp only at c0 c1 c2 c4 hxl
    rw [hql] at c2
    have HQ := Lib.hid hql
    unfold nmV at hlk
    simp only at hlk
    clear hx hnx hg hok hql b0 n0 n1 c3
    refine region_in (fun y => y = w1.drew) (by kernel_rfl) (by kernel_rfl) rfl ?_
    repeat (first | go_big_quiet_step (fail) | quiet_step (fail))
    refine wpQuiet_nil ?_
    intro d
    rw [d.h]
    clear d hlk d0 d1 d3 hne
    have r0 := hcell (j := 0) b1
    have r1 := hcell (j := 1) b1
    have r2 := hcell (j := 2) b1
    have r3 := hcell (j := 3) b1
    have rz := fun j => hfz (j := j) b1
    have rl := hlt b1
    clear b1
    have hy : ∀ b j, w1.drew.cell? ⟨b, j, none⟩ = w1.cell? ⟨b, j, none⟩ := fun _ _ => rfl
    rw [hy] at c0 c1 c2 c4
    clear hy
    go_wp2
    rw [HA.out]
    refine bodyPost_ret (v := .agg #[.int .i64 xt, .int .i64 xr, .slice xa ql xc, .int .i64 xW]) (by simp [results, Tryz.results30, go_sem, *]) rfl ?_
    refine ⟨by unfold hpH; rw [HQ.out], ?_⟩
    exact (((HG.out.1.dr.st (p := ⟨w.heap.size + 1, 0, none⟩) (Nat.le_succ _) _).st (p := ⟨w.heap.size + 1, 1, none⟩) (Nat.le_succ _) _).st (p := ⟨w.heap.size + 1, 2, none⟩) (Nat.le_succ _) _).st (p := ⟨w.heap.size + 1, 3, none⟩) (Nat.le_succ _) _
  | none =>
    have hlk := fun (d : Wd (fun y => y = w1.drew)) => ((H.out.nw (show Nw w d.w by rw [d.h]; exact hD)).map).look_no wa hg
    have d0 : ∀ d : Wd (fun y => y = w1.drew), d.w.cell? ⟨w.heap.size, 0, none⟩ = some (.int .i64 t) := fun d => by rw [d.h]; exact n0
    have d1 : ∀ d : Wd (fun y => y = w1.drew), d.w.cell? ⟨w.heap.size, 1, none⟩ = some (.int .i64 r) := fun d => by rw [d.h]; exact n1
    have d3 : ∀ d : Wd (fun y => y = w1.drew), d.w.cell? ⟨o, 3, none⟩ = some (.map (some mb)) := fun d => by rw [d.h]; exact c3
    have hne : Nonempty (Wd (fun y => y = w1.drew)) := ⟨⟨_, rfl⟩⟩
    have HA := Lib.hid (show hpH (atP l (t, r)) = .agg #[.int .i64 t, .int .i64 r, .slice none 0 0, .int .i64 0] by unfold atP; rw [hg]; rfl)
    unfold nmV at hlk
    simp only at hlk
    clear hg c3
    refine region_in (fun y => y = w1.drew) (by kernel_rfl) (by kernel_rfl) rfl ?_
    repeat (first | go_big_quiet_step (fail) | quiet_step (fail))
    refine wpQuiet_nil ?_
    intro d
    rw [d.h]
    clear d hlk d0 d1 d3 hne
    have r0 := hcell (j := 0) b1
    have r1 := hcell (j := 1) b1
    have r2 := hcell (j := 2) b1
    have r3 := hcell (j := 3) b1
    have rz := fun j => hfz (j := j) b1
    have rl := hlt b1
    have rl0 := hlt b0
    clear b1 b0
    go_wp2
    rw [HA.out]
    refine bodyPost_ret (v := .agg #[.int .i64 t, .int .i64 r, .slice none 0 0, .int .i64 0]) (by simp [results, Tryz.results30, go_sem, *]) rfl ?_
    refine ⟨rfl, ?_⟩
    exact (((HG.out.1.dr.st (p := ⟨w.heap.size + 1, 0, none⟩) (Nat.le_succ _) _).st (p := ⟨w.heap.size + 1, 1, none⟩) (Nat.le_succ _) _).st (p := ⟨w.heap.size + 1, 2, none⟩) (Nat.le_succ _) _).st (p := ⟨w.heap.size + 1, 3, none⟩) (Nat.le_succ _) _
end Go.Proofs.YtfemopcichmlmaaGreatRRR
end

/- The document's own queue: Scan. -/
section
namespace Go.Proofs.YtfemopcichmlmaaGreatRRR
open Go.RowKit
set_option linter.unusedVariables false      -- a contract need not use every name

def lenV : Value → Nat
  | .slice _ n _ => n
  | _ => 0
theorem is_len {w : World} {v : Value} {l : List Int} (h : IS w v l) : lenV v = l.length := by
  rcases h.form with ⟨rfl, rfl⟩ | ⟨g, cap, rfl⟩ <;> rfl
/-- Between two grants. -/
structure ScI (w : World) (t r W : Int) (a1 : Option Addr) (n1 k1 : Nat) (g0 pb rb : Nat) (q : List Rq) (u : Value) (ids : List Int) (q' : List Rq) (x : World) : Prop where
  isr : IS x u ids
  new : ∀ g, u.ownBlock = some g → w.heap.size ≤ g
  own : RqOwn x g0 (.slice a1 n1 k1) q'
  len : q'.length = n1
  st : Steps q ids q'
  pb : x.heap[pb]? = some (.cells #[.int .i64 t, .int .i64 r, .slice a1 n1 k1, .int .i64 W] 52 (0, 0))
  rb : x.heap[rb]? = some (.cells #[.int .i64 0, .int .i64 0, .slice none 0 0, .int .i64 0] 52 (0, 0))
  nw : Nw w x
theorem ScI.nx {w : World} {t r W : Int} {a1 : Option Addr} {n1 k1 g0 pb rb : Nat} {q : List Rq} {u : Value} {ids : List Int} {q' : List Rq} {x y : World} (h : ScI w t r W a1 n1 k1 g0 pb rb q u ids q' x) (g : Nw x y) : ScI w t r W a1 n1 k1 g0 pb rb q u ids q' y :=
  ⟨h.isr.nw g, h.new, onw h.own g, h.len, h.st, g.at' h.pb, g.at' h.rb, h.nw.trans g⟩
theorem not_fit {q : List Rq} {m : Int} {W : Int} (h : Ok W q) {k : Nat} (hk : k < q.length) (hf : ¬ fitI q m (k : Int)) : ∃ o ∈ q, o.id ≠ q[k].id ∧ o.md ≠ 0 ∧ cpI o.md m = false := by
  refine Classical.byContradiction fun hn => hf fun j hj ne hm => ?_
  cases e : cpI q[j].md m with
  | true => rfl
  | false => exact absurd ⟨q[j], List.getElem_mem hj, id_ne h hj hk (by omega), hm, e⟩ hn
theorem is_fit {q : List Rq} {m : Int} {k : Nat} (hk : k < q.length) (hf : fitI q m (k : Int)) : ∀ o ∈ q, o.id ≠ q[k].id → o.md ≠ 0 → cpI o.md m = true := by
  intro o ho ne hm
  obtain ⟨j, hj, rfl⟩ := List.getElem_of_mem ho
  exact hf j hj (fun e => ne (by have : j = k := by omega
                                 subst this; rfl)) hm
theorem heap_st {w : World} {B : Nat} {o : Option Obj} {p : Addr} (h : w.heap[B]? = o) (hp : p.block ≠ B) (u : Value) : (w.setCell p u).heap[B]? = o := by
  rw [← h]
  exact Below.heap_setCell _ _ _ _ (by first | exact hp | exact hp.symm)
theorem own_st' {w : World} {g0 e size n : Nat} {v : Value} {xs : List Value} {p : Addr} (h : w.ownsRow g0 e size v n xs) (hp : ∀ g, v.ownBlock = some g → g ≠ p.block) (u : Value) : (w.setCell p u).ownsRow g0 e size v n xs :=
  okeep h (sgrown w p u) (fun g hg q => hp g hg (Option.some.inj q).symm)
theorem is_ne {w : World} {u : Value} {l : List Int} {B : Nat} {c : Array Value} {T : TypeId} {fr : Nat × Nat} (h : IS w u l) (hb : w.heap[B]? = some (.cells c T fr)) (hT : T ≠ 3) : ∀ g, u.ownBlock = some g → g ≠ B := by
  rintro g hg rfl
  obtain ⟨c', hc⟩ := oheap h hg
  rw [hb] at hc
  injection hc with hc
  injection hc with _ e _
  exact hT e
theorem ScI.grt {w : World} {t r W : Int} {g n1 k1 g0 pb rb i j : Nat} {q : List Rq} {u a b : Value} {ids : List Int} {q' : List Rq} {x : World} (h : ScI w t r W (some ⟨g, 0, none⟩) n1 k1 g0 pb rb q u ids q' x) (hu : ∀ g', u.ownBlock = some g' → g' ≠ g) (hp : g ≠ pb) (hr : g ≠ rb) (hw : w.heap.size ≤ g) :
    IS ((x.drew.setCell ⟨g, i, none⟩ a).setCell ⟨g, j, none⟩ b) u ids ∧ ((x.drew.setCell ⟨g, i, none⟩ a).setCell ⟨g, j, none⟩ b).heap[pb]? = some (.cells #[.int .i64 t, .int .i64 r, .slice (some ⟨g, 0, none⟩) n1 k1, .int .i64 W] 52 (0, 0)) ∧
      ((x.drew.setCell ⟨g, i, none⟩ a).setCell ⟨g, j, none⟩ b).heap[rb]? = some (.cells #[.int .i64 0, .int .i64 0, .slice none 0 0, .int .i64 0] 52 (0, 0)) ∧ Nw w ((x.drew.setCell ⟨g, i, none⟩ a).setCell ⟨g, j, none⟩ b) :=
  ⟨own_st' (own_st' (h.isr.nw (Nw.refl _).dr) (p := ⟨g, i, none⟩) hu a) (p := ⟨g, j, none⟩) hu b, heap_st (heap_st (w := x.drew) h.pb (p := ⟨g, i, none⟩) hp a) (p := ⟨g, j, none⟩) hp b, heap_st (heap_st (w := x.drew) h.rb (p := ⟨g, i, none⟩) hr a) (p := ⟨g, j, none⟩) hr b,
    (h.nw.dr.st (p := ⟨g, i, none⟩) hw a).st (p := ⟨g, j, none⟩) hw b⟩
theorem own_tch {w w' : World} {g0 e size n : Nat} {u v : Value} {xs : List Value} (ho : w.ownsRow g0 e size v n xs) (hg : Tch (fun k => u.ownBlock = some k) w w') (hne : ∀ g, v.ownBlock = some g → u.ownBlock ≠ some g) : w'.ownsRow g0 e size v n xs :=
  okeep ho (row := u.ownBlock) ⟨hg.os, hg.tape, hg.output, hg.size, fun k hk hn => hg.block k hk (fun e => hn e.symm)⟩ hne
theorem ScI.push {w : World} {t r W : Int} {g n1 k1 g0 pb rb : Nat} {q : List Rq} {u u' : Value} {ids : List Int} {c : Int} {q' : List Rq} {y y1 : World} (hi : IS y u ids) (hn : ∀ g, u.ownBlock = some g → w.heap.size ≤ g) (ho : RqOwn y g0 (.slice (some ⟨g, 0, none⟩) n1 k1) q') (hl : q'.length = n1) (st : Steps q (ids ++ [c]) q')
    (hp : y.heap[pb]? = some (.cells #[.int .i64 t, .int .i64 r, .slice (some ⟨g, 0, none⟩) n1 k1, .int .i64 W] 52 (0, 0))) (hr : y.heap[rb]? = some (.cells #[.int .i64 0, .int .i64 0, .slice none 0 0, .int .i64 0] 52 (0, 0))) (nw : Nw w y)
    (i1 : IS y1 u' (ids ++ [c])) (tch : Tch (fun k => u.ownBlock = some k) y y1) (hb : ∀ k, u'.ownBlock = some k → u.ownBlock = some k ∨ y.heap.size ≤ k) (hug : ∀ g', u.ownBlock = some g' → g' ≠ g) : ScI w t r W (some ⟨g, 0, none⟩) n1 k1 g0 pb rb q u' (ids ++ [c]) q' y1 :=
  ⟨i1, fun k e => (hb k e).elim (hn k) (fun q => Nat.le_trans nw.sz q), own_tch ho tch (fun g2 e e2 => hug g2 e2 (Option.some.inj e).symm), hl, st, (tch.block pb (hlt hp) (fun e => is_ne hi hp (by decide) pb e rfl)).trans hp, (tch.block rb (hlt hr) (fun e => is_ne hi hr (by decide) rb e rfl)).trans hr, nw_tch nw tch hn⟩
theorem fill_is {a : World} {rb : Nat} {v : Value} {l : List Int} (h : IS a v l) (hb : ∀ g, v.ownBlock = some g → g ≠ rb) (u0 u1 u2 u3 : Value) : IS ((((a.setCell ⟨rb, 0, none⟩ u0).setCell ⟨rb, 1, none⟩ u1).setCell ⟨rb, 2, none⟩ u2).setCell ⟨rb, 3, none⟩ u3) v l :=
  own_st' (own_st' (own_st' (own_st' h (p := ⟨rb, 0, none⟩) hb u0) (p := ⟨rb, 1, none⟩) hb u1) (p := ⟨rb, 2, none⟩) hb u2) (p := ⟨rb, 3, none⟩) hb u3
end Go.Proofs.YtfemopcichmlmaaGreatRRR
end

/- settle: a head behind a call: scanned, and kept as long as it has a request. -/
section
namespace Go.Proofs.YtfemopcichmlmaaGreatRRR
open Go.RowKit Go.Shelf
set_option linter.unusedVariables false      -- a contract need not use every name

theorem mapUpd_run {P : Program} {w : World} {ops : Array Oper} {rest : List Oper} {o : Oper} {a : Act} {Q : Exit → Act → World → Prop}
    (hg : o.guard = none) (m x u : Operand) (t : TypeId) (hop : o.op = Op.mapUpdate t m x u) (M K V : Value) (w' : World) (hm : a.eval m = M) (hx : a.eval x = K) (hu : a.eval u = V)
    (hr : (Instr.mapUpdate t M K V).run P w = .ok () w') (h : wpList P ops Q rest (a.put o.dst undef) w') : wpList P ops Q (o :: rest) a w := by
  refine wpList_plain hg fun K' hK' => ?_
  unfold Oper.wp
  simp [execOp, hop, hm, hx, hu, hr, Result.andThen]
  exact hK' _ _ h
theorem mapDel_run {P : Program} {w : World} {ops : Array Oper} {rest : List Oper} {o : Oper} {a : Act} {Q : Exit → Act → World → Prop}
    (hg : o.guard = none) (m x : Operand) (t k : TypeId) (hop : o.op = Op.call { callee := Callee.builtin Builtin.delete, args := #[m, x], argTypes := #[t, k] }) (M K : Value) (w' : World) (hm : a.eval m = M) (hx : a.eval x = K)
    (hr : (Builtin.delete_ #[t, k] o.type #[M, K]).run P w = .ok (.tuple #[]) w') (h : wpList P ops Q rest (a.put o.dst (.tuple #[])) w') : wpList P ops Q (o :: rest) a w := by
  refine wpList_plain hg fun K' hK' => ?_
  unfold Oper.wp
  simp [execOp, hop, resolve, invoke, builtin, hm, hx, hr, Result.andThen]
  exact hK' _ _ h
/-- A head is put into the map. -/
theorem Db.put {w w3 w4 : World} {o mb po n : Nat} {l : List Hp} {L : List Bool} {F : Nat → Prop} (h : Db w o mb po n l L F) (g : Nw w w3) (t : w3.mapTurned w4 mb) (x : Hp) (hm : MapH w4 mb (putP l x)) (hx : HpOk w3 F x) (hl : (putH (hsP l) x.h).length ≤ 64) : DbTo w o mb po n F w4 (insP l x) L := by
  have h3 := h.nw g
  have tt := turned_tch t
  have hol := h3.ol
  have hmn : ∀ k, F k → k ≠ mb := fun k e q => h.mf (q ▸ e)
  refine ⟨F, ⟨(tt.cell hol h.omb).trans h3.c0, (tt.cell hol h.omb).trans h3.c1, (tt.cell hol h.omb).trans h3.c2, (tt.cell hol h.omb).trans h3.c3, Nat.lt_of_lt_of_le hol tt.size, h.nf, h.mf, hm.perm (ins_perm h.srt x), ins_srt h.srt x, fun y hy => ?_, h3.pol.tch tt hmn, ?_⟩, fun _ e => .inl e, (Tch.nw g).trans' tt (fun i _ e => .inl e)⟩
  · have key : HpOk w3 F y := by
      rcases ins_mem h.srt hy with rfl | q
      · exact hx
      · exact h3.ok y q
    exact key.step tt (h3.map.cellne key.c0) (fun b e hq => key.qne h3.map b e hq) (fun _ e => .inl e)
  · have := congrArg List.length (ins_map l x)
    rw [List.length_map] at this
    omega
theorem Db.del {w w3 w4 : World} {o mb po n : Nat} {l : List Hp} {L : List Bool} {F : Nat → Prop} (h : Db w o mb po n l L F) (g : Nw w w3) (t : w3.mapTurned w4 mb) (a : Int × Int) (hm : MapH w4 mb (delP l a)) : DbTo w o mb po n F w4 (delP l a) L := by
  have h3 := h.nw g
  have tt := turned_tch t
  have hol := h3.ol
  have hmn : ∀ k, F k → k ≠ mb := fun k e q => h.mf (q ▸ e)
  refine ⟨F, ⟨(tt.cell hol h.omb).trans h3.c0, (tt.cell hol h.omb).trans h3.c1, (tt.cell hol h.omb).trans h3.c2, (tt.cell hol h.omb).trans h3.c3, Nat.lt_of_lt_of_le hol tt.size, h.nf, h.mf, hm, del_srt h.srt a, fun y hy => ?_, h3.pol.tch tt hmn, ?_⟩, fun _ e => .inl e, (Tch.nw g).trans' tt (fun i _ e => .inl e)⟩
  · have key : HpOk w3 F y := h3.ok y (List.mem_filter.1 hy).1
    exact key.step tt (h3.map.cellne key.c0) (fun b e hq => key.qne h3.map b e hq) (fun _ e => .inl e)
  · exact Nat.le_trans (List.length_filter_le _ _) h.len
/-- Four cells of a box are stored. -/
theorem bxp_put {w : World} {B : Nat} {T : TypeId} {fr : Nat × Nat} {a0 a1 a2 a3 : Value} (h : w.heap[B]? = some (.cells #[a0, a1, a2, a3] T fr)) (u0 u1 u2 u3 : Value) :
    ((((w.setCell ⟨B, 0, none⟩ u0).setCell ⟨B, 1, none⟩ u1).setCell ⟨B, 2, none⟩ u2).setCell ⟨B, 3, none⟩ u3).heap[B]? = some (.cells #[u0, u1, u2, u3] T fr) := by
  have := hset (j := 3) u3 (hset (j := 2) u2 (hset (j := 1) u1 (hset (j := 0) u0 h)))
  simpa using this
theorem bxp_tch (w : World) (B : Nat) (u0 u1 u2 u3 : Value) : Tch (fun b => b = B) w ((((w.setCell ⟨B, 0, none⟩ u0).setCell ⟨B, 1, none⟩ u1).setCell ⟨B, 2, none⟩ u2).setCell ⟨B, 3, none⟩ u3) :=
  ((((Tch.refl (fun b => b = B) w).set (p := ⟨B, 0, none⟩) (.inl rfl) _).set (p := ⟨B, 1, none⟩) (.inl rfl) _).set (p := ⟨B, 2, none⟩) (.inl rfl) _).set (p := ⟨B, 3, none⟩) (.inl rfl) _
theorem rq_tchM {w w' : World} {S : Nat → Prop} {v : Value} {q : List Rq} (h : RqAt w v q) (t : Tch S w w') (hS : ∀ a n c, v = .slice (some a) n c → q ≠ [] → ¬ S a.block) : RqAt w' v q := by
  by_cases hq : q = []
  · subst hq
    obtain ⟨a, c, e, ⟨_, h⟩ | ⟨b, o, e2, hc⟩⟩ := h
    · exact ⟨a, c, e, .inl ⟨rfl, h⟩⟩
    · subst e2; exact ⟨_, c, e, .inl ⟨rfl, fun q => by cases q⟩⟩
  · obtain ⟨a, c, e, ⟨h, _⟩ | ⟨b, o, e2, hc⟩⟩ := h
    · exact absurd h hq
    · subst e2
      have hb := hS _ _ _ e hq
      exact ⟨_, c, e, .inr ⟨b, o, rfl, Nat.lt_of_lt_of_le hc.lt t.size, fun i hi c u hu => (t.cell hc.lt hb).trans (hc.cell i hi c u hu)⟩⟩
theorem is_tchM {w w' : World} {S : Nat → Prop} {g0 e size n : Nat} {v : Value} {xs : List Value} (h : w.ownsRow g0 e size v n xs) (t : Tch S w w') (hS : ∀ g, v.ownBlock = some g → ¬ S g) : w'.ownsRow g0 e size v n xs := by
  refine ⟨h.1, ?_⟩
  rcases h.2 with hn | ⟨g, cap, cur, rfl, hb, hgg, rest⟩
  · exact .inl hn
  · exact .inr ⟨g, cap, cur, rfl, hb, (t.block g (Array.getElem?_eq_some_iff.1 hgg).1 (hS g rfl)).trans hgg, rest⟩
set_option maxRecDepth 20000 in
set_option maxHeartbeats 2000000 in
theorem settle_any {w : World} {o mb po n : Nat} {l : List Hp} {L : List Bool} {F : Nat → Prop} (h : Db w o mb po n l L F) (t r W : Int) (v : Value) (q : List Rq) (wa : wfN (t, r)) (hl : q.length ≤ 1000) (hok : Ok W q) (hrd : RqAt w v q) (hlen : (endS (hsP l) ⟨t, r, W, q⟩).length ≤ 64) :
    Calls Tryz.prog 34 #[.pointer (some ⟨o, 0, none⟩), .agg #[.int .i64 t, .int .i64 r, v, .int .i64 W]] w fun e w' => ∃ vi l', e = .returned vi ∧ IS w' vi (scanQ q).1 ∧ hsP l' = endS (hsP l) ⟨t, r, W, q⟩ ∧ DbTo w o mb po n F w' l' L ∧ ∀ g, vi.ownBlock = some g → w.heap.size ≤ g := by
  have H := Lib.hid h
  have HOk := Lib.hid hok
  have HLn := Lib.hid hlen
  have hol := h.ol
  have hml := h.map.lt
  have hll := h.len
  obtain ⟨pb, hpb⟩ : ∃ pb, w.heap.size = pb := ⟨_, rfl⟩
  have hal := allocAt w (.cells #[.int .i64 t, .int .i64 r, v, .int .i64 W] 52)
  have hN : Nw w (w.alloc (.cells #[.int .i64 t, .int .i64 r, v, .int .i64 W] 52)) := (Nw.refl w).alloc _
  have HC := Lib.hid (fun w2 (g2 : Nw w w2) => dScanG t r W v q w2 hl hok (hrd.nw g2))
  have hsl : (scanQ q).2.length = q.length := scan_len hok
  obtain ⟨a0, n0, hv⟩ := hrd.form
  subst hv
  clear h hok hlen hrd
  unfold hdV at HC
  go_enter Tryz.func34, Tryz.ntmps34
  go_wp2_with fail
  generalize hz : w.alloc (.cells #[.int .i64 t, .int .i64 r, .slice a0 q.length n0, .int .i64 W] 52) = z at *
  clear hz
  rw [hpb] at hal hol hml
  try rw [hpb]
  refine (HC.out _ hN).mono ?_
  rintro e w1 ⟨v1, vi, rfl, g1, hrd, hcap, his, hfr, hin⟩
  obtain ⟨a2, n2, hv1⟩ := hrd.form
  rw [hsl] at hv1
  subst hv1
  have HSl := Lib.hid hsl
  have hal1 := g1.at' hal
  have HN1 := Lib.hid (hN.trans g1)
  have hzp : pb < z.heap.size := hlt hal
  have hpl := hlt hal1
  have p0 : w1.cell? ⟨pb, 0, none⟩ = some (.int .i64 t) := hcell hal1
  have p1 : w1.cell? ⟨pb, 1, none⟩ = some (.int .i64 r) := hcell hal1
  have p2 : w1.cell? ⟨pb, 2, none⟩ = some (.slice a0 q.length n0) := hcell hal1
  have p3 : w1.cell? ⟨pb, 3, none⟩ = some (.int .i64 W) := hcell hal1
  have pz := fun j => hfz (j := j) hal1
  have hb2 := bxp_put hal1 (.int .i64 t) (.int .i64 r) (.slice a2 q.length n2) (.int .i64 W)
  have ht2 := bxp_tch w1 pb (.int .i64 t) (.int .i64 r) (.slice a2 q.length n2) (.int .i64 W)
  simp only [hdV]
  have hsl := HSl.out
  obtain ⟨bq, hqd⟩ : ∃ b, ((q.length : Int) == 0) = b := ⟨_, rfl⟩
  cases bq
  all_goals
    go_wp2_with fail
    generalize ((((w1.setCell ⟨pb, 0, none⟩ (.int .i64 t)).setCell ⟨pb, 1, none⟩ (.int .i64 r)).setCell ⟨pb, 2, none⟩ (.slice a2 q.length n2)).setCell ⟨pb, 3, none⟩ (.int .i64 W)) = y2 at *
    have hNy : Nw w y2 := nw_tch HN1.out ht2 (fun i e => by omega)
    have hzs : w.heap.size ≤ z.heap.size := hN.sz
    have hrd2 : RqAt y2 (.slice a2 q.length n2) (scanQ q).2 := rq_tchM hrd ht2 (fun a n c e hq => by
      simp only [Value.slice.injEq] at e
      obtain ⟨rfl, rfl, rfl⟩ := e
      obtain ⟨ab, ao, asp⟩ := a
      intro e2
      have : asp = none := by
        obtain ⟨a', c', e1, ⟨q1, _⟩ | ⟨b', o', e3, _⟩⟩ := hrd
        · exact absurd q1 hq
        · subst e3; simp at e1; exact e1.1.2.2
      subst this
      rcases hfr ab ao _ _ rfl with k | k
      · have : ab = pb := e2
        omega
      · exact hq k)
    have his2 : IS y2 vi (scanQ q).1 := is_tchM his ht2 (fun g hg e => by have := hin g hg; omega)
    have hin2 : ∀ g', vi.ownBlock = some g' → w.heap.size ≤ g' := fun g' hg => Nat.le_trans hzs (hin g' hg)
    have hlb := hlt hb2
    clear p0 p1 p2 p3 pz
    have p0 : y2.cell? ⟨pb, 0, none⟩ = some (.int .i64 t) := hcell hb2
    have p1 : y2.cell? ⟨pb, 1, none⟩ = some (.int .i64 r) := hcell hb2
    have p2 : y2.cell? ⟨pb, 2, none⟩ = some (.slice a2 q.length n2) := hcell hb2
    have p3 : y2.cell? ⟨pb, 3, none⟩ = some (.int .i64 W) := hcell hb2
    have c3 := hNy.kp H.out.c3
    have hol2 : o < y2.heap.size := Nat.lt_of_lt_of_le (by omega) hNy.sz
    have HI := Lib.hid (And.intro his2 hin2)
    have HR := Lib.hid (And.intro hrd2 (And.intro hcap hfr))
    have HN := Lib.hid hNy
    have HB := Lib.hid hb2
    clear hb2 ht2 his hin hcap hfr hrd hrd2 his2 hin2 hal hal1 hN HC g1 hNy
  · have hq : ¬ q.length = 0 := by simpa using hqd
    have hE : endS (hsP l) ⟨t, r, W, q⟩ = putH (hsP l) ⟨t, r, W, (scanQ q).2⟩ := by
      unfold endS
      rw [if_neg (fun e => hq (by rw [← HSl.out]; show (scH ⟨t, r, W, q⟩).q.length = 0; rw [e]; rfl))]
      rfl
    have hx : HpOk y2.drew F ⟨⟨t, r, W, (scanQ q).2⟩, pb, a2, n2⟩ := by
      refine ⟨p0, p1, by rw [HSl.out]; exact p2, p3, ?_, ?_, ?_, fun e => ?_, fun b e hne k => ?_⟩
      · unfold hpV
        simp only
        rw [HSl.out]
        exact HR.out.1.nw (Nw.refl _).dr
      · simp only; rw [HSl.out]; exact HR.out.2.1
      · simp only; rw [HSl.out]; exact hl
      · have := H.out.pol.own _ e
        simp only at this
        omega
      · simp only at e hne
        subst e
        obtain ⟨a', c', e1, ⟨q1, _⟩ | ⟨b', o', e3, _⟩⟩ := HR.out.1
        · exact hne q1
        · subst e3
          simp only [Value.slice.injEq, Option.some.injEq] at e1
          obtain ⟨rfl, _, rfl⟩ := e1
          rcases HR.out.2.2 b' o' _ _ rfl with q2 | q2
          · have := H.out.pol.own _ k
            simp only at this
            omega
          · exact hne q2
    obtain ⟨w4, hrun, hm4, ht4⟩ := ((H.out.nw HN.out.dr).map).put (by omega) ⟨⟨t, r, W, (scanQ q).2⟩, pb, a2, n2⟩ wa
    have HT := Lib.hid (And.intro hm4 (And.intro ht4 hx))
    have HE := Lib.hid hE
    unfold nmV nmH at hrun
    simp only at hrun
    have HU := Lib.hid hrun
    clear hE hq hm4 ht4 hrun hx
    refine wp_region_still_tail 6 (by kernel_rfl) (by kernel_rfl) ?_
    simp only [List.take_succ_cons, List.take_zero, List.drop_succ_cons, List.drop_zero]
    iterate 6 still_step
    try refine wpStill_nil ?_
    change wpList _ _ _ _ _ y2.drew
    go_wp2_with (refine mapUpd_run rfl (.tmp 25) (.tmp 27) (.tmp 3) 78 rfl _ _ _ _ rfl rfl rfl HU.out ?_)
    go_ret
    refine ⟨_, insP l ⟨⟨t, r, W, (scanQ q).2⟩, pb, a2, n2⟩, rfl, is_tchM (onw HI.out.1 (Nw.refl _).dr) (turned_tch HT.out.2.1) (fun g hg e => by have := HI.out.2 g hg; omega), by rw [ins_map]; exact HE.out.symm, H.out.put HN.out.dr HT.out.2.1 _ HT.out.1 HT.out.2.2 (by rw [← HE.out]; exact HLn.out), HI.out.2⟩
  · have hq : q.length = 0 := by simpa using hqd
    have hE : endS (hsP l) ⟨t, r, W, q⟩ = hsP (delP l (t, r)) := by
      unfold endS
      rw [if_pos (show (scH ⟨t, r, W, q⟩).q = [] from List.length_eq_zero_iff.1 (HSl.out.trans hq))]
      exact delH_map l (t, r)
    obtain ⟨w4, hrun, hm4, ht4⟩ := ((H.out.nw HN.out.dr).map).del wa (0 : TypeId)
    have HT := Lib.hid (And.intro hm4 ht4)
    have HE := Lib.hid hE
    unfold nmV at hrun
    simp only at hrun
    have HU := Lib.hid hrun
    clear hE hq hm4 ht4 hrun
    refine wp_region_still_tail 6 (by kernel_rfl) (by kernel_rfl) ?_
    simp only [List.take_succ_cons, List.take_zero, List.drop_succ_cons, List.drop_zero]
    iterate 6 still_step
    try refine wpStill_nil ?_
    change wpList _ _ _ _ _ y2.drew
    go_wp2_with (refine mapDel_run rfl (.tmp 18) (.tmp 20) 78 24 rfl _ _ _ rfl rfl HU.out ?_)
    go_ret
    refine ⟨_, delP l (t, r), rfl, is_tchM (onw HI.out.1 (Nw.refl _).dr) (turned_tch HT.out.2) (fun g hg e => by have := HI.out.2 g hg; omega), HE.out.symm, H.out.del HN.out.dr HT.out.2 (t, r) HT.out.1, HI.out.2⟩
end Go.Proofs.YtfemopcichmlmaaGreatRRR
end

/- Ask. -/
section
namespace Go.Proofs.YtfemopcichmlmaaGreatRRR
open Go.RowKit Go.Shelf
set_option linter.unusedVariables false      -- a contract need not use every name

theorem DbTo.comp {w w1 w' : World} {o mb po n : Nat} {F F1 : Nat → Prop} {l' : List Hp} {L' : List Bool} (h2 : ∀ k, F1 k → F k ∨ w.heap.size ≤ k) (h3 : Tch (fun b => b = mb ∨ F b) w w1) (k : DbTo w1 o mb po n F1 w' l' L') : DbTo w o mb po n F w' l' L' := by
  obtain ⟨F', k1, k2, k3⟩ := k
  exact ⟨F', k1, fun b e => (k2 b e).elim (h2 b) (fun q => .inr (Nat.le_trans h3.size q)), h3.trans' k3 (fun b hb e => e.elim .inl (fun e => (h2 b e).elim .inr (fun q => by omega)))⟩
theorem at_hd (l : List Hp) (t r : Int) : (atP l (t, r)).h = hdB (hsP l) t r := by
  unfold atP hdB
  rw [getH_map]
  cases getP l (t, r) <;> rfl
theorem at_rd {w : World} {o mb po n : Nat} {l : List Hp} {L : List Bool} {F : Nat → Prop} (h : Db w o mb po n l L F) (t r : Int) : RqAt w (hpV (atP l (t, r))) (atP l (t, r)).h.q := by
  unfold atP
  cases e : getP l (t, r) with
  | none => exact Rd.nil w
  | some x => exact (h.ok x (getP_some e).1).rd
theorem at_qf {w : World} {o mb po n : Nat} {l : List Hp} {L : List Bool} {F : Nat → Prop} (h : Db w o mb po n l L F) (t r : Int) : ∀ b, (atP l (t, r)).a = some b → (atP l (t, r)).h.q ≠ [] → ¬ F b.block := by
  unfold atP
  cases e : getP l (t, r) with
  | none => intro b e1 e2; exact absurd rfl e2
  | some x => exact (h.ok x (getP_some e).1).qf
theorem lent_lt {most k : Nat} {hs : List Hq} {L : List Bool} (b : BInv most k hs L) {id : Int} (h : id ∈ allIds hs) : 0 ≤ id ∧ id < L.length := by
  have := b.mem.1 h
  obtain ⟨i, rfl, hi, _⟩ := hsL_at this
  omega
theorem ask_try {most k : Nat} {hs : List Hq} {L : List Bool} (b : BInv most k hs L) (t r txn m id : Int) (hid : (L.length : Int) ≤ id) : askE (hdB hs t r).q id txn m = if badM m then 2 else if twB hs t r txn = true then 4 else 0 := by
  obtain ⟨_, _, _, d4⟩ := b.hd t r
  have h0 : ¬ id < 0 := by omega
  have e : ((hdB hs t r).q.any fun x => x.id == id || x.txn == txn) = twB hs t r txn := by
    unfold twB
    rw [Bool.eq_iff_iff, List.any_eq_true, List.any_eq_true]
    constructor
    · rintro ⟨x, hx, hq⟩
      refine ⟨x, hx, ?_⟩
      have := lent_lt b (d4 x hx)
      have hne : (x.id == id) = false := by simp; omega
      rw [hne] at hq
      simpa using hq
    · rintro ⟨x, hx, hq⟩
      exact ⟨x, hx, by rw [hq]; simp⟩
  unfold askE
  rw [e]
  by_cases hb : badM m
  · rw [if_pos hb, if_pos (.inr hb)]
  · rw [if_neg hb, if_neg (by rintro (q | q); exact h0 q; exact hb q)]
end Go.Proofs.YtfemopcichmlmaaGreatRRR
end

/- Ask, walked. -/
section
namespace Go.Proofs.YtfemopcichmlmaaGreatRRR
open Go.RowKit Go.Shelf
set_option linter.unusedVariables false      -- a contract need not use every name

/-- What Ask comes to. -/
def AskD (w : World) (o mb po n : Nat) (F : Nat → Prop) (l : List Hp) (L : List Bool) (t r txn m : Int) (e : Ending) (w' : World) : Prop :=
  e = .returned (.tuple #[.int .i64 (askBR n (hsP l) L t r txn m).1, .bool (askBR n (hsP l) L t r txn m).2.1, .int .i64 (askBR n (hsP l) L t r txn m).2.2]) ∧ ∃ l', hsP l' = (askBS n (hsP l) L t r txn m).1 ∧ DbTo w o mb po n F w' l' (askBS n (hsP l) L t r txn m).2
theorem askD_rej {w w' : World} {o mb po n : Nat} {F : Nat → Prop} {l : List Hp} {L : List Bool} {t r txn m E : Int} (h : Db w o mb po n l L F) (g : Nw w w') (he : askBE n (hsP l) L t r txn m = E) (hE : E ≠ 0) :
    AskD w o mb po n F l L t r txn m (.returned (.tuple #[.int .i64 0, .bool false, .int .i64 E])) w' := by
  obtain ⟨h1, h2⟩ := ask_rej (most := n) (hs := hsP l) (L := L) (t := t) (r := r) (txn := txn) (m := m) (by rw [he]; exact hE)
  unfold AskD
  rw [h1, h2.1, he]
  exact ⟨rfl, l, rfl, h.to g⟩
theorem askD_rejT {w w' : World} {o mb po n : Nat} {F : Nat → Prop} {l : List Hp} {L : List Bool} {t r txn m E : Int} (h : DbTo w o mb po n F w' l L) (he : askBE n (hsP l) L t r txn m = E) (hE : E ≠ 0) :
    AskD w o mb po n F l L t r txn m (.returned (.tuple #[.int .i64 0, .bool false, .int .i64 E])) w' := by
  obtain ⟨h1, h2⟩ := ask_rej (most := n) (hs := hsP l) (L := L) (t := t) (r := r) (txn := txn) (m := m) (by rw [he]; exact hE)
  unfold AskD
  rw [h1, h2.1, he]
  exact ⟨rfl, l, rfl, h⟩
theorem fre_lvI {L : List Bool} : fre L < L.length ↔ liv L < L.length := by
  have h1 := frI_len L
  constructor
  · intro h
    rw [frI_take h] at h1
    simp only [List.length_cons] at h1
    omega
  · intro h
    rcases Nat.lt_or_ge (fre L) L.length with q | q
    · exact q
    · have := fre_le L
      rw [frI_none (by omega)] at h1
      simp only [List.length_nil] at h1
      omega
set_option maxRecDepth 20000 in
set_option maxHeartbeats 4000000 in
theorem ask_d {w : World} {o mb po n k : Nat} {l : List Hp} {L : List Bool} {F : Nat → Prop} (h : Db w o mb po n l L F) (b : BInv n k (hsP l) L) (hk : k ≤ 800) (hn : n ≤ 64) (t r txn m : Int) (wa : wfN (t, r)) :
    Calls Tryz.prog 11 #[.pointer (some ⟨o, 0, none⟩), .agg #[.int .i64 t, .int .i64 r], .int .i64 txn, .int .i64 m] w (AskD w o mb po n F l L t r txn m) := by
  have H := Lib.hid h
  have HB := Lib.hid b
  have hol := h.ol
  have hLs := h.pol.sz
  have hN : Nw w (w.alloc (.cells #[.int .i64 t, .int .i64 r] 24)) := (Nw.refl w).alloc _
  have hb0 := allocAt w (.cells #[.int .i64 t, .int .i64 r] 24)
  obtain ⟨z, hz⟩ : ∃ z, w.alloc (.cells #[.int .i64 t, .int .i64 r] 24) = z := ⟨_, rfl⟩
  rw [hz] at hN hb0
  have HZ := Lib.hid hz
  have n0 : z.cell? ⟨w.heap.size, 0, none⟩ = some (.int .i64 t) := hcell hb0
  have n1 : z.cell? ⟨w.heap.size, 1, none⟩ = some (.int .i64 r) := hcell hb0
  have hbl := hlt hb0
  have HMd := Lib.hid (bmade_yes o z (hN.kp h.c0))
  have HAt := Lib.hid (at_any (h.nw hN) t r wa)
  obtain ⟨hi, hW, hql, _⟩ := b.hd t r
  have htry := ask_try b t r txn m 128 (by omega)
  rw [← at_hd] at hi hW hql htry
  have hnm : (atP l (t, r)).h.t = t ∧ (atP l (t, r)).h.r = r := by
    have := hd_name (hsP l) t r
    rw [← at_hd] at this
    exact ⟨congrArg Prod.fst this, congrArg Prod.snd this⟩
  have hrd := at_rd h t r
  have hqf := at_qf h t r
  have hh := at_hd l t r
  have hge : getP l (t, r) = none → (atP l (t, r)).h.q = [] := fun e => by unfold atP; rw [e]; rfl
  have hgs : ∀ x, getP l (t, r) = some x → (atP l (t, r)).h.q ≠ [] := fun x e => by
    have hx := (getP_some e).1
    unfold atP; rw [e]
    exact b.ne _ (List.mem_map.2 ⟨x, hx, rfl⟩)
  clear h b hz hb0
  unfold hpH at HAt
  revert HAt hi hW hql htry hnm hrd hqf hh hge hgs
  generalize atP l (t, r) = x
  obtain ⟨⟨xt, xr, xW, q⟩, xa, xq, xc⟩ := x
  intro HAt hi hW hql htry hnm hrd hqf hh hge hgs
  obtain ⟨rfl, rfl⟩ := hnm
  simp only at HAt hi hW hql htry hrd hqf hh hge hgs
  obtain ⟨ql, hqe⟩ : ∃ ql, q.length = ql := ⟨_, rfl⟩
  unfold hpV at hrd
  simp only at hrd
  rw [hqe] at HAt hrd
  have HD := Lib.hid (And.intro hi (And.intro hql (And.intro hh (And.intro hge (And.intro hgs (And.intro hqf (And.intro hqe hW)))))))
  have HRd := Lib.hid hrd
  have HTr := Lib.hid htry
  have hok := hi.ok
  clear hi hW hql hh hge hgs hqf hrd htry
  go_enter Tryz.func11, Tryz.ntmps11
  go_wp2_with fail
  rw [HZ.out]
  refine HMd.out.mono ?_
  rintro e w' ⟨rfl, rfl⟩
  go_wp2_with fail
  refine HAt.out.mono ?_
  rintro e w1 ⟨rfl, g1⟩
  have HN1 := Lib.hid (hN.trans g1)
  have hal := allocAt w1 (.cells #[.int .i64 xt, .int .i64 xr, .slice xq ql xc, .int .i64 xW] 52)
  have hN2 : Nw w (w1.alloc (.cells #[.int .i64 xt, .int .i64 xr, .slice xq ql xc, .int .i64 xW] 52)) := HN1.out.alloc _
  have hpb : w.heap.size ≤ w1.heap.size := HN1.out.sz
  have pl := hlt hal
  have HA1 := Lib.hid (fun w2 (g : Nw w w2) => dAsk xt xr xW 128 txn m (.slice xq ql xc) q w2 (by have := HD.out.2.1; omega) hok (HRd.out.nw g))
  unfold hdV at HA1
  clear n0 n1 hbl HAt HMd g1 hN HZ
  go_wp2_with fail
  generalize w1.heap.size = pb at *
  generalize w1.alloc (.cells #[.int .i64 xt, .int .i64 xr, .slice xq ql xc, .int .i64 xW] 52) = z1 at *
  refine (HA1.out _ hN2).mono ?_
  rintro e y ⟨v2, rfl, g2, rd2, cap2, fr2⟩
  obtain ⟨av, cv, hv2⟩ := rd2.form
  obtain ⟨nv, hnv⟩ : ∃ nv, (askR ⟨xt, xr, xW, q⟩ 128 txn m).1.q.length = nv := ⟨_, rfl⟩
  rw [hnv] at hv2
  subst hv2
  clear hnv
  have hal2 := g2.at' hal
  have HN3 := Lib.hid (hN2.trans g2)
  have hE1 : (askR ⟨xt, xr, xW, q⟩ 128 txn m).2.2 = askE q 128 txn m := by unfold askR; split <;> simp_all
  rw [hE1, HTr.out]
  obtain ⟨E1, hE⟩ : ∃ E1 : Int, (if badM m then (2 : Int) else if twB (hsP l) xt xr txn = true then 4 else 0) = E1 := ⟨_, rfl⟩
  rw [hE]
  have HE := Lib.hid hE
  clear hal g2 hN2 HA1 HN1 rd2 cap2 fr2 pl
  generalize (askR ⟨xt, xr, xW, q⟩ 128 txn m).1 = X1
  generalize (askR ⟨xt, xr, xW, q⟩ 128 txn m).2.1 = X2
  simp only [hdV]
  by_cases he1 : E1 = 0
  · subst he1
    have hbm : ¬ badM m := fun e => by have := HE.out; rw [if_pos e] at this; cases this
    have htw : ¬ twB (hsP l) xt xr txn = true := fun e => by have := HE.out; rw [if_neg hbm, if_pos e] at this; cases this
    have hex : askBE n (hsP l) L xt xr txn m = if fullB n (hsP l) L xt xr then 8 else 0 := by unfold askBE; rw [if_neg hbm, if_neg htw]
    have HX := Lib.hid hex
    clear hE hbm htw hex
    obtain ⟨y1, hy1⟩ : ∃ y1, y.alloc (.cells #[.int .i64 X1.t, .int .i64 X1.r, .slice av nv cv, .int .i64 X1.W] 52) = y1 := ⟨_, rfl⟩
    have g1 : Nw y y1 := by rw [← hy1]; exact (Nw.refl y).alloc _
    have HN4 := Lib.hid (HN3.out.trans g1)
    have hal3 := g1.at' hal2
    have HY1 := Lib.hid hy1
    clear hal2 g1 hy1 HN3
    go_wp2_with fail
    rw [HY1.out]
    clear HY1
    have c1 := (H.out.nw HN4.out).c1
    have c2 := (H.out.nw HN4.out).c2
    have c3 := (H.out.nw HN4.out).c3
    have pl := hlt hal3
    have hdr : Nw w y1.drew := HN4.out.dr
    have hle := fun (d : Wd (fun y => y = y1.drew)) => ((H.out.nw (show Nw w d.w by rw [d.h]; exact hdr)).map).len 3
    have d1 : ∀ d : Wd (fun y => y = y1.drew), d.w.cell? ⟨o, 1, none⟩ = some (.int .i64 n) := fun d => by rw [d.h]; exact c1
    have d3 : ∀ d : Wd (fun y => y = y1.drew), d.w.cell? ⟨o, 3, none⟩ = some (.map (some mb)) := fun d => by rw [d.h]; exact c3
    have e1 : ∀ d : Wd (fun y => y = y1.drew), d.w.cell? ⟨pb, 2, none⟩ = some (.slice xq ql xc) := fun d => by rw [d.h]; exact hcell (j := 2) hal3
    have hne : Nonempty (Wd (fun y => y = y1.drew)) := ⟨⟨_, rfl⟩⟩
    have hLl : (hsP l).length = l.length := List.length_map _
    have hln := HB.out.len
    rw [hLl] at hln
    have hway : (ql = 0 ∧ l.length = n ∧ fullB n (hsP l) L xt xr) ∨ (((ql = 0 ∧ l.length ≠ n) ∨ ql ≠ 0) ∧ (fullB n (hsP l) L xt xr ↔ L.length ≤ liv L)) := by
      have hg : getH (hsP l) (xt, xr) = none ↔ ql = 0 := by
        rw [getH_map]
        cases e : getP l (xt, xr) with
        | none => have := HD.out.2.2.2.1 e; have := HD.out.2.2.2.2.2.2.1; simp_all
        | some x =>
          have h1 := HD.out.2.2.2.2.1 x e
          have h2 := HD.out.2.2.2.2.2.2.1
          constructor
          · intro q; cases q
          · intro q; rw [q] at h2; exact absurd (List.length_eq_zero_iff.1 h2) h1
      unfold fullB
      rw [hLl, hg]
      by_cases q0 : ql = 0
      · by_cases q1 : l.length = n
        · exact .inl ⟨q0, q1, .inl ⟨q0, by omega⟩⟩
        · refine .inr ⟨.inl ⟨q0, q1⟩, ⟨fun h => h.elim (fun h => by omega) id, .inr⟩⟩
      · exact .inr ⟨.inr q0, ⟨fun h => h.elim (fun h => absurd h.1 q0) id, .inr⟩⟩
    clear c1 c3 hLl hln
    rcases hway with ⟨rfl, hq1, hfu⟩ | ⟨hq, hfu⟩
    · have j1 : ((l.length : Int) == (n : Int)) = true := beq_iff_eq.2 (by omega)
      have j2 : (l.length == n) = true := by simpa using hq1
      have HR := Lib.hid (askD_rej (t := xt) (r := xr) (txn := txn) (m := m) H.out hdr (by rw [HX.out, if_pos hfu]) (show (8 : Int) ≠ 0 by decide))
      clear hfu hq1 hal3 hdr
      refine region_in (fun y => y = y1.drew) (by kernel_rfl) (by kernel_rfl) rfl ?_
      repeat (first | go_big_quiet_step (fail) | quiet_step (fail))
      refine wpQuiet_nil ?_
      intro d
      rw [d.h]
      clear d hle d1 d3 e1
      clear hne
      go_wp2
      exact bodyPost_ret (v := .tuple #[.int .i64 0, .bool false, .int .i64 8]) (by simp [results, Tryz.results11, go_sem, *]) rfl HR.out
    · have HFu := Lib.hid hfu
      have HDr := Lib.hid hdr
      clear hfu hdr
      rcases hq with ⟨hq0, hq1⟩ | hq0
      · have j1 : ((l.length : Int) == (n : Int)) = false := beq_eq_false_iff_ne.2 (by omega)
        have j0 : ((ql : Int) == 0) = true := beq_iff_eq.2 (by omega)
        have j3 : (ql == 0) = true := beq_iff_eq.2 hq0
        clear hq0
        have j2 : (l.length == n) = false := by simpa using hq1
        clear hq1
        refine region_in (fun y => y = y1.drew) (by kernel_rfl) (by kernel_rfl) rfl ?_
        repeat (first | go_big_quiet_step (fail) | quiet_step (fail))
        refine wpQuiet_nil ?_
        intro d
        rw [d.h]
        clear d hle d1 d3 e1
        clear hne
        obtain ⟨y2, hy2⟩ : ∃ y2, y1.drew = y2 := ⟨_, rfl⟩
        have hal4 : y2.heap[pb]? = some (.cells #[.int .i64 xt, .int .i64 xr, .slice xq ql xc, .int .i64 xW] 52 (0, 0)) := by subst hy2; exact hal3
        have HN5 : Hid (Nw w y2) := by subst hy2; exact HDr
        have c2' : y2.cell? ⟨o, 2, none⟩ = some (.pointer (some ⟨po, 0, none⟩)) := by subst hy2; exact c2
        have pl2 := hlt hal4
        have hol2 : o < y2.heap.size := Nat.lt_of_lt_of_le hol HN5.out.sz
        rw [hy2]
        have HTk := Lib.hid (take_any (H.out.nw HN5.out).pol)
        clear hy2 hal3 c2 pl HDr
        go_wp2_with fail
        refine HTk.out.mono ?_
        rintro e y3 ⟨rfl, hpt⟩
        have HPt := Lib.hid (((H.out.nw HN5.out).pool hpt).pre HN5.out)
        by_cases hf : fre L < L.length
        · have hl0 : liv L < L.length := fre_lvI.1 hf
          have he0 : askBE n (hsP l) L xt xr txn m = 0 := by rw [HX.out, if_neg (fun e => by have := HFu.out.1 e; omega)]
          have htk : tkR L = (↑(fre L), 0) := if_pos hf
          rw [htk]
          obtain ⟨hke, hfl, hnn⟩ := ask_can HB.out he0
          have hhq : (hdB (hsP l) xt xr) = ⟨xt, xr, xW, q⟩ := HD.out.2.2.1.symm
          rw [hhq] at hke
          have hpbF : ¬ F pb := fun e => by have := H.out.pol.own _ e; omega
          obtain ⟨F1, hDb1, hF1, ht1⟩ := (H.out.nw HN5.out).pool hpt
          have hpF1 : ¬ F1 pb := fun e => (hF1 pb e).elim hpbF (fun q => by omega)
          have hy2s := HN5.out.sz
          have hpn : pb ≠ mb := by have := H.out.map.lt; omega
          have hal5 : y3.heap[pb]? = some (.cells #[.int .i64 xt, .int .i64 xr, .slice xq ql xc, .int .i64 xW] 52 (0, 0)) := by
            obtain ⟨_, _, _, ht⟩ := hpt
            exact (ht.block pb pl2 hpbF).trans hal4
          have hrd3 : RqAt y3 (.slice xq ql xc) q := by
            obtain ⟨_, _, _, ht⟩ := hpt
            refine rq_tchM (HRd.out.nw HN5.out) ht (fun a n c e hqe => ?_)
            simp only [Value.slice.injEq] at e
            exact HD.out.2.2.2.2.2.1 a e.1 hqe
          have p0 := hcell (j := 0) hal5
          have p1 := hcell (j := 1) hal5
          have p2 := hcell (j := 2) hal5
          have p3 := hcell (j := 3) hal5
          have pz := fun j => hfz (j := j) hal5
          have pl3 := hlt hal5
          have HA2 := Lib.hid (dAsk xt xr xW (fre L) txn m (.slice xq ql xc) q y3 (by have := HD.out.2.1; omega) hok hrd3)
          have hX2 : askR ⟨xt, xr, xW, q⟩ (fre L) txn m = (⟨xt, xr, (askQ xW q (fre L) txn m).1, (askQ xW q (fre L) txn m).2.1⟩, (askQ xW q (fre L) txn m).2.2, 0) := by unfold askR; rw [if_pos hke]
          rw [hX2] at HA2
          unfold hdV at HA2
          have HK := Lib.hid (And.intro hke (And.intro hfl (And.intro hnn (And.intro he0 hhq))))
          have HDb := Lib.hid (And.intro hDb1 (And.intro (show ∀ k, F1 k → F k ∨ w.heap.size ≤ k from fun k e => (hF1 k e).imp id (fun q => by omega)) (And.intro (show Tch (fun b => b = mb ∨ F b) w y3 from (Tch.nw HN5.out).trans ht1) (And.intro hpF1 hpn))))
          clear hke hfl hnn he0 hhq hX2 hDb1 hF1 ht1 hpt hpbF hpn htk hl0 hal4 pl2 c2' HTk hf
          have hsz3 : w.heap.size ≤ y3.heap.size := HDb.out.2.2.1.size
          have hpl3 : pb < y3.heap.size := pl3
          go_wp2_with fail
          refine HA2.out.mono ?_
          rintro e y4 ⟨v4, rfl, g4, rd4, cap4, fr4⟩
          obtain ⟨a4, c4, hv4⟩ := rd4.form
          have HRd4 := Lib.hid rd4
          have hal6 := g4.at' hal5
          have g4' := Lib.hid g4
          simp only at HRd4 hv4 ⊢
          generalize hQ : askQ xW q (fre L) txn m = Q at *
          obtain ⟨W4, q4, gr⟩ := Q
          simp only at HRd4 hv4 ⊢
          obtain ⟨q4l, hq4l⟩ : ∃ n, q4.length = n := ⟨_, rfl⟩
          rw [hq4l] at hv4
          subst hv4
          have HFr := Lib.hid fr4
          clear p0 p1 p2 p3 pz pl3 rd4 cap4 fr4 hal5
          have p0 := hcell (j := 0) hal6
          have p1 := hcell (j := 1) hal6
          have p2 := hcell (j := 2) hal6
          have p3 := hcell (j := 3) hal6
          have pz := fun j => hfz (j := j) hal6
          have pl4 := hlt hal6
          have hb6 := bxp_put hal6 (.int .i64 xt) (.int .i64 xr) (.slice a4 q4l c4) (.int .i64 W4)
          have ht6 := bxp_tch y4 pb (.int .i64 xt) (.int .i64 xr) (.slice a4 q4l c4) (.int .i64 W4)
          have hq4 : q4 ≠ [] := by have := ask_ne xW q (fre L) txn m; rw [hQ] at this; exact this
          have hW4 := HD.out.2.2.2.2.2.2.2
          have hok4 : Ok W4 q4 := by have := ok_ask hok (fre L) txn m HK.out.1 (by omega); rw [hQ] at this; exact this
          have hdn4 : Done q4 := by have := done_ask hok HD.out.1.done (fre L) txn m HK.out.1; rw [hQ] at this; exact this
          have hsc : scanQ q4 = ([], q4) := scan_done hdn4
          have hsb : askBS n (hsP l) L xt xr txn m = (putH (hsP l) ⟨xt, xr, W4, q4⟩, tkL L) := by
            unfold askBS askH
            rw [if_pos HK.out.2.2.2.1, HK.out.2.2.2.2]
            simp only
            rw [hQ]
          have hbr : askBR n (hsP l) L xt xr txn m = (↑(fre L), gr, 0) := by
            unfold askBR
            rw [if_pos HK.out.2.2.2.1, HK.out.2.2.2.2]
            simp only
            rw [hQ]
          have hes : endS (hsP l) ⟨xt, xr, W4, q4⟩ = putH (hsP l) ⟨xt, xr, W4, q4⟩ := by
            unfold endS scH
            simp only
            rw [hsc]
            simp only
            rw [if_neg hq4]
          have hbl := (binv_ask HB.out (by omega) xt xr txn m).len
          rw [hsb] at hbl
          simp only at hbl
          have hql4 : q4.length ≤ 1000 := by
            have := HD.out.2.1
            have e := congrArg (fun z => z.2.1.length) hQ
            simp only at e
            rw [← e]
            unfold askQ
            split <;> simp <;> omega
          have HS6 := Lib.hid (fun y5 (hd : Db y5 o mb po n l (tkL L) F1) (hr : RqAt y5 (.slice a4 q4l c4) q4) => settle_any hd xt xr W4 (.slice a4 q4l c4) q4 wa hql4 hok4 hr (by rw [hes]; omega))
          rw [hes, hsc] at HS6
          have hd5 : Db ((((y4.setCell ⟨pb, 0, none⟩ (.int .i64 xt)).setCell ⟨pb, 1, none⟩ (.int .i64 xr)).setCell ⟨pb, 2, none⟩ (.slice a4 q4l c4)).setCell ⟨pb, 3, none⟩ (.int .i64 W4)) o mb po n l (tkL L) F1 := by
            refine (HDb.out.1.nw g4'.out).tch ht6 (fun e => by omega) (fun e => HDb.out.2.2.2.2 e.symm) (fun k e q => HDb.out.2.2.2.1 (q ▸ e)) (fun x hx => ⟨fun e => ?_, fun b e hq e2 => ?_⟩)
            · have := (H.out.ok x hx).lt; omega
            · obtain ⟨a', c', e1, ⟨q1, _⟩ | ⟨b', o', e3, hc⟩⟩ := (H.out.ok x hx).rd
              · exact hq q1
              · unfold hpV at e1
                rw [e, e3] at e1
                injection e1 with e1 _ _
                injection e1 with e1
                subst e1
                have := hc.lt
                have e4 : (⟨b', o', none⟩ : Addr).block = b' := rfl
                omega
          have hr5 : RqAt ((((y4.setCell ⟨pb, 0, none⟩ (.int .i64 xt)).setCell ⟨pb, 1, none⟩ (.int .i64 xr)).setCell ⟨pb, 2, none⟩ (.slice a4 q4l c4)).setCell ⟨pb, 3, none⟩ (.int .i64 W4)) (.slice a4 q4l c4) q4 := by
            refine rq_tchM HRd4.out ht6 (fun a n' c e hqe e2 => ?_)
            obtain ⟨a', c', e1, ⟨q1, _⟩ | ⟨b', o', e3, hc⟩⟩ := HRd4.out
            · exact hqe q1
            · rw [e1, e3] at e
              simp only [Value.slice.injEq, Option.some.injEq] at e
              obtain ⟨rfl, _, _⟩ := e
              rw [e3] at e1
              rcases HFr.out b' o' _ _ e1 with q2 | q2
              · have : b' = pb := e2
                omega
              · exact hqe q2
          have HS7 := Lib.hid (HS6.out _ hd5 hr5)
          have HDt := Lib.hid (show DbTo w o mb po n F ((((y4.setCell ⟨pb, 0, none⟩ (.int .i64 xt)).setCell ⟨pb, 1, none⟩ (.int .i64 xr)).setCell ⟨pb, 2, none⟩ (.slice a4 q4l c4)).setCell ⟨pb, 3, none⟩ (.int .i64 W4)) l (tkL L) from
            ⟨F1, hd5, HDb.out.2.1, ((HDb.out.2.2.1.trans (Tch.nw g4'.out))).trans' ht6 (fun i hi e => by omega)⟩)
          have HTc := Lib.hid (((HDb.out.2.2.1.trans (Tch.nw g4'.out))).trans' ht6 (fun i hi e => by omega))
          have HBS := Lib.hid (And.intro hsb hbr)
          simp only [hdV]
          clear HS6 hd5 hr5 hql4 hbl hes hbr hsb hsc hdn4 hok4 hW4 hq4 hQ hb6 ht6 hal6
          go_wp2_with fail
          refine HS7.out.mono ?_
          rintro e y6 ⟨vi, l', rfl, _, hl', hto, _⟩
          have HF := Lib.hid (show AskD w o mb po n F l L xt xr txn m (.returned (.tuple #[.int .i64 (fre L), .bool gr, .int .i64 0])) y6 by
            unfold AskD
            rw [HBS.out.1, HBS.out.2]
            exact ⟨rfl, l', hl', DbTo.comp HDb.out.2.1 HTc.out hto⟩)
          clear hl' hto p0 p1 p2 p3 pz pl4
          go_wp2
          exact bodyPost_ret (v := .tuple #[.int .i64 (fre L), .bool gr, .int .i64 0]) (by simp [results, Tryz.results11, go_sem, *]) rfl HF.out
        · have hl0 : L.length ≤ liv L := Nat.le_of_not_lt (fun e => hf (fre_lvI.2 e))
          have hkl : tkL L = L := tkL_full hf
          have htk : tkR L = (0, 8) := if_neg hf
          rw [hkl] at HPt
          rw [htk]
          have HR := Lib.hid (askD_rejT HPt.out (show askBE n (hsP l) L xt xr txn m = 8 by rw [HX.out, if_pos (HFu.out.2 hl0)]) (show (8 : Int) ≠ 0 by decide))
          clear hf hl0 hkl htk hpt hal4 pl2
          go_wp2
          exact bodyPost_ret (v := .tuple #[.int .i64 0, .bool false, .int .i64 8]) (by simp [results, Tryz.results11, go_sem, *]) rfl HR.out
      · have j1 : ((ql : Int) == 0) = false := by simpa using hq0
        have j2 : (ql == 0) = false := by simpa using hq0
        clear hq0
        refine region_in (fun y => y = y1.drew) (by kernel_rfl) (by kernel_rfl) rfl ?_
        repeat (first | go_big_quiet_step (fail) | quiet_step (fail))
        refine wpQuiet_nil ?_
        intro d
        rw [d.h]
        clear d hle d1 d3 e1
        clear hne
        obtain ⟨y2, hy2⟩ : ∃ y2, y1.drew = y2 := ⟨_, rfl⟩
        have hal4 : y2.heap[pb]? = some (.cells #[.int .i64 xt, .int .i64 xr, .slice xq ql xc, .int .i64 xW] 52 (0, 0)) := by subst hy2; exact hal3
        have HN5 : Hid (Nw w y2) := by subst hy2; exact HDr
        have c2' : y2.cell? ⟨o, 2, none⟩ = some (.pointer (some ⟨po, 0, none⟩)) := by subst hy2; exact c2
        have pl2 := hlt hal4
        have hol2 : o < y2.heap.size := Nat.lt_of_lt_of_le hol HN5.out.sz
        rw [hy2]
        have HTk := Lib.hid (take_any (H.out.nw HN5.out).pol)
        clear hy2 hal3 c2 pl HDr
        go_wp2_with fail
        refine HTk.out.mono ?_
        rintro e y3 ⟨rfl, hpt⟩
        have HPt := Lib.hid (((H.out.nw HN5.out).pool hpt).pre HN5.out)
        by_cases hf : fre L < L.length
        · have hl0 : liv L < L.length := fre_lvI.1 hf
          have he0 : askBE n (hsP l) L xt xr txn m = 0 := by rw [HX.out, if_neg (fun e => by have := HFu.out.1 e; omega)]
          have htk : tkR L = (↑(fre L), 0) := if_pos hf
          rw [htk]
          obtain ⟨hke, hfl, hnn⟩ := ask_can HB.out he0
          have hhq : (hdB (hsP l) xt xr) = ⟨xt, xr, xW, q⟩ := HD.out.2.2.1.symm
          rw [hhq] at hke
          have hpbF : ¬ F pb := fun e => by have := H.out.pol.own _ e; omega
          obtain ⟨F1, hDb1, hF1, ht1⟩ := (H.out.nw HN5.out).pool hpt
          have hpF1 : ¬ F1 pb := fun e => (hF1 pb e).elim hpbF (fun q => by omega)
          have hy2s := HN5.out.sz
          have hpn : pb ≠ mb := by have := H.out.map.lt; omega
          have hal5 : y3.heap[pb]? = some (.cells #[.int .i64 xt, .int .i64 xr, .slice xq ql xc, .int .i64 xW] 52 (0, 0)) := by
            obtain ⟨_, _, _, ht⟩ := hpt
            exact (ht.block pb pl2 hpbF).trans hal4
          have hrd3 : RqAt y3 (.slice xq ql xc) q := by
            obtain ⟨_, _, _, ht⟩ := hpt
            refine rq_tchM (HRd.out.nw HN5.out) ht (fun a n c e hqe => ?_)
            simp only [Value.slice.injEq] at e
            exact HD.out.2.2.2.2.2.1 a e.1 hqe
          have p0 := hcell (j := 0) hal5
          have p1 := hcell (j := 1) hal5
          have p2 := hcell (j := 2) hal5
          have p3 := hcell (j := 3) hal5
          have pz := fun j => hfz (j := j) hal5
          have pl3 := hlt hal5
          have HA2 := Lib.hid (dAsk xt xr xW (fre L) txn m (.slice xq ql xc) q y3 (by have := HD.out.2.1; omega) hok hrd3)
          have hX2 : askR ⟨xt, xr, xW, q⟩ (fre L) txn m = (⟨xt, xr, (askQ xW q (fre L) txn m).1, (askQ xW q (fre L) txn m).2.1⟩, (askQ xW q (fre L) txn m).2.2, 0) := by unfold askR; rw [if_pos hke]
          rw [hX2] at HA2
          unfold hdV at HA2
          have HK := Lib.hid (And.intro hke (And.intro hfl (And.intro hnn (And.intro he0 hhq))))
          have HDb := Lib.hid (And.intro hDb1 (And.intro (show ∀ k, F1 k → F k ∨ w.heap.size ≤ k from fun k e => (hF1 k e).imp id (fun q => by omega)) (And.intro (show Tch (fun b => b = mb ∨ F b) w y3 from (Tch.nw HN5.out).trans ht1) (And.intro hpF1 hpn))))
          clear hke hfl hnn he0 hhq hX2 hDb1 hF1 ht1 hpt hpbF hpn htk hl0 hal4 pl2 c2' HTk hf
          have hsz3 : w.heap.size ≤ y3.heap.size := HDb.out.2.2.1.size
          have hpl3 : pb < y3.heap.size := pl3
          go_wp2_with fail
          refine HA2.out.mono ?_
          rintro e y4 ⟨v4, rfl, g4, rd4, cap4, fr4⟩
          obtain ⟨a4, c4, hv4⟩ := rd4.form
          have HRd4 := Lib.hid rd4
          have hal6 := g4.at' hal5
          have g4' := Lib.hid g4
          simp only at HRd4 hv4 ⊢
          generalize hQ : askQ xW q (fre L) txn m = Q at *
          obtain ⟨W4, q4, gr⟩ := Q
          simp only at HRd4 hv4 ⊢
          obtain ⟨q4l, hq4l⟩ : ∃ n, q4.length = n := ⟨_, rfl⟩
          rw [hq4l] at hv4
          subst hv4
          have HFr := Lib.hid fr4
          clear p0 p1 p2 p3 pz pl3 rd4 cap4 fr4 hal5
          have p0 := hcell (j := 0) hal6
          have p1 := hcell (j := 1) hal6
          have p2 := hcell (j := 2) hal6
          have p3 := hcell (j := 3) hal6
          have pz := fun j => hfz (j := j) hal6
          have pl4 := hlt hal6
          have hb6 := bxp_put hal6 (.int .i64 xt) (.int .i64 xr) (.slice a4 q4l c4) (.int .i64 W4)
          have ht6 := bxp_tch y4 pb (.int .i64 xt) (.int .i64 xr) (.slice a4 q4l c4) (.int .i64 W4)
          have hq4 : q4 ≠ [] := by have := ask_ne xW q (fre L) txn m; rw [hQ] at this; exact this
          have hW4 := HD.out.2.2.2.2.2.2.2
          have hok4 : Ok W4 q4 := by have := ok_ask hok (fre L) txn m HK.out.1 (by omega); rw [hQ] at this; exact this
          have hdn4 : Done q4 := by have := done_ask hok HD.out.1.done (fre L) txn m HK.out.1; rw [hQ] at this; exact this
          have hsc : scanQ q4 = ([], q4) := scan_done hdn4
          have hsb : askBS n (hsP l) L xt xr txn m = (putH (hsP l) ⟨xt, xr, W4, q4⟩, tkL L) := by
            unfold askBS askH
            rw [if_pos HK.out.2.2.2.1, HK.out.2.2.2.2]
            simp only
            rw [hQ]
          have hbr : askBR n (hsP l) L xt xr txn m = (↑(fre L), gr, 0) := by
            unfold askBR
            rw [if_pos HK.out.2.2.2.1, HK.out.2.2.2.2]
            simp only
            rw [hQ]
          have hes : endS (hsP l) ⟨xt, xr, W4, q4⟩ = putH (hsP l) ⟨xt, xr, W4, q4⟩ := by
            unfold endS scH
            simp only
            rw [hsc]
            simp only
            rw [if_neg hq4]
          have hbl := (binv_ask HB.out (by omega) xt xr txn m).len
          rw [hsb] at hbl
          simp only at hbl
          have hql4 : q4.length ≤ 1000 := by
            have := HD.out.2.1
            have e := congrArg (fun z => z.2.1.length) hQ
            simp only at e
            rw [← e]
            unfold askQ
            split <;> simp <;> omega
          have HS6 := Lib.hid (fun y5 (hd : Db y5 o mb po n l (tkL L) F1) (hr : RqAt y5 (.slice a4 q4l c4) q4) => settle_any hd xt xr W4 (.slice a4 q4l c4) q4 wa hql4 hok4 hr (by rw [hes]; omega))
          rw [hes, hsc] at HS6
          have hd5 : Db ((((y4.setCell ⟨pb, 0, none⟩ (.int .i64 xt)).setCell ⟨pb, 1, none⟩ (.int .i64 xr)).setCell ⟨pb, 2, none⟩ (.slice a4 q4l c4)).setCell ⟨pb, 3, none⟩ (.int .i64 W4)) o mb po n l (tkL L) F1 := by
            refine (HDb.out.1.nw g4'.out).tch ht6 (fun e => by omega) (fun e => HDb.out.2.2.2.2 e.symm) (fun k e q => HDb.out.2.2.2.1 (q ▸ e)) (fun x hx => ⟨fun e => ?_, fun b e hq e2 => ?_⟩)
            · have := (H.out.ok x hx).lt; omega
            · obtain ⟨a', c', e1, ⟨q1, _⟩ | ⟨b', o', e3, hc⟩⟩ := (H.out.ok x hx).rd
              · exact hq q1
              · unfold hpV at e1
                rw [e, e3] at e1
                injection e1 with e1 _ _
                injection e1 with e1
                subst e1
                have := hc.lt
                have e4 : (⟨b', o', none⟩ : Addr).block = b' := rfl
                omega
          have hr5 : RqAt ((((y4.setCell ⟨pb, 0, none⟩ (.int .i64 xt)).setCell ⟨pb, 1, none⟩ (.int .i64 xr)).setCell ⟨pb, 2, none⟩ (.slice a4 q4l c4)).setCell ⟨pb, 3, none⟩ (.int .i64 W4)) (.slice a4 q4l c4) q4 := by
            refine rq_tchM HRd4.out ht6 (fun a n' c e hqe e2 => ?_)
            obtain ⟨a', c', e1, ⟨q1, _⟩ | ⟨b', o', e3, hc⟩⟩ := HRd4.out
            · exact hqe q1
            · rw [e1, e3] at e
              simp only [Value.slice.injEq, Option.some.injEq] at e
              obtain ⟨rfl, _, _⟩ := e
              rw [e3] at e1
              rcases HFr.out b' o' _ _ e1 with q2 | q2
              · have : b' = pb := e2
                omega
              · exact hqe q2
          have HS7 := Lib.hid (HS6.out _ hd5 hr5)
          have HDt := Lib.hid (show DbTo w o mb po n F ((((y4.setCell ⟨pb, 0, none⟩ (.int .i64 xt)).setCell ⟨pb, 1, none⟩ (.int .i64 xr)).setCell ⟨pb, 2, none⟩ (.slice a4 q4l c4)).setCell ⟨pb, 3, none⟩ (.int .i64 W4)) l (tkL L) from
            ⟨F1, hd5, HDb.out.2.1, ((HDb.out.2.2.1.trans (Tch.nw g4'.out))).trans' ht6 (fun i hi e => by omega)⟩)
          have HTc := Lib.hid (((HDb.out.2.2.1.trans (Tch.nw g4'.out))).trans' ht6 (fun i hi e => by omega))
          have HBS := Lib.hid (And.intro hsb hbr)
          simp only [hdV]
          clear HS6 hd5 hr5 hql4 hbl hes hbr hsb hsc hdn4 hok4 hW4 hq4 hQ hb6 ht6 hal6
          go_wp2_with fail
          refine HS7.out.mono ?_
          rintro e y6 ⟨vi, l', rfl, _, hl', hto, _⟩
          have HF := Lib.hid (show AskD w o mb po n F l L xt xr txn m (.returned (.tuple #[.int .i64 (fre L), .bool gr, .int .i64 0])) y6 by
            unfold AskD
            rw [HBS.out.1, HBS.out.2]
            exact ⟨rfl, l', hl', DbTo.comp HDb.out.2.1 HTc.out hto⟩)
          clear hl' hto p0 p1 p2 p3 pz pl4
          go_wp2
          exact bodyPost_ret (v := .tuple #[.int .i64 (fre L), .bool gr, .int .i64 0]) (by simp [results, Tryz.results11, go_sem, *]) rfl HF.out
        · have hl0 : L.length ≤ liv L := Nat.le_of_not_lt (fun e => hf (fre_lvI.2 e))
          have hkl : tkL L = L := tkL_full hf
          have htk : tkR L = (0, 8) := if_neg hf
          rw [hkl] at HPt
          rw [htk]
          have HR := Lib.hid (askD_rejT HPt.out (show askBE n (hsP l) L xt xr txn m = 8 by rw [HX.out, if_pos (HFu.out.2 hl0)]) (show (8 : Int) ≠ 0 by decide))
          clear hf hl0 hkl htk hpt hal4 pl2
          go_wp2
          exact bodyPost_ret (v := .tuple #[.int .i64 0, .bool false, .int .i64 8]) (by simp [results, Tryz.results11, go_sem, *]) rfl HR.out
  · have hne : (E1 != 0) = true := by simpa using he1
    have hne2 : (E1 == 0) = false := by simpa using he1
    have HR := Lib.hid (askD_rej (t := xt) (r := xr) (txn := txn) (m := m) H.out (HN3.out.alloc (.cells #[.int .i64 X1.t, .int .i64 X1.r, .slice av nv cv, .int .i64 X1.W] 52)) (show askBE n (hsP l) L xt xr txn m = E1 by
      unfold askBE
      rw [← HE.out]
      have := HE.out
      by_cases hb : badM m
      · rw [if_pos hb, if_pos hb]
      · rw [if_neg hb] at this ⊢
        rw [if_neg hb]
        by_cases ht : twB (hsP l) xt xr txn = true
        · rw [if_pos ht, if_pos ht]
        · rw [if_neg ht] at this; exact absurd this.symm he1) he1)
    clear hE hal2
    go_wp2
    exact bodyPost_ret (v := .tuple #[.int .i64 0, .bool false, .int .i64 E1]) (by simp [results, Tryz.results11, go_sem, *]) rfl HR.out
end Go.Proofs.YtfemopcichmlmaaGreatRRR
end
