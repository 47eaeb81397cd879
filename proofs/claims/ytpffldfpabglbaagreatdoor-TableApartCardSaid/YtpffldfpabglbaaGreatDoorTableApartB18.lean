/- Texts merged: BdO, BdQ, BdR, QvX, BdS, BdT, BdV, Rt, BdW, BdX, PoC, BdY, TbL -/
import Derived.Test.YtpffldfpabglbaaGreatDoorTableApartB17

/- Ask, walked. -/
section
namespace Go.Proofs.YtpffldfpabglbaaGreatDoor
open Go.RowKit Go.Shelf
set_option linter.unusedVariables false      -- a contract need not use every name

/-- What Ask comes to. -/
def AskD (w : World) (o mb po n : Nat) (F : Nat → Prop) (l : List Hp) (L : List Bool) (t r txn m : Int) (e : Ending) (w' : World) : Prop :=
  e = .returned (.tuple #[.int .i64 (askBR n (hsP l) L t r txn m).1, .bool (askBR n (hsP l) L t r txn m).2.1, .int .i64 (askBR n (hsP l) L t r txn m).2.2]) ∧ ∃ l', hsP l' = (askBS n (hsP l) L t r txn m).1 ∧ DbTo w o mb po n F l w' l' (askBS n (hsP l) L t r txn m).2
theorem askD_rej {w w' : World} {o mb po n : Nat} {F : Nat → Prop} {l : List Hp} {L : List Bool} {t r txn m E : Int} (h : Db w o mb po n l L F) (g : Nw w w') (he : askBE n (hsP l) L t r txn m = E) (hE : E ≠ 0) :
    AskD w o mb po n F l L t r txn m (.returned (.tuple #[.int .i64 0, .bool false, .int .i64 E])) w' := by
  obtain ⟨h1, h2⟩ := ask_rej (most := n) (hs := hsP l) (L := L) (t := t) (r := r) (txn := txn) (m := m) (by rw [he]; exact hE)
  unfold AskD
  rw [h1, h2.1, he]
  exact ⟨rfl, l, rfl, h.to g⟩
theorem askD_rejT {w w' : World} {o mb po n : Nat} {F : Nat → Prop} {l : List Hp} {L : List Bool} {t r txn m E : Int} (h : DbTo w o mb po n F l w' l L) (he : askBE n (hsP l) L t r txn m = E) (hE : E ≠ 0) :
    AskD w o mb po n F l L t r txn m (.returned (.tuple #[.int .i64 0, .bool false, .int .i64 E])) w' := by
  obtain ⟨h1, h2⟩ := ask_rej (most := n) (hs := hsP l) (L := L) (t := t) (r := r) (txn := txn) (m := m) (by rw [he]; exact hE)
  unfold AskD
  rw [h1, h2.1, he]
  exact ⟨rfl, l, rfl, h⟩
theorem fre_lvI {L : List Bool} : fre L < L.length ↔ liv L < L.length := by
  have h1 := frI_len L
  constructor
  · intro h
    rw [frI_take h] at h1
    simp only [List.length_cons] at h1
    omega
  · intro h
    rcases Nat.lt_or_ge (fre L) L.length with q | q
    · exact q
    · have := fre_le L
      rw [frI_none (by omega)] at h1
      simp only [List.length_nil] at h1
      omega
set_option maxRecDepth 20000 in
set_option maxHeartbeats 4000000 in
theorem ask_d {w : World} {o mb po n k : Nat} {l : List Hp} {L : List Bool} {F : Nat → Prop} (h : Db w o mb po n l L F) {X : List Int} (b : BInv n k (hsP l) X L) (hk : k ≤ 800) (hn : n ≤ 64) (t r txn m : Int) (wa : wfN (t, r)) :
    Calls Tryz.prog 89 #[.pointer (some ⟨o, 0, none⟩), .agg #[.int .i64 t, .int .i64 r], .int .i64 txn, .int .i64 m] w (AskD w o mb po n F l L t r txn m) := by
  have H := Lib.hid h
  have HB := Lib.hid b
  have hol := h.ol
  have hLs := h.pol.sz
  have hN : Nw w (w.alloc (.cells #[.int .i64 t, .int .i64 r] 34)) := (Nw.refl w).alloc _
  have hb0 := allocAt w (.cells #[.int .i64 t, .int .i64 r] 34)
  obtain ⟨z, hz⟩ : ∃ z, w.alloc (.cells #[.int .i64 t, .int .i64 r] 34) = z := ⟨_, rfl⟩
  rw [hz] at hN hb0
  have HZ := Lib.hid hz
  have n0 : z.cell? ⟨w.heap.size, 0, none⟩ = some (.int .i64 t) := hcell hb0
  have n1 : z.cell? ⟨w.heap.size, 1, none⟩ = some (.int .i64 r) := hcell hb0
  have hbl := hlt hb0
  have HMd := Lib.hid (bmade_yes o z (hN.kp h.c0))
  have HAt := Lib.hid (at_any (h.nw hN) t r wa)
  obtain ⟨hi, hW, hql, _⟩ := b.hd t r
  have htry := ask_try b t r txn m 128 (by omega)
  rw [← at_hd] at hi hW hql htry
  have hnm : (atP l (t, r)).h.t = t ∧ (atP l (t, r)).h.r = r := by
    have := hd_name (hsP l) t r
    rw [← at_hd] at this
    exact ⟨congrArg Prod.fst this, congrArg Prod.snd this⟩
  have hrd := at_rd h t r
  have hqf := at_qf h t r
  have hh := at_hd l t r
  have hge : getP l (t, r) = none → (atP l (t, r)).h.q = [] := fun e => by unfold atP; rw [e]; rfl
  have hgs : ∀ x, getP l (t, r) = some x → (atP l (t, r)).h.q ≠ [] := fun x e => by
    have hx := (getP_some e).1
    unfold atP; rw [e]
    exact b.ne _ (List.mem_map.2 ⟨x, hx, rfl⟩)
  clear h b hz hb0
  unfold hpH at HAt
  revert HAt hi hW hql htry hnm hrd hqf hh hge hgs
  generalize atP l (t, r) = x
  obtain ⟨⟨xt, xr, xW, q⟩, xa, xq, xc⟩ := x
  intro HAt hi hW hql htry hnm hrd hqf hh hge hgs
  obtain ⟨rfl, rfl⟩ := hnm
  simp only at HAt hi hW hql htry hrd hqf hh hge hgs
  obtain ⟨ql, hqe⟩ : ∃ ql, q.length = ql := ⟨_, rfl⟩
  unfold hpV at hrd
  simp only at hrd
  rw [hqe] at HAt hrd
  have HD := Lib.hid (And.intro hi (And.intro hql (And.intro hh (And.intro hge (And.intro hgs (And.intro hqf (And.intro hqe hW)))))))
  have HRd := Lib.hid hrd
  have HTr := Lib.hid htry
  have hok := hi.ok
  clear hi hW hql hh hge hgs hqf hrd htry
  go_enter Tryz.func89, Tryz.ntmps89
  go_wp2_with fail
  rw [HZ.out]
  refine HMd.out.mono ?_
  rintro e w' ⟨rfl, rfl⟩
  go_wp2_with fail
  refine HAt.out.mono ?_
  rintro e w1 ⟨rfl, g1⟩
  have HN1 := Lib.hid (hN.trans g1)
  have hal := allocAt w1 (.cells #[.int .i64 xt, .int .i64 xr, .slice xq ql xc, .int .i64 xW] 63)
  have hN2 : Nw w (w1.alloc (.cells #[.int .i64 xt, .int .i64 xr, .slice xq ql xc, .int .i64 xW] 63)) := HN1.out.alloc _
  have hpb : w.heap.size ≤ w1.heap.size := HN1.out.sz
  have pl := hlt hal
  have HA1 := Lib.hid (fun w2 (g : Nw w w2) => dAsk xt xr xW 128 txn m (.slice xq ql xc) q w2 (by have := HD.out.2.1; omega) hok (HRd.out.nw g))
  unfold hdV at HA1
  clear n0 n1 hbl HAt HMd g1 hN HZ
  go_wp2_with fail
  generalize w1.heap.size = pb at *
  generalize w1.alloc (.cells #[.int .i64 xt, .int .i64 xr, .slice xq ql xc, .int .i64 xW] 63) = z1 at *
  refine (HA1.out _ hN2).mono ?_
  rintro e y ⟨v2, rfl, g2, rd2, cap2, fr2⟩
  obtain ⟨av, cv, hv2⟩ := rd2.form
  obtain ⟨nv, hnv⟩ : ∃ nv, (askR ⟨xt, xr, xW, q⟩ 128 txn m).1.q.length = nv := ⟨_, rfl⟩
  rw [hnv] at hv2
  subst hv2
  clear hnv
  have hal2 := g2.at' hal
  have HN3 := Lib.hid (hN2.trans g2)
  have hE1 : (askR ⟨xt, xr, xW, q⟩ 128 txn m).2.2 = askE q 128 txn m := by unfold askR; split <;> simp_all
  rw [hE1, HTr.out]
  obtain ⟨E1, hE⟩ : ∃ E1 : Int, (if badM m then (2 : Int) else if twB (hsP l) xt xr txn = true then 4 else 0) = E1 := ⟨_, rfl⟩
  rw [hE]
  have HE := Lib.hid hE
  clear hal g2 hN2 HA1 HN1 rd2 cap2 fr2 pl
  generalize (askR ⟨xt, xr, xW, q⟩ 128 txn m).1 = X1
  generalize (askR ⟨xt, xr, xW, q⟩ 128 txn m).2.1 = X2
  simp only [hdV]
  by_cases he1 : E1 = 0
  · subst he1
    have hbm : ¬ badM m := fun e => by have := HE.out; rw [if_pos e] at this; cases this
    have htw : ¬ twB (hsP l) xt xr txn = true := fun e => by have := HE.out; rw [if_neg hbm, if_pos e] at this; cases this
    have hex : askBE n (hsP l) L xt xr txn m = if fullB n (hsP l) L xt xr then 8 else 0 := by unfold askBE; rw [if_neg hbm, if_neg htw]
    have HX := Lib.hid hex
    clear hE hbm htw hex
    obtain ⟨y1, hy1⟩ : ∃ y1, y.alloc (.cells #[.int .i64 X1.t, .int .i64 X1.r, .slice av nv cv, .int .i64 X1.W] 63) = y1 := ⟨_, rfl⟩
    have g1 : Nw y y1 := by rw [← hy1]; exact (Nw.refl y).alloc _
    have HN4 := Lib.hid (HN3.out.trans g1)
    have hal3 := g1.at' hal2
    have HY1 := Lib.hid hy1
    clear hal2 g1 hy1 HN3
    go_wp2_with fail
    rw [HY1.out]
    clear HY1
    have c1 := (H.out.nw HN4.out).c1
    have c2 := (H.out.nw HN4.out).c2
    have c3 := (H.out.nw HN4.out).c3
    have pl := hlt hal3
    have hdr : Nw w y1.drew := HN4.out.dr
    have hle := fun (d : Wd (fun y => y = y1.drew)) => ((H.out.nw (show Nw w d.w by rw [d.h]; exact hdr)).map).len 3
    have d1 : ∀ d : Wd (fun y => y = y1.drew), d.w.cell? ⟨o, 1, none⟩ = some (.int .i64 n) := fun d => by rw [d.h]; exact c1
    have d3 : ∀ d : Wd (fun y => y = y1.drew), d.w.cell? ⟨o, 3, none⟩ = some (.map (some mb)) := fun d => by rw [d.h]; exact c3
    have e1 : ∀ d : Wd (fun y => y = y1.drew), d.w.cell? ⟨pb, 2, none⟩ = some (.slice xq ql xc) := fun d => by rw [d.h]; exact hcell (j := 2) hal3
    have hne : Nonempty (Wd (fun y => y = y1.drew)) := ⟨⟨_, rfl⟩⟩
    have hLl : (hsP l).length = l.length := List.length_map _
    have hln := HB.out.len
    rw [hLl] at hln
    have hway : (ql = 0 ∧ l.length = n ∧ fullB n (hsP l) L xt xr) ∨ (((ql = 0 ∧ l.length ≠ n) ∨ ql ≠ 0) ∧ (fullB n (hsP l) L xt xr ↔ L.length ≤ liv L)) := by
      have hg : getH (hsP l) (xt, xr) = none ↔ ql = 0 := by
        rw [getH_map]
        cases e : getP l (xt, xr) with
        | none => have := HD.out.2.2.2.1 e; have := HD.out.2.2.2.2.2.2.1; simp_all
        | some x =>
          have h1 := HD.out.2.2.2.2.1 x e
          have h2 := HD.out.2.2.2.2.2.2.1
          constructor
          · intro q; cases q
          · intro q; rw [q] at h2; exact absurd (List.length_eq_zero_iff.1 h2) h1
      unfold fullB
      rw [hLl, hg]
      by_cases q0 : ql = 0
      · by_cases q1 : l.length = n
        · exact .inl ⟨q0, q1, .inl ⟨q0, by omega⟩⟩
        · refine .inr ⟨.inl ⟨q0, q1⟩, ⟨fun h => h.elim (fun h => by omega) id, .inr⟩⟩
      · exact .inr ⟨.inr q0, ⟨fun h => h.elim (fun h => absurd h.1 q0) id, .inr⟩⟩
    clear c1 c3 hLl hln
    rcases hway with ⟨rfl, hq1, hfu⟩ | ⟨hq, hfu⟩
    · have j1 : ((l.length : Int) == (n : Int)) = true := beq_iff_eq.2 (by omega)
      have j2 : (l.length == n) = true := by simpa using hq1
      have HR := Lib.hid (askD_rej (t := xt) (r := xr) (txn := txn) (m := m) H.out hdr (by rw [HX.out, if_pos hfu]) (show (8 : Int) ≠ 0 by decide))
      clear hfu hq1 hal3 hdr
      refine region_in (fun y => y = y1.drew) (by kernel_rfl) (by kernel_rfl) rfl ?_
      repeat (first | go_big_quiet_step (fail) | quiet_step (fail))
      refine wpQuiet_nil ?_
      intro d
      rw [d.h]
      clear d hle d1 d3 e1
      clear hne
      go_wp2
      exact bodyPost_ret (v := .tuple #[.int .i64 0, .bool false, .int .i64 8]) (by simp [results, Tryz.results89, go_sem, *]) rfl HR.out
    · have HFu := Lib.hid hfu
      have HDr := Lib.hid hdr
      clear hfu hdr
      rcases hq with ⟨hq0, hq1⟩ | hq0
      · have j1 : ((l.length : Int) == (n : Int)) = false := beq_eq_false_iff_ne.2 (by omega)
        have j0 : ((ql : Int) == 0) = true := beq_iff_eq.2 (by omega)
        have j3 : (ql == 0) = true := beq_iff_eq.2 hq0
        clear hq0
        have j2 : (l.length == n) = false := by simpa using hq1
        clear hq1
        refine region_in (fun y => y = y1.drew) (by kernel_rfl) (by kernel_rfl) rfl ?_
        repeat (first | go_big_quiet_step (fail) | quiet_step (fail))
        refine wpQuiet_nil ?_
        intro d
        rw [d.h]
        clear d hle d1 d3 e1
        clear hne
        obtain ⟨y2, hy2⟩ : ∃ y2, y1.drew = y2 := ⟨_, rfl⟩
        have hal4 : y2.heap[pb]? = some (.cells #[.int .i64 xt, .int .i64 xr, .slice xq ql xc, .int .i64 xW] 63 (0, 0)) := by subst hy2; exact hal3
        have HN5 : Hid (Nw w y2) := by subst hy2; exact HDr
        have c2' : y2.cell? ⟨o, 2, none⟩ = some (.pointer (some ⟨po, 0, none⟩)) := by subst hy2; exact c2
        have pl2 := hlt hal4
        have hol2 : o < y2.heap.size := Nat.lt_of_lt_of_le hol HN5.out.sz
        rw [hy2]
        have HTk := Lib.hid (take_any (H.out.nw HN5.out).pol)
        clear hy2 hal3 c2 pl HDr
        go_wp2_with fail
        refine HTk.out.mono ?_
        rintro e y3 ⟨rfl, hpt⟩
        have HPt := Lib.hid (((H.out.nw HN5.out).pool hpt).pre HN5.out)
        by_cases hf : fre L < L.length
        · have hl0 : liv L < L.length := fre_lvI.1 hf
          have he0 : askBE n (hsP l) L xt xr txn m = 0 := by rw [HX.out, if_neg (fun e => by have := HFu.out.1 e; omega)]
          have htk : tkR L = (↑(fre L), 0) := if_pos hf
          rw [htk]
          obtain ⟨hke, hfl, hnn⟩ := ask_can HB.out he0
          have hhq : (hdB (hsP l) xt xr) = ⟨xt, xr, xW, q⟩ := HD.out.2.2.1.symm
          rw [hhq] at hke
          have hpbF : ¬ F pb := fun e => by have := H.out.pol.own _ e; omega
          obtain ⟨F1, hDb1, hF1, ht1, _⟩ := (H.out.nw HN5.out).pool hpt
          have hpF1 : ¬ F1 pb := fun e => (hF1 pb e).elim hpbF (fun q => by omega)
          have hy2s := HN5.out.sz
          have hpn : pb ≠ mb := by have := H.out.map.lt; omega
          have hal5 : y3.heap[pb]? = some (.cells #[.int .i64 xt, .int .i64 xr, .slice xq ql xc, .int .i64 xW] 63 (0, 0)) := by
            obtain ⟨_, _, _, ht⟩ := hpt
            exact (ht.block pb pl2 hpbF).trans hal4
          have hrd3 : RqAt y3 (.slice xq ql xc) q := by
            obtain ⟨_, _, _, ht⟩ := hpt
            refine rq_tchM (HRd.out.nw HN5.out) ht (fun a n c e hqe => ?_)
            simp only [Value.slice.injEq] at e
            exact HD.out.2.2.2.2.2.1 a e.1 hqe
          have p0 := hcell (j := 0) hal5
          have p1 := hcell (j := 1) hal5
          have p2 := hcell (j := 2) hal5
          have p3 := hcell (j := 3) hal5
          have pz := fun j => hfz (j := j) hal5
          have pl3 := hlt hal5
          have HA2 := Lib.hid (dAsk xt xr xW (fre L) txn m (.slice xq ql xc) q y3 (by have := HD.out.2.1; omega) hok hrd3)
          have hX2 : askR ⟨xt, xr, xW, q⟩ (fre L) txn m = (⟨xt, xr, (askQ xW q (fre L) txn m).1, (askQ xW q (fre L) txn m).2.1⟩, (askQ xW q (fre L) txn m).2.2, 0) := by unfold askR; rw [if_pos hke]
          rw [hX2] at HA2
          unfold hdV at HA2
          have HK := Lib.hid (And.intro hke (And.intro hfl (And.intro hnn (And.intro he0 hhq))))
          have HDb := Lib.hid (And.intro hDb1 (And.intro (show ∀ k, F1 k → F k ∨ w.heap.size ≤ k from fun k e => (hF1 k e).imp id (fun q => by omega)) (And.intro (show Tch (fun b => b = mb ∨ F b) w y3 from (Tch.nw HN5.out).trans ht1) (And.intro hpF1 hpn))))
          clear hke hfl hnn he0 hhq hX2 hDb1 hF1 ht1 hpt hpbF hpn htk hl0 hal4 pl2 c2' HTk hf
          have hsz3 : w.heap.size ≤ y3.heap.size := HDb.out.2.2.1.size
          have hpl3 : pb < y3.heap.size := pl3
          go_wp2_with fail
          refine HA2.out.mono ?_
          rintro e y4 ⟨v4, rfl, g4, rd4, cap4, fr4⟩
          obtain ⟨a4, c4, hv4⟩ := rd4.form
          have HRd4 := Lib.hid rd4
          have hal6 := g4.at' hal5
          have g4' := Lib.hid g4
          simp only at HRd4 hv4 ⊢
          generalize hQ : askQ xW q (fre L) txn m = Q at *
          obtain ⟨W4, q4, gr⟩ := Q
          simp only at HRd4 hv4 ⊢
          obtain ⟨q4l, hq4l⟩ : ∃ n, q4.length = n := ⟨_, rfl⟩
          rw [hq4l] at hv4
          subst hv4
          have HFr := Lib.hid fr4
          clear p0 p1 p2 p3 pz pl3 rd4 cap4 fr4 hal5
          have p0 := hcell (j := 0) hal6
          have p1 := hcell (j := 1) hal6
          have p2 := hcell (j := 2) hal6
          have p3 := hcell (j := 3) hal6
          have pz := fun j => hfz (j := j) hal6
          have pl4 := hlt hal6
          have hb6 := bxp_put hal6 (.int .i64 xt) (.int .i64 xr) (.slice a4 q4l c4) (.int .i64 W4)
          have ht6 := bxp_tch y4 pb (.int .i64 xt) (.int .i64 xr) (.slice a4 q4l c4) (.int .i64 W4)
          have hq4 : q4 ≠ [] := by have := ask_ne xW q (fre L) txn m; rw [hQ] at this; exact this
          have hW4 := HD.out.2.2.2.2.2.2.2
          have hok4 : Ok W4 q4 := by have := ok_ask hok (fre L) txn m HK.out.1 (by omega); rw [hQ] at this; exact this
          have hdn4 : Done q4 := by have := done_ask hok HD.out.1.done (fre L) txn m HK.out.1; rw [hQ] at this; exact this
          have hsc : scanQ q4 = ([], q4) := scan_done hdn4
          have hsb : askBS n (hsP l) L xt xr txn m = (putH (hsP l) ⟨xt, xr, W4, q4⟩, tkL L) := by
            unfold askBS askH
            rw [if_pos HK.out.2.2.2.1, HK.out.2.2.2.2]
            simp only
            rw [hQ]
          have hbr : askBR n (hsP l) L xt xr txn m = (↑(fre L), gr, 0) := by
            unfold askBR
            rw [if_pos HK.out.2.2.2.1, HK.out.2.2.2.2]
            simp only
            rw [hQ]
          have hes : endS (hsP l) ⟨xt, xr, W4, q4⟩ = putH (hsP l) ⟨xt, xr, W4, q4⟩ := by
            unfold endS scH
            simp only
            rw [hsc]
            simp only
            rw [if_neg hq4]
          have hbl := (binv_ask HB.out (by omega) xt xr txn m).len
          rw [hsb] at hbl
          simp only at hbl
          have hql4 : q4.length ≤ 1000 := by
            have := HD.out.2.1
            have e := congrArg (fun z => z.2.1.length) hQ
            simp only at e
            rw [← e]
            unfold askQ
            split <;> simp <;> omega
          have HS6 := Lib.hid (fun y5 (hd : Db y5 o mb po n l (tkL L) F1) (hr : RqAt y5 (.slice a4 q4l c4) q4) => settle_any hd xt xr W4 (.slice a4 q4l c4) q4 wa hql4 hok4 hr (by rw [hes]; omega))
          rw [hes, hsc] at HS6
          have hd5 : Db ((((y4.setCell ⟨pb, 0, none⟩ (.int .i64 xt)).setCell ⟨pb, 1, none⟩ (.int .i64 xr)).setCell ⟨pb, 2, none⟩ (.slice a4 q4l c4)).setCell ⟨pb, 3, none⟩ (.int .i64 W4)) o mb po n l (tkL L) F1 := by
            refine (HDb.out.1.nw g4'.out).tch ht6 (fun e => by omega) (fun e => HDb.out.2.2.2.2 e.symm) (fun k e q => HDb.out.2.2.2.1 (q ▸ e)) (fun x hx => ⟨fun e => ?_, fun b e hq e2 => ?_⟩)
            · have := (H.out.ok x hx).lt; omega
            · obtain ⟨a', c', e1, ⟨q1, _⟩ | ⟨b', o', e3, hc⟩⟩ := (H.out.ok x hx).rd
              · exact hq q1
              · unfold hpV at e1
                rw [e, e3] at e1
                injection e1 with e1 _ _
                injection e1 with e1
                subst e1
                have := hc.lt
                have e4 : (⟨b', o', none⟩ : Addr).block = b' := rfl
                omega
          have hr5 : RqAt ((((y4.setCell ⟨pb, 0, none⟩ (.int .i64 xt)).setCell ⟨pb, 1, none⟩ (.int .i64 xr)).setCell ⟨pb, 2, none⟩ (.slice a4 q4l c4)).setCell ⟨pb, 3, none⟩ (.int .i64 W4)) (.slice a4 q4l c4) q4 := by
            refine rq_tchM HRd4.out ht6 (fun a n' c e hqe e2 => ?_)
            obtain ⟨a', c', e1, ⟨q1, _⟩ | ⟨b', o', e3, hc⟩⟩ := HRd4.out
            · exact hqe q1
            · rw [e1, e3] at e
              simp only [Value.slice.injEq, Option.some.injEq] at e
              obtain ⟨rfl, _, _⟩ := e
              rw [e3] at e1
              rcases HFr.out b' o' _ _ e1 with q2 | q2
              · have : b' = pb := e2
                omega
              · exact hqe q2
          have HS7 := Lib.hid (HS6.out _ hd5 hr5)
          have HDt := Lib.hid (show DbTo w o mb po n F l ((((y4.setCell ⟨pb, 0, none⟩ (.int .i64 xt)).setCell ⟨pb, 1, none⟩ (.int .i64 xr)).setCell ⟨pb, 2, none⟩ (.slice a4 q4l c4)).setCell ⟨pb, 3, none⟩ (.int .i64 W4)) l (tkL L) from
            ⟨F1, hd5, HDb.out.2.1, ((HDb.out.2.2.1.trans (Tch.nw g4'.out))).trans' ht6 (fun i hi e => by omega), HdN.refl w l⟩)
          have HTc := Lib.hid (((HDb.out.2.2.1.trans (Tch.nw g4'.out))).trans' ht6 (fun i hi e => by omega))
          have HBS := Lib.hid (And.intro hsb hbr)
          simp only [hdV]
          clear HS6 hd5 hr5 hql4 hbl hes hbr hsb hsc hdn4 hok4 hW4 hq4 hQ hb6 ht6 hal6
          go_wp2_with fail
          refine HS7.out.mono ?_
          rintro e y6 ⟨vi, l', rfl, _, hl', hto, _⟩
          have HF := Lib.hid (show AskD w o mb po n F l L xt xr txn m (.returned (.tuple #[.int .i64 (fre L), .bool gr, .int .i64 0])) y6 by
            unfold AskD
            rw [HBS.out.1, HBS.out.2]
            exact ⟨rfl, l', hl', DbTo.comp HDb.out.2.1 HTc.out hto⟩)
          clear hl' hto p0 p1 p2 p3 pz pl4
          go_wp2
          exact bodyPost_ret (v := .tuple #[.int .i64 (fre L), .bool gr, .int .i64 0]) (by simp [results, Tryz.results89, go_sem, *]) rfl HF.out
        · have hl0 : L.length ≤ liv L := Nat.le_of_not_lt (fun e => hf (fre_lvI.2 e))
          have hkl : tkL L = L := tkL_full hf
          have htk : tkR L = (0, 8) := if_neg hf
          rw [hkl] at HPt
          rw [htk]
          have HR := Lib.hid (askD_rejT HPt.out (show askBE n (hsP l) L xt xr txn m = 8 by rw [HX.out, if_pos (HFu.out.2 hl0)]) (show (8 : Int) ≠ 0 by decide))
          clear hf hl0 hkl htk hpt hal4 pl2
          go_wp2
          exact bodyPost_ret (v := .tuple #[.int .i64 0, .bool false, .int .i64 8]) (by simp [results, Tryz.results89, go_sem, *]) rfl HR.out
      · have j1 : ((ql : Int) == 0) = false := by simpa using hq0
        have j2 : (ql == 0) = false := by simpa using hq0
        clear hq0
        refine region_in (fun y => y = y1.drew) (by kernel_rfl) (by kernel_rfl) rfl ?_
        repeat (first | go_big_quiet_step (fail) | quiet_step (fail))
        refine wpQuiet_nil ?_
        intro d
        rw [d.h]
        clear d hle d1 d3 e1
        clear hne
        obtain ⟨y2, hy2⟩ : ∃ y2, y1.drew = y2 := ⟨_, rfl⟩
        have hal4 : y2.heap[pb]? = some (.cells #[.int .i64 xt, .int .i64 xr, .slice xq ql xc, .int .i64 xW] 63 (0, 0)) := by subst hy2; exact hal3
        have HN5 : Hid (Nw w y2) := by subst hy2; exact HDr
        have c2' : y2.cell? ⟨o, 2, none⟩ = some (.pointer (some ⟨po, 0, none⟩)) := by subst hy2; exact c2
        have pl2 := hlt hal4
        have hol2 : o < y2.heap.size := Nat.lt_of_lt_of_le hol HN5.out.sz
        rw [hy2]
        have HTk := Lib.hid (take_any (H.out.nw HN5.out).pol)
        clear hy2 hal3 c2 pl HDr
        go_wp2_with fail
        refine HTk.out.mono ?_
        rintro e y3 ⟨rfl, hpt⟩
        have HPt := Lib.hid (((H.out.nw HN5.out).pool hpt).pre HN5.out)
        by_cases hf : fre L < L.length
        · have hl0 : liv L < L.length := fre_lvI.1 hf
          have he0 : askBE n (hsP l) L xt xr txn m = 0 := by rw [HX.out, if_neg (fun e => by have := HFu.out.1 e; omega)]
          have htk : tkR L = (↑(fre L), 0) := if_pos hf
          rw [htk]
          obtain ⟨hke, hfl, hnn⟩ := ask_can HB.out he0
          have hhq : (hdB (hsP l) xt xr) = ⟨xt, xr, xW, q⟩ := HD.out.2.2.1.symm
          rw [hhq] at hke
          have hpbF : ¬ F pb := fun e => by have := H.out.pol.own _ e; omega
          obtain ⟨F1, hDb1, hF1, ht1, _⟩ := (H.out.nw HN5.out).pool hpt
          have hpF1 : ¬ F1 pb := fun e => (hF1 pb e).elim hpbF (fun q => by omega)
          have hy2s := HN5.out.sz
          have hpn : pb ≠ mb := by have := H.out.map.lt; omega
          have hal5 : y3.heap[pb]? = some (.cells #[.int .i64 xt, .int .i64 xr, .slice xq ql xc, .int .i64 xW] 63 (0, 0)) := by
            obtain ⟨_, _, _, ht⟩ := hpt
            exact (ht.block pb pl2 hpbF).trans hal4
          have hrd3 : RqAt y3 (.slice xq ql xc) q := by
            obtain ⟨_, _, _, ht⟩ := hpt
            refine rq_tchM (HRd.out.nw HN5.out) ht (fun a n c e hqe => ?_)
            simp only [Value.slice.injEq] at e
            exact HD.out.2.2.2.2.2.1 a e.1 hqe
          have p0 := hcell (j := 0) hal5
          have p1 := hcell (j := 1) hal5
          have p2 := hcell (j := 2) hal5
          have p3 := hcell (j := 3) hal5
          have pz := fun j => hfz (j := j) hal5
          have pl3 := hlt hal5
          have HA2 := Lib.hid (dAsk xt xr xW (fre L) txn m (.slice xq ql xc) q y3 (by have := HD.out.2.1; omega) hok hrd3)
          have hX2 : askR ⟨xt, xr, xW, q⟩ (fre L) txn m = (⟨xt, xr, (askQ xW q (fre L) txn m).1, (askQ xW q (fre L) txn m).2.1⟩, (askQ xW q (fre L) txn m).2.2, 0) := by unfold askR; rw [if_pos hke]
          rw [hX2] at HA2
          unfold hdV at HA2
          have HK := Lib.hid (And.intro hke (And.intro hfl (And.intro hnn (And.intro he0 hhq))))
          have HDb := Lib.hid (And.intro hDb1 (And.intro (show ∀ k, F1 k → F k ∨ w.heap.size ≤ k from fun k e => (hF1 k e).imp id (fun q => by omega)) (And.intro (show Tch (fun b => b = mb ∨ F b) w y3 from (Tch.nw HN5.out).trans ht1) (And.intro hpF1 hpn))))
          clear hke hfl hnn he0 hhq hX2 hDb1 hF1 ht1 hpt hpbF hpn htk hl0 hal4 pl2 c2' HTk hf
          have hsz3 : w.heap.size ≤ y3.heap.size := HDb.out.2.2.1.size
          have hpl3 : pb < y3.heap.size := pl3
          go_wp2_with fail
          refine HA2.out.mono ?_
          rintro e y4 ⟨v4, rfl, g4, rd4, cap4, fr4⟩
          obtain ⟨a4, c4, hv4⟩ := rd4.form
          have HRd4 := Lib.hid rd4
          have hal6 := g4.at' hal5
          have g4' := Lib.hid g4
          simp only at HRd4 hv4 ⊢
          generalize hQ : askQ xW q (fre L) txn m = Q at *
          obtain ⟨W4, q4, gr⟩ := Q
          simp only at HRd4 hv4 ⊢
          obtain ⟨q4l, hq4l⟩ : ∃ n, q4.length = n := ⟨_, rfl⟩
          rw [hq4l] at hv4
          subst hv4
          have HFr := Lib.hid fr4
          clear p0 p1 p2 p3 pz pl3 rd4 cap4 fr4 hal5
          have p0 := hcell (j := 0) hal6
          have p1 := hcell (j := 1) hal6
          have p2 := hcell (j := 2) hal6
          have p3 := hcell (j := 3) hal6
          have pz := fun j => hfz (j := j) hal6
          have pl4 := hlt hal6
          have hb6 := bxp_put hal6 (.int .i64 xt) (.int .i64 xr) (.slice a4 q4l c4) (.int .i64 W4)
          have ht6 := bxp_tch y4 pb (.int .i64 xt) (.int .i64 xr) (.slice a4 q4l c4) (.int .i64 W4)
          have hq4 : q4 ≠ [] := by have := ask_ne xW q (fre L) txn m; rw [hQ] at this; exact this
          have hW4 := HD.out.2.2.2.2.2.2.2
          have hok4 : Ok W4 q4 := by have := ok_ask hok (fre L) txn m HK.out.1 (by omega); rw [hQ] at this; exact this
          have hdn4 : Done q4 := by have := done_ask hok HD.out.1.done (fre L) txn m HK.out.1; rw [hQ] at this; exact this
          have hsc : scanQ q4 = ([], q4) := scan_done hdn4
          have hsb : askBS n (hsP l) L xt xr txn m = (putH (hsP l) ⟨xt, xr, W4, q4⟩, tkL L) := by
            unfold askBS askH
            rw [if_pos HK.out.2.2.2.1, HK.out.2.2.2.2]
            simp only
            rw [hQ]
          have hbr : askBR n (hsP l) L xt xr txn m = (↑(fre L), gr, 0) := by
            unfold askBR
            rw [if_pos HK.out.2.2.2.1, HK.out.2.2.2.2]
            simp only
            rw [hQ]
          have hes : endS (hsP l) ⟨xt, xr, W4, q4⟩ = putH (hsP l) ⟨xt, xr, W4, q4⟩ := by
            unfold endS scH
            simp only
            rw [hsc]
            simp only
            rw [if_neg hq4]
          have hbl := (binv_ask HB.out (by omega) xt xr txn m).len
          rw [hsb] at hbl
          simp only at hbl
          have hql4 : q4.length ≤ 1000 := by
            have := HD.out.2.1
            have e := congrArg (fun z => z.2.1.length) hQ
            simp only at e
            rw [← e]
            unfold askQ
            split <;> simp <;> omega
          have HS6 := Lib.hid (fun y5 (hd : Db y5 o mb po n l (tkL L) F1) (hr : RqAt y5 (.slice a4 q4l c4) q4) => settle_any hd xt xr W4 (.slice a4 q4l c4) q4 wa hql4 hok4 hr (by rw [hes]; omega))
          rw [hes, hsc] at HS6
          have hd5 : Db ((((y4.setCell ⟨pb, 0, none⟩ (.int .i64 xt)).setCell ⟨pb, 1, none⟩ (.int .i64 xr)).setCell ⟨pb, 2, none⟩ (.slice a4 q4l c4)).setCell ⟨pb, 3, none⟩ (.int .i64 W4)) o mb po n l (tkL L) F1 := by
            refine (HDb.out.1.nw g4'.out).tch ht6 (fun e => by omega) (fun e => HDb.out.2.2.2.2 e.symm) (fun k e q => HDb.out.2.2.2.1 (q ▸ e)) (fun x hx => ⟨fun e => ?_, fun b e hq e2 => ?_⟩)
            · have := (H.out.ok x hx).lt; omega
            · obtain ⟨a', c', e1, ⟨q1, _⟩ | ⟨b', o', e3, hc⟩⟩ := (H.out.ok x hx).rd
              · exact hq q1
              · unfold hpV at e1
                rw [e, e3] at e1
                injection e1 with e1 _ _
                injection e1 with e1
                subst e1
                have := hc.lt
                have e4 : (⟨b', o', none⟩ : Addr).block = b' := rfl
                omega
          have hr5 : RqAt ((((y4.setCell ⟨pb, 0, none⟩ (.int .i64 xt)).setCell ⟨pb, 1, none⟩ (.int .i64 xr)).setCell ⟨pb, 2, none⟩ (.slice a4 q4l c4)).setCell ⟨pb, 3, none⟩ (.int .i64 W4)) (.slice a4 q4l c4) q4 := by
            refine rq_tchM HRd4.out ht6 (fun a n' c e hqe e2 => ?_)
            obtain ⟨a', c', e1, ⟨q1, _⟩ | ⟨b', o', e3, hc⟩⟩ := HRd4.out
            · exact hqe q1
            · rw [e1, e3] at e
              simp only [Value.slice.injEq, Option.some.injEq] at e
              obtain ⟨rfl, _, _⟩ := e
              rw [e3] at e1
              rcases HFr.out b' o' _ _ e1 with q2 | q2
              · have : b' = pb := e2
                omega
              · exact hqe q2
          have HS7 := Lib.hid (HS6.out _ hd5 hr5)
          have HDt := Lib.hid (show DbTo w o mb po n F l ((((y4.setCell ⟨pb, 0, none⟩ (.int .i64 xt)).setCell ⟨pb, 1, none⟩ (.int .i64 xr)).setCell ⟨pb, 2, none⟩ (.slice a4 q4l c4)).setCell ⟨pb, 3, none⟩ (.int .i64 W4)) l (tkL L) from
            ⟨F1, hd5, HDb.out.2.1, ((HDb.out.2.2.1.trans (Tch.nw g4'.out))).trans' ht6 (fun i hi e => by omega), HdN.refl w l⟩)
          have HTc := Lib.hid (((HDb.out.2.2.1.trans (Tch.nw g4'.out))).trans' ht6 (fun i hi e => by omega))
          have HBS := Lib.hid (And.intro hsb hbr)
          simp only [hdV]
          clear HS6 hd5 hr5 hql4 hbl hes hbr hsb hsc hdn4 hok4 hW4 hq4 hQ hb6 ht6 hal6
          go_wp2_with fail
          refine HS7.out.mono ?_
          rintro e y6 ⟨vi, l', rfl, _, hl', hto, _⟩
          have HF := Lib.hid (show AskD w o mb po n F l L xt xr txn m (.returned (.tuple #[.int .i64 (fre L), .bool gr, .int .i64 0])) y6 by
            unfold AskD
            rw [HBS.out.1, HBS.out.2]
            exact ⟨rfl, l', hl', DbTo.comp HDb.out.2.1 HTc.out hto⟩)
          clear hl' hto p0 p1 p2 p3 pz pl4
          go_wp2
          exact bodyPost_ret (v := .tuple #[.int .i64 (fre L), .bool gr, .int .i64 0]) (by simp [results, Tryz.results89, go_sem, *]) rfl HF.out
        · have hl0 : L.length ≤ liv L := Nat.le_of_not_lt (fun e => hf (fre_lvI.2 e))
          have hkl : tkL L = L := tkL_full hf
          have htk : tkR L = (0, 8) := if_neg hf
          rw [hkl] at HPt
          rw [htk]
          have HR := Lib.hid (askD_rejT HPt.out (show askBE n (hsP l) L xt xr txn m = 8 by rw [HX.out, if_pos (HFu.out.2 hl0)]) (show (8 : Int) ≠ 0 by decide))
          clear hf hl0 hkl htk hpt hal4 pl2
          go_wp2
          exact bodyPost_ret (v := .tuple #[.int .i64 0, .bool false, .int .i64 8]) (by simp [results, Tryz.results89, go_sem, *]) rfl HR.out
  · have hne : (E1 != 0) = true := by simpa using he1
    have hne2 : (E1 == 0) = false := by simpa using he1
    have HR := Lib.hid (askD_rej (t := xt) (r := xr) (txn := txn) (m := m) H.out (HN3.out.alloc (.cells #[.int .i64 X1.t, .int .i64 X1.r, .slice av nv cv, .int .i64 X1.W] 63)) (show askBE n (hsP l) L xt xr txn m = E1 by
      unfold askBE
      rw [← HE.out]
      have := HE.out
      by_cases hb : badM m
      · rw [if_pos hb, if_pos hb]
      · rw [if_neg hb] at this ⊢
        rw [if_neg hb]
        by_cases ht : twB (hsP l) xt xr txn = true
        · rw [if_pos ht, if_pos ht]
        · rw [if_neg ht] at this; exact absurd this.symm he1) he1)
    clear hE hal2
    go_wp2
    exact bodyPost_ret (v := .tuple #[.int .i64 0, .bool false, .int .i64 E1]) (by simp [results, Tryz.results89, go_sem, *]) rfl HR.out
end Go.Proofs.YtpffldfpabglbaaGreatDoor
end

/- end: Leave and Abandon. -/
section
namespace Go.Proofs.YtpffldfpabglbaaGreatDoor
open Go.RowKit Go.Shelf
set_option linter.unusedVariables false      -- a contract need not use every name

/-- A box that is new does not lie in the bucket. -/
theorem Db.box {w w1 w2 : World} {o mb po n : Nat} {l : List Hp} {L L1 : List Bool} {F F1 : Nat → Prop} (h : Db w o mb po n l L F) (h1 : Db w1 o mb po n l L1 F1) {pb : Nat} (hpb : w.heap.size ≤ pb) (hF : ¬ F1 pb) (t : Tch (fun b => b = pb) w1 w2) : Db w2 o mb po n l L1 F1 := by
  have hol := h.ol
  have hml := h.map.lt
  refine h1.tch t (fun e => by omega) (fun e => by omega) (fun k e q => hF (q ▸ e)) (fun x hx => ⟨fun e => ?_, fun b e hq e2 => ?_⟩)
  · have := (h.ok x hx).lt; omega
  · obtain ⟨a', c', e1, ⟨q1, _⟩ | ⟨b', o', e3, hc⟩⟩ := (h.ok x hx).rd
    · exact hq q1
    · unfold hpV at e1
      rw [e, e3] at e1
      injection e1 with e1 _ _
      injection e1 with e1
      subst e1
      have := hc.lt
      have e4 : (⟨b', o', none⟩ : Addr).block = b' := rfl
      omega
end Go.Proofs.YtpffldfpabglbaaGreatDoor
end

/- Leave and Abandon, in plain words. -/
section
namespace Go.Proofs.YtpffldfpabglbaaGreatDoor
open Go.RowKit Go.Shelf
set_option linter.unusedVariables false      -- a contract need not use every name

end Go.Proofs.YtpffldfpabglbaaGreatDoor
end

/- The developers' package queue: Hand. -/
section
namespace Go.Proofs.YtpffldfpabglbaaGreatDoor
open Go.RowKit
set_option linter.unusedVariables false      -- a contract need not use every name

end Go.Proofs.YtpffldfpabglbaaGreatDoor
end

/- Upgrade and Hand. -/
section
namespace Go.Proofs.YtpffldfpabglbaaGreatDoor
open Go.RowKit Go.Shelf
set_option linter.unusedVariables false      -- a contract need not use every name

end Go.Proofs.YtpffldfpabglbaaGreatDoor
end

/- Hand. -/
section
namespace Go.Proofs.YtpffldfpabglbaaGreatDoor
open Go.RowKit Go.Shelf
set_option linter.unusedVariables false      -- a contract need not use every name

end Go.Proofs.YtpffldfpabglbaaGreatDoor
end

/- Find. -/
section
namespace Go.Proofs.YtpffldfpabglbaaGreatDoor
open Go.RowKit Go.Shelf
set_option linter.unusedVariables false      -- a contract need not use every name

end Go.Proofs.YtpffldfpabglbaaGreatDoor
end

/- A region that draws its order and whose last operation may change what the others read. Of no program. -/
section
namespace Go.Proofs.YtpffldfpabglbaaGreatDoor
open Go.RowKit Go.Shelf

variable {P : Program} {md : Region.Mode} {ops : Array Oper} {Q : Exit → Act → World → Prop} {S : World → Prop}
/-- Whatever order is picked from here on, and S holds behind every operation but the last. -/
def wpAnyT (P : Program) (md : Region.Mode) (ops : Array Oper) (Q : Exit → Act → World → Prop) (S : World → Prop) (t : Nat) : Nat → Array Bool → Act → World → Prop
  | 0, listed, a, w => Region.ready md ops listed = [] ∧ Q .normal a w
  | fuel + 1, listed, a, w =>
    (Region.ready md ops listed = [] → Q .normal a w) ∧
    ∀ i ∈ Region.ready md ops listed, wpOp P ops Q i (fun a' w' => (i = t ∨ S w') ∧ wpAnyT P md ops Q S t fuel (listed.setIfInBounds i true) a' w') a w
theorem wpAny_of_tail {t : Nat} : ∀ (fuel : Nat) (listed : Array Bool) (a : Act) (w : World), wpAnyT P md ops Q S t fuel listed a w → wpAny P md ops Q fuel listed a w
  | 0, _, _, _, h => h
  | fuel + 1, _, _, _, h => ⟨h.1, fun i hi => wpOp_mono (fun a' w' h' => wpAny_of_tail fuel _ a' w' h'.2) (h.2 i hi)⟩
def waitsFor (md : Region.Mode) (ops : Array Oper) (t i : Nat) : Bool := match ops[t]? with
  | some o => o.after.any fun e => Region.binds md e && e.on == i
  | none => true
theorem wpAnyT_first {t i : Nat} {oi : Oper} {v : Value} (hi : ops[i]? = some oi) (ht : waitsFor md ops t i = true) (hsel : ∀ (j : Nat) (o : Oper) cs b, ops[j]? = some o → o.op ≠ .select cs b)
    (hQ : ∀ c a w, Q (.panic c) (a.put oi.dst v) w → Q (.panic c) a w) :
    ∀ (fuel : Nat) (listed : Array Bool) (a : Act) (w : World),
      (∀ j oj, ops[j]? = some oj → j ≠ i → listed.getD j true = false → (∀ e ∈ oj.after, Region.binds md e = true → e.on ≠ i) → oi.apart ops oj = true) →
      i ∈ Region.ready md ops listed → YieldsIf P ops S oi v a → S w →
      wpAnyT P md ops Q S t fuel (listed.setIfInBounds i true) (a.put oi.dst v) w → wpAnyT P md ops Q S t (fuel + 1) listed a w := by
  intro fuel
  induction fuel with
  | zero =>
    intro listed a w _ hr hy hS H
    refine ⟨fun h => (by rw [h] at hr; cases hr), fun j hj => ?_⟩
    by_cases hji : j = i
    · subst hji; exact hy.wpOp hi hS ⟨.inr hS, H⟩
    · have := ready_mono hj hji
      rw [H.1] at this
      cases this
  | succ fuel ih =>
    intro listed a w hfree hr hy hS H
    refine ⟨fun h => (by rw [h] at hr; cases hr), fun j hj => ?_⟩
    by_cases hji : j = i
    · subst hji; exact hy.wpOp hi hS ⟨.inr hS, H⟩
    · have h1 := H.2 j (ready_mono hj hji)
      obtain ⟨hjun, oj, hoj, hall⟩ := mem_ready.1 hj
      have hnot : ∀ e ∈ oj.after, Region.binds md e = true → e.on ≠ i := fun e he hb heq => by
        have h1 := hall e he hb
        have h0 := (mem_ready.1 hr).1
        rw [heq] at h1
        rcases Nat.lt_or_ge i listed.size with h' | h'
        · simp [h'] at h0 h1; rw [h0] at h1; cases h1
        · simp [Array.getElem?_eq_none h'] at h1
      have hjt : j ≠ t := by
        rintro rfl
        unfold waitsFor at ht
        rw [hoj] at ht
        obtain ⟨e, he, hb⟩ := Array.any_eq_true'.1 ht
        rw [Bool.and_eq_true, beq_iff_eq] at hb
        exact hnot e he hb.1 hb.2
      have h2 := wpOp_putIf hoj (hfree j oj hoj hji hjun hnot) (fun cs b => hsel i oi cs b hi) (fun cs b => hsel j oj cs b hoj) hQ hy h1
      have hfree' : ∀ k ok, ops[k]? = some ok → k ≠ i → (listed.setIfInBounds j true).getD k true = false →
          (∀ e ∈ ok.after, Region.binds md e = true → e.on ≠ i) → oi.apart ops ok = true := fun k ok hk hki hun hno => by
        refine hfree k ok hk hki ?_ hno
        by_cases hjk : j = k
        · subst hjk; exact hjun
        · rw [getD_set_ne true hjk] at hun; exact hun
      refine wpOp_mono (fun a' w' h3 => ⟨h3.2.1, ih (listed.setIfInBounds j true) a' w' hfree' (ready_mono hr (Ne.symm hji)) h3.1 (h3.2.1.resolve_left hjt) ?_⟩) h2
      rw [Array.setIfInBounds_comm _ _ hji]
      exact h3.2.2
theorem wpAnyT_take {t i : Nat} {oi : Oper} {v : Value} {fuel : Nat} {listed : Array Bool} {a : Act} {w : World} (hi : ops[i]? = some oi) (ht : waitsFor md ops t i = true)
    (hs : Region.noSelect ops = true) (hf : Region.free md ops listed i = true) (hr : (Region.ready md ops listed).contains i = true)
    (hQ : ∀ c a w, Q (.panic c) (a.put oi.dst v) w → Q (.panic c) a w) (hy : YieldsIf P ops S oi v a) (hS : S w)
    (h : wpAnyT P md ops Q S t fuel (listed.setIfInBounds i true) (a.put oi.dst v) w) : wpAnyT P md ops Q S t (fuel + 1) listed a w :=
  wpAnyT_first hi ht (Region.noSelect_spec hs) hQ fuel listed a w (Region.free_spec hi hf) (by simpa using hr) hy hS h
theorem wpAnyT_done {t : Nat} {listed : Array Bool} {a : Act} {w : World} (hr : Region.ready md ops listed = []) (h : Q .normal a w) :
    ∀ fuel, wpAnyT P md ops Q S t fuel listed a w
  | 0 => ⟨hr, h⟩
  | _ + 1 => ⟨fun _ => h, by rw [hr]; simp⟩
/-- One that comes up now, ahead of the last. -/
theorem oneT {t i : Nat} {o : Oper} {fuel : Nat} {listed : Array Bool} {a : Act} {w : World} (hr : Region.ready md ops listed = [i]) (ho : ops[i]? = some o)
    (h : ∀ K' : Act → World → Prop, (∀ a w, i = t ∨ S w → wpAnyT P md ops Q S t fuel (listed.setIfInBounds i true) a w → K' a w) → if Region.wanted o (yielded ops a.tmps) = true then Oper.wp P o a w K' Q else K' (a.put o.dst undef) w) : wpAnyT P md ops Q S t (fuel + 1) listed a w :=
  ⟨fun h0 => absurd (hr ▸ h0) (by simp), fun j hj => by
    rw [hr] at hj
    obtain rfl : j = i := by simpa using hj
    exact opH ho (fun K' hK => h K' (fun a w q1 q2 => hK a w ⟨q1, q2⟩))⟩
theorem region_roundT {r n id : Nat} {l : List Oper} {a : Act} {w : World} (t : Nat) (S : World → Prop) (hm : P.follows .mixedOrders = true) (hd : l.all notDefer = true)
    (h : wpAnyT P .any l.toArray (NOr Q) S t l.toArray.size (Array.replicate l.toArray.size false) a w.drew) : (Code.region id l.toArray true).wpIn (Fence.wide.inRound r) n P Q a w :=
  wpIn_mono (wpIn_region_any hm (anyRound (fun o ho => List.all_eq_true.1 hd o (by simpa using ho)) _ _ _ _ (wpAny_of_tail _ _ _ _ h))) NOr.imp
end Go.Proofs.YtpffldfpabglbaaGreatDoor
end

/- Heads: what a round holds. -/
section
namespace Go.Proofs.YtpffldfpabglbaaGreatDoor
open Go.RowKit Go.Shelf
set_option linter.unusedVariables false      -- a contract need not use every name

theorem rq_blk {A B : World} {v : Value} {q : List Rq} (h : RqAt A v q) (hk : ∀ a n c j u, v = .slice (some a) n c → q ≠ [] → A.cell? ⟨a.block, j, none⟩ = some u → B.heap[a.block]? = A.heap[a.block]?) : RqAt B v q := by
  by_cases hq : q = []
  · subst hq
    obtain ⟨a, c, e, ⟨_, h⟩ | ⟨b, o, e2, hc⟩⟩ := h
    · exact ⟨a, c, e, .inl ⟨rfl, h⟩⟩
    · subst e2; exact ⟨_, c, e, .inl ⟨rfl, fun q => by cases q⟩⟩
  · obtain ⟨a, c, e, ⟨h, _⟩ | ⟨b, o, e2, hc⟩⟩ := h
    · exact absurd h hq
    · subst e2
      obtain ⟨y, t, hy⟩ := List.exists_cons_of_ne_nil hq
      have h0 : 0 < q.length := by rw [hy]; simp
      have hc0 := hc.cell 0 h0 0 _ rfl
      have hb : B.heap[b]? = A.heap[b]? := hk _ _ _ _ _ e hq hc0
      exact ⟨_, c, e, .inr ⟨b, o, rfl, World.block_lt_of_cell? _ _ ((World.cell?_of_block hb).trans hc0), fun i hi c u hu => (World.cell?_of_block hb).trans (hc.cell i hi c u hu)⟩⟩
theorem HmOk.blk {A B : World} {o : Nat} {u u' : Option Nat} {x : Hm} (h : HmOk A o u x) (hk : ∀ b j z, x.a = some b → x.h.q ≠ [] → A.cell? ⟨b.block, j, none⟩ = some z → B.heap[b.block]? = A.heap[b.block]? ∧ u' ≠ some b.block) : HmOk B o u' x := by
  refine ⟨rq_blk h.rd fun a n c j z e hq hc => (hk a j z (by unfold hmV at e; injection e) hq hc).1, h.cap, h.len, h.new, fun b e hq => ?_⟩
  obtain ⟨a, c, e1, ⟨q1, _⟩ | ⟨b', o', e2, hc⟩⟩ := h.rd
  · exact absurd q1 hq
  · unfold hmV at e1
    rw [e, e2] at e1
    injection e1 with e1 _ _
    injection e1 with e1
    subst e1
    obtain ⟨y, t, hy⟩ := List.exists_cons_of_ne_nil hq
    have h0 : 0 < x.h.q.length := by rw [hy]; simp
    exact (hk _ _ _ e hq (hc.cell 0 h0 0 _ rfl)).2
/-- A round's append, and what else stays. -/
theorem BxI.push2 {α : Type} {P : Program} {ST T sz bytes c : Nat} {row : α → List Value} (E : Elem P ST T sz bytes row) {w : World} {S0 S : Nat → Prop} {v : Value} {pre : List α} {A A1 : World} (h : BxI T sz row w c S0 S v pre A) (hw : w.heap.size ≤ c) (hex : ∀ k, S k → k < A.heap.size) (g : Nw A A1) (x : α) (b cc : Nat) (hx : ∀ j u, (row x)[j]? = some u → A1.cell? ⟨b, j, none⟩ = some u) (hsm : pre.length < 100000)
    {n₀ : Nat} (hD : ∀ k, (k = n₀ ∨ k = n₀ + 1) → ∃ o, A.heap[k]? = some o ∧ o.isCells = false) :
    ∃ v' w1, (Builtin.append_ #[ST, ST] ST #[v, .slice (some ⟨b, 0, none⟩) 1 cc]).run P A1 = .ok v' w1 ∧ (∃ g cap, v' = .slice (some ⟨g, 0, none⟩) (pre.length + 1) cap) ∧ w1.cell? ⟨c, 0, none⟩ = some v ∧ w1.frozen? ⟨c, 0, none⟩ = false ∧
      BxI T sz row w c S0 S v' (pre ++ [x]) (w1.setCell ⟨c, 0, none⟩ v') ∧ KpS S A (w1.setCell ⟨c, 0, none⟩ v') ∧ KpD n₀ A (w1.setCell ⟨c, 0, none⟩ v') ∧
      (∀ k, k < A1.heap.size → v.ownBlock ≠ some k → w1.heap[k]? = A1.heap[k]?) ∧ (v'.ownBlock = v.ownBlock ∨ v'.ownBlock = some A1.heap.size) := by
  have hc := h.lt
  obtain ⟨v', w1, h1, h2, h3, h4, h5⟩ := Own.push E (onw h.own g) x b cc hx hsm (by have := g.sz; omega)
  have hvc : ∀ k, v.ownBlock = some k → c < k := fun k hk => oge h.own hk
  have c1 : w1.cell? ⟨c, 0, none⟩ = some v := by
    have e : w1.heap[c]? = A1.heap[c]? := h3.block c (Nat.lt_of_lt_of_le hc g.sz) (fun q => by have := hvc c q.symm; omega)
    rw [World.cell?_of_block e]; exact g.kp h.cell
  have f1 : w1.frozen? ⟨c, 0, none⟩ = false := by
    have e : w1.heap[c]? = A1.heap[c]? := h3.block c (Nat.lt_of_lt_of_le hc g.sz) (fun q => by have := hvc c q.symm; omega)
    rw [World.frozen?_of_block e]; exact (g.froz hc).trans h.froz
  have hkeep : ∀ k, k < A.heap.size → v.ownBlock ≠ some k → k ≠ c → (w1.setCell ⟨c, 0, none⟩ v').heap[k]? = A.heap[k]? := fun k hk q1 q2 => by
    rw [Below.heap_setCell _ _ _ _ (by simpa using q2), h3.block k (Nat.lt_of_lt_of_le hk g.sz) (fun q => q1 q.symm)]
    exact g.block k hk
  refine ⟨v', w1, h1, h5, c1, f1, ⟨World.cell?_setCell_same _ _ _ c1, by rw [World.frozen?_setCell]; exact f1, own_st h2 (Nat.lt_succ_self c) _, fun k hk => ?_, h.box, h.sub, ?_⟩, ⟨?_, fun k hk => ?_⟩, fun k hk => ?_, fun k hk q => h3.block k hk (fun e => q e.symm), h4⟩
  · rcases h4 with q | q
    · exact h.row k (q ▸ hk)
    · rw [q] at hk
      have := Option.some.inj hk
      have := g.sz
      intro hs
      have := hex k hs
      omega
  · refine ((h.nw.trans g).gro h3 (fun k hk => ?_)).st (p := ⟨c, 0, none⟩) hw v'
    have := hvc k hk
    omega
  · have := h3.size
    have := g.sz
    have e : (w1.setCell ⟨c, 0, none⟩ v').heap.size = w1.heap.size := by simp
    omega
  · exact hkeep k (hex k hk) (fun q => h.row k q hk) (fun q => h.box (q ▸ hk))
  · obtain ⟨o, ho, hno⟩ := hD k hk
    refine hkeep k (hlt ho) (fun q => ?_) (fun q => ?_)
    · obtain ⟨cc, hcc⟩ := oheap h.own q
      rw [hcc] at ho; cases ho; cases hno
    · subst q
      obtain ⟨o', ho', hc'⟩ := cellsB h.cell
      rw [show (⟨k, 0, none⟩ : Addr).block = k from rfl, ho] at ho'; cases ho'; rw [hno] at hc'; cases hc'
/-- What Heads holds between two rounds. -/
structure HdI (w : World) (S0 S : Nat → Prop) (v : Value) (lm : List Hm) (pre : List Hp) (A : World) : Prop where
  bx : BxI 63 4 hmrow w w.heap.size S0 S v lm A
  eq : lm.map Hm.h = pre.map Hp.h
  ok : ∀ x ∈ lm, HmOk A w.heap.size v.ownBlock x ∧ ∀ b, x.a = some b → x.h.q ≠ [] → ¬ S b.block
theorem HdI.step {w A B : World} {n₀ : Nat} {S0 S S' : Nat → Prop} {v : Value} {lm : List Hm} {pre : List Hp} (hn : w.heap.size ≤ n₀) (h : HdI w S0 S v lm pre A) (k : Ch' n₀ (fun k => S k ∧ ¬ S0 k) A B) (h2 : ∀ k, S' k → S k ∨ A.heap.size ≤ k) : HdI w S0 S' v lm pre B := by
  refine ⟨h.bx.step hn k h2, h.eq, fun x hx => ?_⟩
  obtain ⟨h3, h4⟩ := h.ok x hx
  refine ⟨h3.blk fun b j z e hq hc => ⟨chSame (a := ⟨b.block, j, none⟩) k hc (fun q => h4 b e hq q.1), h3.off b e hq⟩, fun b e hq q => ?_⟩
  rcases h2 _ q with q | q
  · exact h4 b e hq q
  · obtain ⟨a, c, e1, ⟨q1, _⟩ | ⟨b', o', e2, hc⟩⟩ := h3.rd
    · exact hq q1
    · unfold hmV at e1
      rw [e, e2] at e1
      injection e1 with e1 _ _
      injection e1 with e1
      subst e1
      have := hc.lt
      have e3 : (⟨b', o', none⟩ : Addr).block = b' := rfl
      omega
/-- A row of heads of the call's own: o is the last block below it. -/
def HdsAt (w : World) (o : Nat) (v : Value) (hs : List Hq) : Prop := ∃ lm : List Hm, HmOwn w (o + 1) v lm ∧ lm.map Hm.h = hs ∧ ∀ x ∈ lm, HmOk w o v.ownBlock x
def HdPost (w : World) (hs : List Hq) (e : Ending) (W : World) : Prop := ∃ v, e = .returned v ∧ HdsAt W w.heap.size v hs ∧ Nw w W
/-- What stays while a head is copied. -/
def HdS (c xp : Nat) (v : Value) (t r W : Int) (a : Option Addr) (n m : Nat) (y : World) : Prop := y.cell? ⟨c, 0, none⟩ = some v ∧ y.cell? ⟨xp, 0, none⟩ = some (.int .i64 t) ∧ y.cell? ⟨xp, 1, none⟩ = some (.int .i64 r) ∧ y.cell? ⟨xp, 2, none⟩ = some (.slice a n m) ∧ y.cell? ⟨xp, 3, none⟩ = some (.int .i64 W)
theorem HdS.nw {c xp : Nat} {v : Value} {t r W : Int} {a : Option Addr} {n m : Nat} {y y' : World} (h : HdS c xp v t r W a n m y) (g : Nw y y') : HdS c xp v t r W a n m y' := ⟨g.kp h.1, g.kp h.2.1, g.kp h.2.2.1, g.kp h.2.2.2.1, g.kp h.2.2.2.2⟩
/-- A round: a head has been copied, its copy appended. -/
theorem HdI.push {w A z : World} {n₀ : Nat} {S0 S : Nat → Prop} {v : Value} {lm : List Hm} {pre : List Hp} (h : HdI w S0 S v lm pre A) (hex : ∀ k, S k → k < A.heap.size) (g : Nw A z) {t r W : Int} {q : List Rq} {x : Hp} (hx : x.h = ⟨t, r, W, q⟩) (hq : q.length ≤ 1000) {a1 : Option Addr} {c1 : Nat} (ho : RqOwn z A.heap.size (.slice a1 q.length c1) q) (hsm : lm.length < 100000)
    (hD : ∀ k, (k = n₀ ∨ k = n₀ + 1) → ∃ o, A.heap[k]? = some o ∧ o.isCells = false) {xp : Nat} {a : Option Addr} {m : Nat} (hxp : xp < w.heap.size) (hS : HdS w.heap.size xp v t r W a q.length m A) :
    ∃ v' w1, (Builtin.append_ #[40, 40] 40 #[v, .slice (some ⟨z.heap.size, 0, none⟩) 1 1]).run Tryz.prog (z.alloc (.cells #[.int .i64 t, .int .i64 r, .slice a1 q.length c1, .int .i64 W] 63)) = .ok v' w1 ∧ (∃ g cap, v' = .slice (some ⟨g, 0, none⟩) (lm.length + 1) cap) ∧ w1.cell? ⟨w.heap.size, 0, none⟩ = some v ∧ w1.frozen? ⟨w.heap.size, 0, none⟩ = false ∧
      HdS w.heap.size xp v t r W a q.length m w1 ∧
      (∃ lm', HdI w S0 S v' lm' (pre ++ [x]) (w1.setCell ⟨w.heap.size, 0, none⟩ v')) ∧ KpS S A (w1.setCell ⟨w.heap.size, 0, none⟩ v') ∧ KpD n₀ A (w1.setCell ⟨w.heap.size, 0, none⟩ v') := by
  have hal := allocAt z (.cells #[.int .i64 t, .int .i64 r, .slice a1 q.length c1, .int .i64 W] 63)
  have g1 : Nw z (z.alloc (.cells #[.int .i64 t, .int .i64 r, .slice a1 q.length c1, .int .i64 W] 63)) := (Nw.refl z).alloc _
  have hsz : (z.alloc (.cells #[.int .i64 t, .int .i64 r, .slice a1 q.length c1, .int .i64 W] 63)).heap.size = z.heap.size + 1 := by simp
  generalize z.alloc (.cells #[.int .i64 t, .int .i64 r, .slice a1 q.length c1, .int .i64 W] 63) = z1 at *
  obtain ⟨v', w1, h1, h2, h3, h4, h5, h6, h7, h8, h9⟩ := h.bx.push2 elemHm (Nat.le_refl _) hex (g.trans g1) (⟨⟨t, r, W, q⟩, a1, c1⟩ : Hm) z.heap.size 1 (fun j u hu => by
    rw [hcell hal]
    simpa [hmrow] using hu) hsm hD
  have hvl : ∀ k, v.ownBlock = some k → k < A.heap.size := fun k e => olt h.bx.own e
  have hvg : ∀ k, v.ownBlock = some k → w.heap.size < k := fun k e => oge h.bx.own e
  have hwA := h.bx.nw.sz
  have hAz := g.sz
  have hcl := h.bx.lt
  have keep : ∀ k, k < z1.heap.size → v.ownBlock ≠ some k → k ≠ w.heap.size → (w1.setCell ⟨w.heap.size, 0, none⟩ v').heap[k]? = z1.heap[k]? := fun k hk q1 q2 => by
    rw [Below.heap_setCell _ _ _ _ (by simpa using q2)]; exact h8 k hk q1
  have sc : ∀ j u, A.cell? ⟨xp, j, none⟩ = some u → w1.cell? ⟨xp, j, none⟩ = some u := fun j u e => by
    have e1 : w1.heap[xp]? = z1.heap[xp]? := h8 xp (by omega) (fun q => by have := hvg _ q; omega)
    rw [World.cell?_of_block e1]
    exact (g.trans g1).kp e
  refine ⟨v', w1, h1, h2, h3, h4, ⟨h3, sc _ _ hS.2.1, sc _ _ hS.2.2.1, sc _ _ hS.2.2.2.1, sc _ _ hS.2.2.2.2⟩, ⟨lm ++ [⟨⟨t, r, W, q⟩, a1, c1⟩], h5, by rw [List.map_append, List.map_append, h.eq]; simp [hx], fun y hy => ?_⟩, h6, h7⟩
  rcases List.mem_append.1 hy with hy | hy
  · obtain ⟨k1, k2⟩ := h.ok y hy
    refine ⟨k1.blk fun b j u e hne hc => ?_, k2⟩
    have hbl : b.block < A.heap.size := World.block_lt_of_cell? _ ⟨b.block, j, none⟩ hc
    have hbn : b.block ≠ w.heap.size := by
      have := k1.new b _ _ (by unfold hmV; rw [e])
      omega
    refine ⟨(keep b.block (by omega) (k1.off b e hne) hbn).trans ((g.trans g1).block _ hbl), ?_⟩
    rcases h9 with q9 | q9
    · rw [q9]; exact k1.off b e hne
    · rw [q9]; intro e9; have := Option.some.inj e9; omega
  · obtain rfl : y = ⟨⟨t, r, W, q⟩, a1, c1⟩ := by simpa using hy
    have hbk : ∀ b, a1 = some b → A.heap.size ≤ b.block ∧ b.block < z.heap.size := fun b e => by
      subst e
      rcases oform ho with ⟨e, _⟩ | ⟨g', cap, e⟩
      · cases e
      · cases e
        exact ⟨oge ho rfl, olt ho rfl⟩
    refine ⟨⟨?_, ?_, hq, fun b n c e => ?_, fun b e hne => ?_⟩, fun b e hne hs => ?_⟩
    · refine rq_blk (Rd.nw (RqOwn.rd ho) g1) fun b n c j u e hne hc => ?_
      unfold hmV at e
      simp only [Value.slice.injEq] at e
      have := hbk b e.1
      exact keep b.block (by omega) (fun q => by have := hvl _ q; omega) (by omega)
    · exact RqOwn.cap ho
    · unfold hmV at e
      simp only [Value.slice.injEq] at e
      have := hbk b e.1
      omega
    · have := hbk b e
      rcases h9 with q9 | q9
      · rw [q9]; intro q; have := hvl _ q; omega
      · rw [q9]; intro e9; have := Option.some.inj e9; omega
    · have := hbk b e
      have := hex _ hs
      omega
end Go.Proofs.YtpffldfpabglbaaGreatDoor
end

/- Heads. -/
section
namespace Go.Proofs.YtpffldfpabglbaaGreatDoor
open Go.RowKit Go.Sort Go.Shelf
set_option linter.unusedVariables false      -- a contract need not use every name
attribute [local go_sem] Oper.semAt_some

set_option maxRecDepth 100000 in
set_option maxHeartbeats 4000000 in
theorem heads_in (n : Nat) (hn : 4 ≤ n) {w : World} {o mb po nn : Nat} {l : List Hp} {L : List Bool} {F : Nat → Prop} (h : Db w o mb po nn l L F) :
    CallsIn Fence.wide n Tryz.prog 104 #[.pointer (some ⟨o, 0, none⟩)] w (HdPost w (hsP l)) := by
  have h1 : 1 ≤ n := by omega
  have hol := h.ol
  have hml := h.map.lt
  have hll := h.len
  have HMd := Lib.hid (bmade_yes o w h.c0)
  have H := Lib.hid h
  refine callsIn_of_wp_marks Tryz.func104 rfl trivial ?_ rfl
  simp only [Tryz.ntmps104, List.size_toArray, List.length_cons, List.length_nil, Nat.reduceAdd, Nat.reduceSub, Array.replicate_succ, Array.replicate_zero, List.push_toArray, List.append_toArray, List.nil_append, List.cons_append]
  clear h
  refine wpIn_wide.2 ?_
  go_wp2_with (go_at_call 115; refine HMd.out.mono ?_; rintro e w' ⟨rfl, rfl⟩)
  obtain ⟨W0, hW0⟩ : ∃ W0, w.alloc (.cells #[.slice none 0 0] 40) = W0 := ⟨_, rfl⟩
  have hnw : Nw w W0 := by rw [← hW0]; exact (Nw.refl w).alloc _
  have hsz : W0.heap.size = w.heap.size + 1 := by rw [← hW0]; simp
  have hA0 : ∃ v lm, HdI w (fun k => k = o ∨ k = mb) (fun k => k = o ∨ k = mb) v lm [] W0 := by
    refine ⟨.slice none 0 0, [], ⟨?_, ?_, World.ownsRow_nil _ _ _ _, fun k e => by simp [Value.ownBlock] at e, fun e => by omega, fun k e => .inl e, hnw⟩, rfl, by simp⟩
    · rw [← hW0]; simp [go_sem]
    · rw [← hW0]; simp [go_sem]
  have hseq := each_in (n - 1) (by omega) o mb l W0 ((H.out.nw hnw).c3) ((H.out.nw hnw).map) H.out.srt (by omega)
  rw [hW0]
  clear hW0 HMd
  refine (wpIn_wide (n := n)).1 ?_
  refine rg_law rfl h1 (gf := 147) (fa := #[.pointer (some ⟨o, 0, none⟩)]) (lb := #[]) rfl trivial e_each (S0 := fun k => k = o ∨ k = mb) (fun k e => by omega) hseq rfl
    (fun S pre A => ∃ v lm, HdI w (fun k => k = o ∨ k = mb) S v lm pre A) (fun _ _ _ _ => False)
    (fun S S' pre A B hi hc e1 e2 _ => by obtain ⟨v, lm, hi⟩ := hi; exact ⟨v, lm, hi.step (by omega) hc e2⟩) (fun _ _ _ _ _ _ h _ _ _ _ => h) hA0 (fun _ => none)
    (fun x bx => { tmps := #[.pointer (some ⟨o, 0, none⟩), undef, .slice none 0 0, .pointer (some ⟨w.heap.size, 0, none⟩), ptP x, .pointer (some ⟨o, 0, none⟩), .bool true, .bool false, .pointer (some ⟨o, 0, none⟩), .func (.func 147) #[.pointer (some ⟨o, 0, none⟩)] #[], ptP x, undef, undef, undef, undef, undef, undef, undef, undef, undef, undef, undef, undef, undef, undef, undef, undef, undef, undef], defers := [] }) ?assign ?body ?done ?stop
  case assign =>
    intro r x A K hK
    simp only [mkB] at hK
    gi_wp2
    exact hK
  case body =>
    intro r S pre x bx A hi hsub hex hnb hbl hnc hcx hpre
    obtain ⟨v, lm, hi⟩ := hi
    have hx : x ∈ l := hpre.subset (by simp)
    have hok := (H.out.nw hi.bx.nw).ok x hx
    have hxw : x.p < w.heap.size := (H.out.ok x hx).lt
    have hHd : HdS w.heap.size x.p v x.h.t x.h.r x.h.W x.a x.h.q.length x.c A := ⟨hi.bx.cell, hok.c0, hok.c1, hok.c2, hok.c3⟩
    have hlm : lm.length < 100000 := by
      have e1 := congrArg List.length hi.eq
      rw [List.length_map, List.length_map] at e1
      have e2 := hpre.length_le
      rw [List.length_append, List.length_singleton] at e2
      omega
    have HCl := Lib.hid (fun w1 (g : Nw A w1) => dClone (hpV x) x.h.q w1 hok.len (hok.rd.nw g))
    have HPu := Lib.hid (fun z (g : Nw A z) a1 c1 (ho : RqOwn z A.heap.size (.slice a1 x.h.q.length c1) x.h.q) => hi.push hex g (x := x) rfl hok.len ho hlm (n₀ := w.heap.size + 1) (fun k e => (hnc k (by rw [hsz]; exact e)).2) hxw hHd)
    unfold hpV at HCl
    obtain ⟨va, vn, vc, hv⟩ : ∃ va vn vc, v = .slice va vn vc := by
      rcases oform hi.bx.own with ⟨e, _⟩ | ⟨g, cap, e⟩
      · exact ⟨_, _, _, e⟩
      · exact ⟨_, _, _, e⟩
    subst hv
    have hcl := hi.bx.lt
    have hsz1 : W0.heap.size = w.heap.size + 1 := hsz
    clear hi hsub hex hnb hbl hnc hcx hpre hok hx hseq hA0 hlm
    obtain ⟨⟨xt, xr, xW, xq⟩, xp, xa, xc⟩ := x
    simp only at HCl HPu hHd hxw
    rw [hsz1]
    gi_wp2_with fail
    refine region_roundT 17 (HdS w.heap.size xp (.slice va vn vc) xt xr xW xa xq.length xc) (by kernel_rfl) (by kernel_rfl) ?_
    change wpAnyT _ _ _ _ _ _ 18 #[false, false, false, false, false, false, false, false, false, false, false, false, false, false, false, false, false, false] _ A.drew
    have hN0 : Nw A A.drew := (Nw.refl A).dr
    have hS0 := hHd.nw hN0
    obtain ⟨y, hy⟩ : ∃ y, A.drew = y := ⟨_, rfl⟩
    rw [hy] at hS0 hN0 ⊢
    clear hy
    refine wpAnyT_take (i := 0) (v := .slice va vn vc) rfl (by kernel_rfl) (by kernel_rfl) (by kernel_rfl) (by kernel_rfl) (fun c a w h => h) (.inl ⟨rfl, fun w hw => by obtain ⟨q0, q1, q2, q3, q4⟩ := hw; go_simp⟩) hS0 ?_
    simp only [Act.put, List.getElem_toArray, List.getElem_cons_zero, List.setIfInBounds_toArray, List.set_cons_zero, List.set_cons_succ]
    refine wpAnyT_take (i := 1) (v := .pointer (some ⟨xp, 0, none⟩)) rfl (by kernel_rfl) (by kernel_rfl) (by kernel_rfl) (by kernel_rfl) (fun c a w h => h) (.inl ⟨rfl, fun w hw => by obtain ⟨q0, q1, q2, q3, q4⟩ := hw; go_simp⟩) hS0 ?_
    simp only [Act.put, List.getElem_toArray, List.getElem_cons_zero, List.getElem_cons_succ, List.setIfInBounds_toArray, List.set_cons_zero, List.set_cons_succ]
    refine wpAnyT_take (i := 2) (v := .pointer (some ⟨xp, 0, none⟩)) rfl (by kernel_rfl) (by kernel_rfl) (by kernel_rfl) (by kernel_rfl) (fun c a w h => h) (.inl ⟨rfl, fun w hw => by obtain ⟨q0, q1, q2, q3, q4⟩ := hw; go_simp⟩) hS0 ?_
    simp only [Act.put, List.getElem_toArray, List.getElem_cons_zero, List.getElem_cons_succ, List.setIfInBounds_toArray, List.set_cons_zero, List.set_cons_succ]
    refine wpAnyT_take (i := 3) (v := .pointer (some ⟨xp, 0, none⟩)) rfl (by kernel_rfl) (by kernel_rfl) (by kernel_rfl) (by kernel_rfl) (fun c a w h => h) (.inl ⟨rfl, fun w hw => by obtain ⟨q0, q1, q2, q3, q4⟩ := hw; go_simp⟩) hS0 ?_
    simp only [Act.put, List.getElem_toArray, List.getElem_cons_zero, List.getElem_cons_succ, List.setIfInBounds_toArray, List.set_cons_zero, List.set_cons_succ]
    refine wpAnyT_take (i := 4) (v := .agg #[.int .i64 xt, .int .i64 xr]) rfl (by kernel_rfl) (by kernel_rfl) (by kernel_rfl) (by kernel_rfl) (fun c a w h => h) (.inl ⟨rfl, fun w hw => by obtain ⟨q0, q1, q2, q3, q4⟩ := hw; go_simp⟩) hS0 ?_
    simp only [Act.put, List.getElem_toArray, List.getElem_cons_zero, List.getElem_cons_succ, List.setIfInBounds_toArray, List.set_cons_zero, List.set_cons_succ]
    refine wpAnyT_take (i := 5) (v := .pointer (some ⟨xp, 0, none⟩)) rfl (by kernel_rfl) (by kernel_rfl) (by kernel_rfl) (by kernel_rfl) (fun c a w h => h) (.inl ⟨rfl, fun w hw => by obtain ⟨q0, q1, q2, q3, q4⟩ := hw; go_simp⟩) hS0 ?_
    simp only [Act.put, List.getElem_toArray, List.getElem_cons_zero, List.getElem_cons_succ, List.setIfInBounds_toArray, List.set_cons_zero, List.set_cons_succ]
    refine wpAnyT_take (i := 6) (v := .pointer (some ⟨xp, 0, none⟩)) rfl (by kernel_rfl) (by kernel_rfl) (by kernel_rfl) (by kernel_rfl) (fun c a w h => h) (.inl ⟨rfl, fun w hw => by obtain ⟨q0, q1, q2, q3, q4⟩ := hw; go_simp⟩) hS0 ?_
    simp only [Act.put, List.getElem_toArray, List.getElem_cons_zero, List.getElem_cons_succ, List.setIfInBounds_toArray, List.set_cons_zero, List.set_cons_succ]
    refine wpAnyT_take (i := 7) (v := .pointer (some ⟨xp, 2, none⟩)) rfl (by kernel_rfl) (by kernel_rfl) (by kernel_rfl) (by kernel_rfl) (fun c a w h => h) (.inl ⟨rfl, fun w hw => by obtain ⟨q0, q1, q2, q3, q4⟩ := hw; go_simp⟩) hS0 ?_
    simp only [Act.put, List.getElem_toArray, List.getElem_cons_zero, List.getElem_cons_succ, List.setIfInBounds_toArray, List.set_cons_zero, List.set_cons_succ]
    refine wpAnyT_take (i := 8) (v := .slice xa xq.length xc) rfl (by kernel_rfl) (by kernel_rfl) (by kernel_rfl) (by kernel_rfl) (fun c a w h => h) (.inl ⟨rfl, fun w hw => by obtain ⟨q0, q1, q2, q3, q4⟩ := hw; go_simp⟩) hS0 ?_
    simp only [Act.put, List.getElem_toArray, List.getElem_cons_zero, List.getElem_cons_succ, List.setIfInBounds_toArray, List.set_cons_zero, List.set_cons_succ]
    refine wpAnyT_take (i := 10) (v := .pointer (some ⟨xp, 0, none⟩)) rfl (by kernel_rfl) (by kernel_rfl) (by kernel_rfl) (by kernel_rfl) (fun c a w h => h) (.inl ⟨rfl, fun w hw => by obtain ⟨q0, q1, q2, q3, q4⟩ := hw; go_simp⟩) hS0 ?_
    simp only [Act.put, List.getElem_toArray, List.getElem_cons_zero, List.getElem_cons_succ, List.setIfInBounds_toArray, List.set_cons_zero, List.set_cons_succ]
    refine wpAnyT_take (i := 11) (v := .pointer (some ⟨xp, 0, none⟩)) rfl (by kernel_rfl) (by kernel_rfl) (by kernel_rfl) (by kernel_rfl) (fun c a w h => h) (.inl ⟨rfl, fun w hw => by obtain ⟨q0, q1, q2, q3, q4⟩ := hw; go_simp⟩) hS0 ?_
    simp only [Act.put, List.getElem_toArray, List.getElem_cons_zero, List.getElem_cons_succ, List.setIfInBounds_toArray, List.set_cons_zero, List.set_cons_succ]
    refine wpAnyT_take (i := 12) (v := .pointer (some ⟨xp, 3, none⟩)) rfl (by kernel_rfl) (by kernel_rfl) (by kernel_rfl) (by kernel_rfl) (fun c a w h => h) (.inl ⟨rfl, fun w hw => by obtain ⟨q0, q1, q2, q3, q4⟩ := hw; go_simp⟩) hS0 ?_
    simp only [Act.put, List.getElem_toArray, List.getElem_cons_zero, List.getElem_cons_succ, List.setIfInBounds_toArray, List.set_cons_zero, List.set_cons_succ]
    refine wpAnyT_take (i := 13) (v := .int .i64 xW) rfl (by kernel_rfl) (by kernel_rfl) (by kernel_rfl) (by kernel_rfl) (fun c a w h => h) (.inl ⟨rfl, fun w hw => by obtain ⟨q0, q1, q2, q3, q4⟩ := hw; go_simp⟩) hS0 ?_
    simp only [Act.put, List.getElem_toArray, List.getElem_cons_zero, List.getElem_cons_succ, List.setIfInBounds_toArray, List.set_cons_zero, List.set_cons_succ]
    refine oneT (i := 9) (by kernel_rfl) rfl (fun K hK => ?_)
    rw [if_pos (by rfl)]
    simp only [List.getElem_toArray, List.getElem_cons_zero, List.getElem_cons_succ]
    go_simp
    refine (HCl.out _ hN0).mono ?_
    rintro e z ⟨v1, rfl, g1, ho1⟩
    obtain ⟨a1, c1, hv1⟩ : ∃ a1 c1, v1 = .slice a1 xq.length c1 := by
      rcases oform ho1 with ⟨e, e2⟩ | ⟨g, cap, e⟩
      · exact ⟨none, 0, by rw [e, e2]⟩
      · exact ⟨_, _, e⟩
    subst hv1
    have hNz := hN0.trans g1
    have hSz := hS0.nw g1
    obtain ⟨v', w1, hr, ⟨gg, cap, hv'⟩, hcc, hff, hSw, hI, hK1, hK2⟩ := HPu.out z hNz a1 c1 (olow ho1 (fun g hg => by have := oge ho1 hg; have := hN0.sz; omega))
    subst hv'
    refine hK _ _ (.inr hSz) ?_
    clear hK K
    refine wpAnyT_take (i := 14) (v := .agg #[.int .i64 xt, .int .i64 xr, .slice a1 xq.length c1, .int .i64 xW]) rfl (by kernel_rfl) (by kernel_rfl) (by kernel_rfl) (by kernel_rfl) (fun c a w h => h) (.inl ⟨rfl, fun w hw => by obtain ⟨q0, q1, q2, q3, q4⟩ := hw; go_simp⟩) hSz ?_
    simp only [Act.put, List.getElem_toArray, List.getElem_cons_zero, List.getElem_cons_succ, List.setIfInBounds_toArray, List.set_cons_zero, List.set_cons_succ]
    refine oneT (i := 15) (by kernel_rfl) rfl (fun K hK => ?_)
    rw [if_pos (by rfl)]
    simp only [List.getElem_toArray, List.getElem_cons_zero, List.getElem_cons_succ]
    go_simp
    refine hK _ _ (.inr (hSz.nw ((Nw.refl z).alloc _))) ?_
    clear hK K
    refine oneT (i := 16) (by kernel_rfl) rfl (fun K hK => ?_)
    refine stp_app (by rfl) (.tmp 11) (.tmp 26) 40 rfl _ _ _ _ rfl rfl hr ?_
    refine hK _ _ (.inr hSw) ?_
    clear hK K
    simp only [Act.put, List.getElem_toArray, List.getElem_cons_zero, List.getElem_cons_succ, List.setIfInBounds_toArray, List.set_cons_zero, List.set_cons_succ]
    have HE := Lib.hid (And.intro hK2 (And.intro hK1 hI))
    have hwl := World.block_lt_of_cell? _ _ hcc
    refine oneT (i := 17) (by kernel_rfl) rfl (fun K hK => ?_)
    rw [if_pos (by rfl)]
    simp only [List.getElem_toArray, List.getElem_cons_zero, List.getElem_cons_succ]
    go_simp
    refine hK _ _ (.inl rfl) ?_
    clear hK K
    refine wpAnyT_done (by kernel_rfl) ?_ _
    change (NOr _ .normal _ _)
    unfold NOr
    exact ⟨HE.out.1, HE.out.2.1, _, HE.out.2.2⟩
  case done =>
    intro D S xs W hD _ hfin hi hK
    subst hfin
    obtain ⟨v, lm, hi⟩ := hi
    have HE : Hid (HdPost w (hsP xs) (.returned v) (W.putObj D (.deferred none))) := by
      have hc : Ch' D (fun k => S k ∧ ¬ (k = o ∨ k = mb)) W (W.putObj D (.deferred none)) := Ch'.put _ (.inl rfl) hK rfl
      have hi2 := hi.step (S' := S) (by omega) hc (fun k e => .inl e)
      exact ⟨v, rfl, ⟨lm, hi2.bx.own, hi2.eq, fun x hx => (hi2.ok x hx).1⟩, hi2.bx.nw⟩
    have hd := hi.bx.cell
    have hf := oform hi.bx.own
    clear hseq hA0 hi
    obtain ⟨va, vn, vc, hv⟩ : ∃ va vn vc, v = .slice va vn vc := by
      rcases hf with ⟨e, _⟩ | ⟨g, cap, e⟩
      · exact ⟨_, _, _, e⟩
      · exact ⟨_, _, _, e⟩
    subst hv
    go_wp2
    refine ⟨by simp, .inl ⟨_, _, rfl, run_takeDeferred hK, ?_⟩⟩
    exact ⟨_, results_tmp (t := 2) rfl _ _ _, HE.out⟩
  case stop =>
    intro D c S pre W _ _ h _
    exact h.elim
theorem heads_d {w : World} {o mb po nn : Nat} {l : List Hp} {L : List Bool} {F : Nat → Prop} (h : Db w o mb po nn l L F) :
    Calls Tryz.prog 104 #[.pointer (some ⟨o, 0, none⟩)] w (HdPost w (hsP l)) := callsIn_wide.1 (heads_in 4 (by omega) h)
end Go.Proofs.YtpffldfpabglbaaGreatDoor
end

/- A pool: New. -/
section
namespace Go.Proofs.YtpffldfpabglbaaGreatDoor
open Go.RowKit
set_option linter.unusedVariables false

theorem infoB : (Tryz.prog.info? 4).map (fun i => (i.zero, i.size, i.bytes)) = some (some (.bool false), 1, 1) := by kernel_rfl
theorem mk_bools (w : World) (N : Nat) (hN : N ≤ 1000) : (Instr.makeSlice 126 (.int .i64 N) (.int .i64 N)).run Tryz.prog w = .ok (.slice (some ⟨w.heap.size, 0, none⟩) N N) (w.alloc (.cells (Array.replicate N (.bool false)) 4)) := by
  obtain ⟨i0, hi, hz0, hz1, hz2⟩ := info_parts infoB
  have h := run_make (P := Tryz.prog) w 126 4 i0 (.bool false) Tryz.underlying126 hi hz0 .i64 .i64 N N (by omega) (Int.le_refl _) (by rw [hz2]; omega) (by omega)
  have e : madeCells (Value.bool false).cells (N * 1) = Array.replicate N (.bool false) := by
    apply Array.ext
    · simp [madeCells]
    · intro j h1 h2
      simp [madeCells, Value.cells, Nat.mod_one]
  rw [h, hz1]
  simp only [Int.toNat_natCast, e]
/-- Between two rounds: the heap has the first k numbers. -/
structure NewI (w : World) (N k : Nat) (v : Value) (l : List Int) (W : World) : Prop where
  nw : Nw w W
  hv : IHv W (w.heap.size + 1) 2 v l
  hs : IHs l (castL (List.range k))
  own : ∀ b, v.ownBlock = some b → w.heap.size + 2 ≤ b
  c0 : W.cell? ⟨w.heap.size + 1, 0, none⟩ = some (.pointer none)
  f0 : W.frozen? ⟨w.heap.size + 1, 0, none⟩ = false
  c1 : W.cell? ⟨w.heap.size + 1, 1, none⟩ = some (.slice (some ⟨w.heap.size, 0, none⟩) N N)
  cs : ∀ i, i < N → W.cell? ⟨w.heap.size, i, none⟩ = some (.bool false) ∧ W.frozen? ⟨w.heap.size, i, none⟩ = false
  sz : w.heap.size + 1 < W.heap.size
theorem newI_start (w : World) (N : Nat) (T U : TypeId) : NewI w N 0 (.slice none 0 0) [] ((w.alloc (.cells (Array.replicate N (.bool false)) T)).alloc (.cells #[.pointer none, .slice (some ⟨w.heap.size, 0, none⟩) N N, .slice none 0 0] U)) := by
  refine ⟨((Nw.refl w).alloc _).alloc _, ⟨by simp [go_sem], by simp [go_sem], IS.nil _, by simp [Value.ownBlock]⟩, IHs.nil, by simp [Value.ownBlock], by simp [go_sem], by simp [go_sem], by simp [go_sem], fun i hi => ?_, by simp⟩
  constructor <;> simp [go_sem, hi]
theorem NewI.step {w W W' : World} {N k : Nat} {v : Value} {l : List Int} (h : NewI w N k v l W) (hp : IPushH W (w.heap.size + 1) 2 v (castL (List.range (k + 1))) W') : ∃ v' l', NewI w N (k + 1) v' l' W' := by
  obtain ⟨g', cap', l', hp, hs, hor, ht, hsd⟩ := hp
  have hsz := h.sz
  have n1 : ¬ IOf (w.heap.size + 1) v w.heap.size := fun e => e.elim (fun e => by omega) (fun e => by have := h.own _ e; omega)
  refine ⟨_, l', nw_tch h.nw ht (fun i e => ?_), hp.v, hs, fun b e => ?_, (hsd 0 (by omega)).1.trans h.c0, (hsd 0 (by omega)).2.trans h.f0, (hsd 1 (by omega)).1.trans h.c1, fun i hi => ⟨(ht.cell (by omega) n1).trans (h.cs i hi).1, (ht.froz (by omega) n1).trans (h.cs i hi).2⟩, by have := ht.size; omega⟩
  · rcases e with e | e
    · omega
    · have := h.own _ e; omega
  · simp [Value.ownBlock] at e
    subst e
    rcases hor with q | q
    · exact h.own _ q.symm
    · omega
/-- What New returns. -/
def PNewP (w : World) (N : Nat) (e : Ending) (W : World) : Prop := ∃ p F, e = .returned (.tuple #[.pointer (some ⟨p, 0, none⟩), .int .i64 0]) ∧ Pol W p (List.replicate N false) F ∧ Nw w W ∧ (∀ k, F k → w.heap.size ≤ k)
theorem NewI.done {w W : World} {N : Nat} {v : Value} {l : List Int} (h : NewI w N N v l W) (hN : N ≤ 128) : PNewP w N (.returned (.tuple #[.pointer (some ⟨w.heap.size + 1, 0, none⟩), .int .i64 0])) (W.setCell ⟨w.heap.size + 1, 0, none⟩ (.pointer (some ⟨w.heap.size + 1, 0, none⟩))) := by
  have t := setCell_at W ⟨w.heap.size + 1, 0, none⟩ (.pointer (some ⟨w.heap.size + 1, 0, none⟩))
  have hsz := h.sz
  have o : ∀ j, j ≠ 0 → (W.setCell ⟨w.heap.size + 1, 0, none⟩ (.pointer (some ⟨w.heap.size + 1, 0, none⟩))).cell? ⟨w.heap.size + 1, j, none⟩ = W.cell? ⟨w.heap.size + 1, j, none⟩ := fun j hj => World.cell?_setCell_other _ _ _ _ (fun r => hj (congrArg Addr.off r).symm)
  refine ⟨w.heap.size + 1, _, rfl, ⟨w.heap.size, v, l, ⟨World.cell?_setCell_same _ _ _ h.c0, by rw [List.length_replicate]; exact (o 1 (by omega)).trans h.c1, fun i hi => ?_, by simp; omega, ?_, by rw [frI_new]; exact h.hs, by omega, fun e => by have := h.own _ e; omega, by rw [List.length_replicate]; exact hN⟩, rfl⟩, nw_tch h.nw t (fun i e => by simp at e; omega), ?_⟩
  · rw [List.length_replicate] at hi
    have e : (List.replicate N false).getD i false = false := by simp [List.getD, hi]
    rw [e]
    exact ⟨(t.cell (by omega) (by simp)).trans (h.cs i hi).1, by rw [World.frozen?_setCell]; exact (h.cs i hi).2⟩
  · refine ⟨(o 2 (by omega)).trans h.hv.hd, by rw [World.frozen?_setCell]; exact h.hv.hf, IS.tch h.hv.row t (fun b e => ?_), h.hv.ne⟩
    have := h.own b e
    simp; omega
  · rintro k (e | e | e)
    · omega
    · omega
    · have := h.own _ e; omega
set_option maxRecDepth 10000 in
set_option maxHeartbeats 1000000 in
theorem pnew_any (N : Nat) (hN : N ≤ 128) (w : World) : Calls Tryz.prog 44 #[.int .i64 N] w (PNewP w N) := by
  have km := fun w => mk_bools w N (by omega)
  have HS := Lib.hid (newI_start w N 4 131)
  have hd : decide (128 < N) = false := by simp; omega
  have hd2 : decide ((128 : Int) < (N : Int)) = false := by simp; omega
  go_enter Tryz.func44, Tryz.ntmps44
  go_wp2
  go_loopw [17] (fun i wr => ∃ k : Nat, k ≤ N ∧ i = .int .i64 k ∧ ∃ v l, Hid (NewI w N k v l wr)) (fun i _ => N - (intOf i).toNat)
  case atStart => exact ⟨0, Nat.zero_le _, rfl, _, _, HS⟩
  case round =>
    obtain ⟨k, hk, rfl, v, l, HI⟩ := hrel
    by_cases hlt : k < N
    · have hp := ihpush_any (w.heap.size + 1) 2 v l (castL (List.range k)) k wr HI.out.hv HI.out.hs (by rw [HI.out.hs.len, castL_range_len]; omega)
      rw [range_ins] at hp
      have HP := Lib.hid hp
      clear hp
      go_wp2_with fail
      refine HP.out.mono ?_
      rintro e w1 ⟨rfl, hw1⟩
      obtain ⟨v', l', hI⟩ := HI.out.step hw1
      have HI' := Lib.hid hI
      clear hw1 hI
      go_wp2
      go_roundw
      case rel => exact ⟨k + 1, by omega, by go_num, v', l', HI'⟩
      case measure => simp [intOf]; omega
    · obtain rfl : k = N := by omega
      have c0 := HI.out.c0
      have f0 := HI.out.f0
      have hz := HI.out.sz
      have HD := Lib.hid (HI.out.done hN)
      go_wp2
      exact bodyPost_ret (v := .tuple #[.pointer (some ⟨w.heap.size + 1, 0, none⟩), .int .i64 0]) (by simp [results, Tryz.results44, go_sem]) rfl HD.out
end Go.Proofs.YtpffldfpabglbaaGreatDoor
end

/- New. -/
section
namespace Go.Proofs.YtpffldfpabglbaaGreatDoor
open Go.RowKit Go.Shelf
set_option linter.unusedVariables false      -- a contract need not use every name

theorem hsL_neg (L : List Bool) : hsL L (-1) = false := by
  cases e : hsL L (-1) with
  | false => rfl
  | true => obtain ⟨i, hi, _⟩ := hsL_at e; omega
/-- What New returns. -/
def DNew (w : World) (po n : Nat) (L : List Bool) (F : Nat → Prop) (e : Ending) (W : World) : Prop := ∃ o mb, e = .returned (.tuple #[.pointer (some ⟨o, 0, none⟩), .int .i64 0]) ∧ Db W o mb po n [] L F ∧ Nw w W ∧ w.heap.size ≤ o ∧ w.heap.size ≤ mb
theorem dnew_made {w : World} {po n : Nat} {L : List Bool} {F : Nat → Prop} (h : Pol w po L F) (T : TypeId) :
    DNew w po n L F (.returned (.tuple #[.pointer (some ⟨w.heap.size + 1, 0, none⟩), .int .i64 0])) ((w.alloc (.map #[] 0)).alloc (.cells #[.pointer (some ⟨w.heap.size + 1, 0, none⟩), .int .i64 n, .pointer (some ⟨po, 0, none⟩), .map (some w.heap.size)] T)) := by
  have hs1 : (w.alloc (.map #[] 0)).heap.size = w.heap.size + 1 := by simp
  have hb := allocAt (w.alloc (.map #[] 0)) (.cells #[.pointer (some ⟨w.heap.size + 1, 0, none⟩), .int .i64 n, .pointer (some ⟨po, 0, none⟩), .map (some w.heap.size)] T)
  rw [hs1] at hb
  have hN : Nw w ((w.alloc (.map #[] 0)).alloc (.cells #[.pointer (some ⟨w.heap.size + 1, 0, none⟩), .int .i64 n, .pointer (some ⟨po, 0, none⟩), .map (some w.heap.size)] T)) := ((Nw.refl w).alloc _).alloc _
  have hM : MapH ((w.alloc (.map #[] 0)).alloc (.cells #[.pointer (some ⟨w.heap.size + 1, 0, none⟩), .int .i64 n, .pointer (some ⟨po, 0, none⟩), .map (some w.heap.size)] T)) w.heap.size [] := (MapH.made w).nw ((Nw.refl _).alloc _)
  generalize (w.alloc (.map #[] 0)).alloc (.cells #[.pointer (some ⟨w.heap.size + 1, 0, none⟩), .int .i64 n, .pointer (some ⟨po, 0, none⟩), .map (some w.heap.size)] T) = z at *
  have hF : ∀ k, F k → k < w.heap.size := h.own
  refine ⟨w.heap.size + 1, w.heap.size, rfl, ⟨?_, ?_, ?_, ?_, hlt hb, fun e => ?_, fun e => ?_, hM, List.Pairwise.nil, by simp, h.nw hN, by simp⟩, hN, Nat.le_succ _, Nat.le_refl _⟩
  · rw [hcell hb]; rfl
  · rw [hcell hb]; rfl
  · rw [hcell hb]; rfl
  · rw [hcell hb]; rfl
  · have := hF _ e; omega
  · have := hF _ e; omega
set_option maxRecDepth 10000 in
set_option maxHeartbeats 1000000 in
theorem new_d {w : World} {po : Nat} {L : List Bool} {F : Nat → Prop} (h : Pol w po L F) (n : Nat) (h1 : 1 ≤ n) (h2 : n ≤ 64) :
    Calls Tryz.prog 45 #[.int .i64 n, .pointer (some ⟨po, 0, none⟩)] w (DNew w po n L F) := by
  have hmm := @run_makeMap Tryz.prog
  have HD := Lib.hid (dnew_made (n := n) h 137)
  obtain ⟨g, v, l, hp, rfl⟩ := h
  have HG := Lib.hid (give_bad hp (-1) (hsL_neg L))
  have d1 : decide ((n : Int) < 1) = false := by simp; omega
  have d2 : decide ((64 : Int) < (n : Int)) = false := by simp; omega
  clear hp h1 h2
  go_enter Tryz.func45, Tryz.ntmps45
  go_wp2_with (go_at_call 95; refine HG.out.mono ?_; rintro e w' ⟨rfl, rfl⟩)
  exact bodyPost_ret (v := .tuple #[.pointer (some ⟨w.heap.size + 1, 0, none⟩), .int .i64 0]) (by simp [results, Tryz.results45, go_sem, *]) rfl HD.out
end Go.Proofs.YtpffldfpabglbaaGreatDoor
end

/- The developers' table in memory: its blocks, what a call of one bucket, a store into the map leave. -/
section
namespace Go.Proofs.YtpffldfpabglbaaGreatDoor
open Go.RowKit
set_option linter.unusedVariables false

structure Cps where
  s : Int
  h : Int
  r : Int
  p : Int
abbrev capV (c : Cps) : Value := .agg #[.int .i64 c.s, .int .i64 c.h, .int .i64 c.r, .int .i64 c.p]
/-- Which bucket has which number. -/
def hvT (ds : List DB) : List (Int × Nat) := ds.flatMap fun d => (allIds (hsP d.l)).map fun id => (id, d.o)
theorem hv_app (a b : List DB) : hvT (a ++ b) = hvT a ++ hvT b := by unfold hvT; rw [List.flatMap_append]
theorem hv_cons (d : DB) (b : List DB) : hvT (d :: b) = ((allIds (hsP d.l)).map fun id => (id, d.o)) ++ hvT b := rfl
theorem hv_mid {ds : List DB} {i : Nat} (hi : i < ds.length) (d : DB) : (hvT (ds.set i d)).Perm (((allIds (hsP d.l)).map fun id => (id, d.o)) ++ hvT (ds.take i ++ ds.drop (i + 1))) := by
  rw [List.set_eq_take_append_cons_drop, if_pos hi, hv_app, hv_cons, hv_app, ← List.append_assoc, ← List.append_assoc]
  exact List.perm_append_comm.append_right _
theorem hv_self {ds : List DB} {i : Nat} (hi : i < ds.length) : (hvT ds).Perm (((allIds (hsP ds[i].l)).map fun id => (id, ds[i].o)) ++ hvT (ds.take i ++ ds.drop (i + 1))) := by
  have := hv_mid hi ds[i]
  rwa [List.set_getElem_self] at this
theorem hv_same {ds : List DB} {i : Nat} (hi : i < ds.length) {l' : List Hp} {mb : Nat} (p : (allIds (hsP l')).Perm (allIds (hsP ds[i].l))) : (hvT (ds.set i ⟨ds[i].o, mb, l'⟩)).Perm (hvT ds) :=
  (hv_mid hi _).trans (((p.map _).append_right _).trans (hv_self hi).symm)
theorem hv_take {ds : List DB} {i : Nat} (hi : i < ds.length) {l' : List Hp} {mb : Nat} {id : Int} (p : (allIds (hsP l')).Perm (id :: allIds (hsP ds[i].l))) : (hvT (ds.set i ⟨ds[i].o, mb, l'⟩)).Perm ((id, ds[i].o) :: hvT ds) := by
  refine (hv_mid hi _).trans (((p.map _).append_right _).trans ?_)
  rw [List.map_cons, List.cons_append]
  exact (hv_self hi).symm.cons _
theorem hv_ids (ds : List DB) : (hvT ds).map Prod.fst = tIds (hssD ds) := by
  unfold hvT tIds hssD
  rw [List.map_flatMap, List.flatMap_map]
  congr 1
  funext d
  rw [List.map_map]
  exact (List.map_congr_left fun _ _ => rfl).trans (List.map_id _)
theorem hv_len (ds : List DB) : (hvT ds).length = (tIds (hssD ds)).length := by rw [← hv_ids, List.length_map]

structure TbM (W : World) (o n : Nat) (C : Cps) (bb cp hb po : Nat) (ds : List DB) (hv : List (Int × Nat)) (L : List Bool) (F : Nat → Prop) : Prop where
  c0 : W.cell? ⟨o, 0, none⟩ = some (ptN o)
  c1 : W.cell? ⟨o, 1, none⟩ = some (.int .i64 C.s)
  c2 : W.cell? ⟨o, 2, none⟩ = some (.int .i64 C.h)
  c3 : W.cell? ⟨o, 3, none⟩ = some (.int .i64 C.r)
  c4 : W.cell? ⟨o, 4, none⟩ = some (.int .i64 C.p)
  c5 : W.cell? ⟨o, 5, none⟩ = some (ptN po)
  c6 : W.cell? ⟨o, 6, none⟩ = some (.slice (some ⟨bb, 0, none⟩) ds.length cp)
  c7 : W.cell? ⟨o, 7, none⟩ = some (.map (some hb))
  row : ∀ i (hi : i < ds.length), W.cell? ⟨bb, i, none⟩ = some (ptN ds[i].o)
  bl : bb < W.heap.size
  map : MapI W hb hv
  db : DtB W po n ds L F
  no : ¬ DtIn ds F o
  nb : ¬ DtIn ds F bb
  nh : ¬ DtIn ds F hb
  ob : bb ≠ hb
/-- All blocks of a table. -/
def TbJ (o bb hb : Nat) (ds : List DB) (F : Nat → Prop) (b : Nat) : Prop := b = o ∨ b = bb ∨ b = hb ∨ DtIn ds F b
section
variable {W W' : World} {o n : Nat} {C : Cps} {bb cp hb po : Nat} {ds : List DB} {hv : List (Int × Nat)} {L L' : List Bool} {F : Nat → Prop}
theorem TbM.ol (h : TbM W o n C bb cp hb po ds hv L F) : o < W.heap.size := World.block_lt_of_cell? _ _ h.c0
theorem TbM.oh (h : TbM W o n C bb cp hb po ds hv L F) : o ≠ hb := h.map.cellne h.c0
theorem TbM.lt (h : TbM W o n C bb cp hb po ds hv L F) : ∀ b, TbJ o bb hb ds F b → b < W.heap.size := by
  rintro b (rfl | rfl | rfl | e)
  · exact h.ol
  · exact h.bl
  · exact h.map.lt
  · exact h.db.lt b e
/-- Blocks that are none of the table's may change. -/
theorem TbM.tch {S : Nat → Prop} (h : TbM W o n C bb cp hb po ds hv L F) (t : Tch S W W') (hS : ∀ b, TbJ o bb hb ds F b → ¬ S b) : TbM W' o n C bb cp hb po ds hv L F := by
  have ho := hS o (.inl rfl)
  have hol := h.ol
  exact ⟨(t.cell hol ho).trans h.c0, (t.cell hol ho).trans h.c1, (t.cell hol ho).trans h.c2, (t.cell hol ho).trans h.c3, (t.cell hol ho).trans h.c4, (t.cell hol ho).trans h.c5, (t.cell hol ho).trans h.c6, (t.cell hol ho).trans h.c7,
    fun i hi => (t.cell h.bl (hS bb (.inr (.inl rfl)))).trans (h.row i hi), Nat.lt_of_lt_of_le h.bl t.size, h.map.tch t (hS hb (.inr (.inr (.inl rfl)))), h.db.tchS t (fun b e => hS b (.inr (.inr (.inr e)))), h.no, h.nb, h.nh, h.ob⟩
theorem TbM.nw (h : TbM W o n C bb cp hb po ds hv L F) (g : Nw W W') : TbM W' o n C bb cp hb po ds hv L F := h.tch (Tch.nw (S := fun _ => False) g) (fun _ _ e => e)
/-- A call of one bucket. -/
theorem TbM.call (h : TbM W o n C bb cp hb po ds hv L F) {i : Nat} (hi : i < ds.length) {l' : List Hp} (d : DbTo W ds[i].o ds[i].mb po n F ds[i].l W' l' L') :
    ∃ F', TbM W' o n C bb cp hb po (ds.set i ⟨ds[i].o, ds[i].mb, l'⟩) hv L' F' ∧ (∀ b, TbJ o bb hb (ds.set i ⟨ds[i].o, ds[i].mb, l'⟩) F' b → TbJ o bb hb ds F b ∨ W.heap.size ≤ b) ∧ Tch (TbJ o bb hb ds F) W W' := by
  obtain ⟨F', h1, h2, h3, h4⟩ := h.db.put hi d
  have hm := List.getElem_mem hi
  have hin := DtB.in_put (w := W) (F := F) (F' := F') hi h2 h4
  have hsub : ∀ b, (b = ds[i].mb ∨ F b) → DtIn ds F b := fun b e => e.elim (fun e => .inr ⟨_, hm, .inr (.inl e)⟩) .inl
  have ho : ¬ (o = ds[i].mb ∨ F o) := fun e => h.no (hsub _ e)
  have hb' : ¬ (bb = ds[i].mb ∨ F bb) := fun e => h.nb (hsub _ e)
  have hh : ¬ (hb = ds[i].mb ∨ F hb) := fun e => h.nh (hsub _ e)
  have hol := h.ol
  have hbl := h.bl
  have hhl := h.map.lt
  refine ⟨F', ⟨(h3.cell hol ho).trans h.c0, (h3.cell hol ho).trans h.c1, (h3.cell hol ho).trans h.c2, (h3.cell hol ho).trans h.c3, (h3.cell hol ho).trans h.c4, (h3.cell hol ho).trans h.c5, by rw [List.length_set]; exact (h3.cell hol ho).trans h.c6, (h3.cell hol ho).trans h.c7,
    fun j hj => ?_, Nat.lt_of_lt_of_le hbl h3.size, h.map.tch h3 hh, h1, fun e => ?_, fun e => ?_, fun e => ?_, h.ob⟩, fun b e => ?_, h3.mono fun b _ e => .inr (.inr (.inr (hsub b e)))⟩
  · rw [List.length_set] at hj
    refine (h3.cell hbl hb').trans ((h.row j hj).trans ?_)
    by_cases q : i = j
    · subst q; rw [List.getElem_set_self]
    · rw [List.getElem_set_ne q]
  · exact (hin _ e).elim h.no (fun q => by omega)
  · exact (hin _ e).elim h.nb (fun q => by omega)
  · exact (hin _ e).elim h.nh (fun q => by omega)
  · rcases e with e | e | e | e
    · exact .inl (.inl e)
    · exact .inl (.inr (.inl e))
    · exact .inl (.inr (.inr (.inl e)))
    · exact (hin b e).imp (fun q => .inr (.inr (.inr q))) id
/-- The map takes a step. -/
theorem TbM.turn (h : TbM W o n C bb cp hb po ds hv L F) {hv' : List (Int × Nat)} (m : MapI W' hb hv') (g : W.mapTurned W' hb) : TbM W' o n C bb cp hb po ds hv' L F ∧ Tch (TbJ o bb hb ds F) W W' := by
  have t := turned_tch g
  have hol := h.ol
  have ho : ¬ (o = hb) := h.oh
  exact ⟨⟨(t.cell hol ho).trans h.c0, (t.cell hol ho).trans h.c1, (t.cell hol ho).trans h.c2, (t.cell hol ho).trans h.c3, (t.cell hol ho).trans h.c4, (t.cell hol ho).trans h.c5, (t.cell hol ho).trans h.c6, (t.cell hol ho).trans h.c7,
    fun i hi => (t.cell h.bl h.ob).trans (h.row i hi), Nat.lt_of_lt_of_le h.bl t.size, m, h.db.tchS t (fun b e q => h.nh (q ▸ e)), h.no, h.nb, h.nh, h.ob⟩, t.mono fun b _ e => .inr (.inr (.inl e))⟩
end
/-- The developers' table: S stripes, n heads in each at most, N numbers, behind k calls; J are all its blocks. -/
def Tab (W : World) (o S n N k : Nat) (C : Cps) (hss : List (List Hq)) (L : List Bool) (J : Nat → Prop) : Prop :=
  ∃ bb cp hb po ds hv F, TbM W o n C bb cp hb po ds hv L F ∧ hv.Perm (hvT ds) ∧ hssD ds = hss ∧ J = TbJ o bb hb ds F ∧ TbOk S n N k hss L
/-- What a call leaves. -/
def TabTo (W : World) (o S n N k : Nat) (C : Cps) (hss : List (List Hq)) (L : List Bool) (J : Nat → Prop) (W' : World) : Prop :=
  ∃ J', Tab W' o S n N k C hss L J' ∧ (∀ b, J' b → J b ∨ W.heap.size ≤ b) ∧ Tch J W W'
section
variable {W W' : World} {o S n N k : Nat} {C : Cps} {hss : List (List Hq)} {L : List Bool} {J : Nat → Prop}
theorem Tab.nw (h : Tab W o S n N k C hss L J) (g : Nw W W') : Tab W' o S n N k C hss L J := by
  obtain ⟨bb, cp, hb, po, ds, hv, F, h1, h2⟩ := h
  exact ⟨bb, cp, hb, po, ds, hv, F, h1.nw g, h2⟩
theorem Tab.tch {Q : Nat → Prop} (h : Tab W o S n N k C hss L J) (t : Tch Q W W') (hS : ∀ b, J b → ¬ Q b) : Tab W' o S n N k C hss L J := by
  obtain ⟨bb, cp, hb, po, ds, hv, F, h1, h2, h3, rfl, h5⟩ := h
  exact ⟨bb, cp, hb, po, ds, hv, F, h1.tch t hS, h2, h3, rfl, h5⟩
theorem Tab.lt (h : Tab W o S n N k C hss L J) : ∀ b, J b → b < W.heap.size := by
  obtain ⟨bb, cp, hb, po, ds, hv, F, h1, h2, h3, rfl, h5⟩ := h
  exact h1.lt
theorem Tab.ok (h : Tab W o S n N k C hss L J) : TbOk S n N k hss L := by
  obtain ⟨bb, cp, hb, po, ds, hv, F, h1, h2, h3, rfl, h5⟩ := h
  exact h5
theorem Tab.to (h : Tab W o S n N k C hss L J) (g : Nw W W') (k' : Nat) (hk : k ≤ k') : TabTo W o S n N k' C hss L J W' := by
  obtain ⟨bb, cp, hb, po, ds, hv, F, h1, h2, h3, rfl, h5⟩ := h
  exact ⟨_, ⟨bb, cp, hb, po, ds, hv, F, h1.nw g, h2, h3, rfl, h5.more hk⟩, fun b e => .inl e, Tch.nw g⟩
theorem TabTo.pre {W1 : World} (g : Nw W W1) (h : TabTo W1 o S n N k C hss L J W') : TabTo W o S n N k C hss L J W' := by
  obtain ⟨J', h1, h2, h3⟩ := h
  exact ⟨J', h1, fun b e => (h2 b e).imp id (fun q => Nat.le_trans g.sz q), (Tch.nw g).trans h3⟩
theorem TabTo.nw {W2 : World} (h : TabTo W o S n N k C hss L J W') (g : Nw W' W2) : TabTo W o S n N k C hss L J W2 := by
  obtain ⟨J', h1, h2, h3⟩ := h
  exact ⟨J', h1.nw g, h2, h3.trans (Tch.nw g)⟩
end
end Go.Proofs.YtpffldfpabglbaaGreatDoor
end
