/- Texts merged: TcH -/
import Derived.Test.YtpffldfpabglbaaGreatDoorTableHoldsB23
import Derived.Deep.CutRange

/- TableHolds: the walk. -/
section
namespace Go.Proofs.YtpffldfpabglbaaGreatDoor.tableHolds
open Go.RowKit Go.Shelf
set_option linter.unusedVariables false      -- a contract need not use every name

set_option maxRecDepth 100000 in
set_option maxHeartbeats 8000000 in
theorem walk (S n N : Nat) (p : Int) (hC : CapsOk ⟨S, n, N, p⟩) (v : Value) (l : List Cl) (w : World) (hl : Rd 6 clrow w v l) (hok : ∀ R ∈ l, Cl.ok R) (h0 : l.length ≤ 50) :
    Calls Tryz.prog 4 #[.agg #[.int .i64 S, .int .i64 n, .int .i64 N, .int .i64 p], v] w fun e w' => e = .returned (.bool true) ∧ Nw w w' := by
  obtain ⟨⟨s1, s2⟩, ⟨n1, n2⟩, ⟨N1, N2⟩, _⟩ := id hC
  simp only at s1 s2 n1 n2 N1 N2
  have HB := Lib.hid (And.intro (show 0 < S ∧ S ≤ 16 by omega) (And.intro (show n ≤ 64 by omega) (And.intro (show N ≤ 128 by omega) h0)))
  have HCo := Lib.hid hC
  have HL := Lib.hid (And.intro hl hok)
  obtain ⟨va, vc, rfl, _⟩ := hl
  have d0 : decide ((50 : Int) < (l.length : Int)) = false := by rw [decide_eq_false_iff_not]; omega
  have ha1 := allocAt w (.cells #[.int .i64 S, .int .i64 n, .int .i64 N, .int .i64 p] 23)
  obtain ⟨z, hz⟩ : ∃ z, w.alloc (.cells #[.int .i64 S, .int .i64 n, .int .i64 N, .int .i64 p] 23) = z := ⟨_, rfl⟩
  have hN0 : Nw w z := by rw [← hz]; exact (Nw.refl w).alloc _
  rw [hz] at ha1
  have HZ := Lib.hid hz
  have HX := Lib.hid (And.intro ha1 hN0)
  clear hz ha1 hN0 hok h0 hC s1 s2 n1 n2 N1 N2
  go_enter Tryz.func4, Tryz.ntmps4
  go_wp2_with fail
  rw [HZ.out]
  refine (lives_t z).mono ?_
  rintro e w1 ⟨rfl, g1⟩
  have HG1 := Lib.hid g1
  have hb1 := g1.at' HX.out.1
  have c0 := hcell (j := 0) hb1
  have c1 := hcell (j := 1) hb1
  have c2 := hcell (j := 2) hb1
  have c3 := hcell (j := 3) hb1
  have cl := hlt hb1
  clear g1 hb1
  have HNe := Lib.hid (ta_new z w1 HG1.out S n N p HCo.out)
  go_wp2_with fail
  refine HNe.out.mono ?_
  rintro e w2 ⟨o, rfl, hT⟩
  have HS := Lib.hid (show TaS z o S n N 0 ⟨S, n, N, p⟩ 0 0 w2 from ⟨_, _, hT⟩)
  clear hT HG1 HNe c0 c1 c2 c3 cl
  go_wp2_with fail
  go_loopw [7] (fun vi wr => ∃ j : Nat, vi = .int .i64 j ∧ j ≤ l.length ∧ Hid (TaS z o S n N j ⟨S, n, N, p⟩ 0 0 wr)) (fun vi _ => l.length - (intOf vi).toNat)
  case atStart => exact ⟨0, rfl, Nat.zero_le _, HS⟩
  case round =>
    clear HS
    obtain ⟨j, rfl, hj, HK⟩ := hrel
    by_cases hjl : j < l.length
    · obtain ⟨a', c', e, ⟨q, _⟩ | ⟨b, ob, e2, hc⟩⟩ := HL.out.1
      · rw [q] at hjl; simp at hjl
      subst e2
      cases e
      have hwj : wrap64 ((j : Int) + 1) = (j : Int) + 1 := by have := HB.out.2.2.2; unfold wrap64; omega
      have hji : (j : Int) < (l.length : Int) := by omega
      obtain ⟨hs0, L0, hba⟩ := HK.out
      have hce := (hc.nw (HX.out.2.trans hba.nw)).cell j hjl
      have hwf := HL.out.2 _ (List.getElem_mem hjl)
      clear hba hc
      generalize l[j] = R at *
      obtain ⟨b0, b1, b2, b3, b4, b5⟩ := R
      have c0 := hce 0 _ rfl
      have c1 := hce 1 _ rfl
      have c2 := hce 2 _ rfl
      have c3 := hce 3 _ rfl
      have c4 := hce 4 _ rfl
      have c5 := hce 5 _ rfl
      simp only [Nat.add_zero] at c0
      have HC := Lib.hid (call_t HK.out (by have := HB.out.2.2.2; omega) HB.out.2.1 HB.out.1.1 HB.out.1.2 b0 b1 b2 b3 b4 b5 hwf.2.2.1)
      clear hce hwf HK
      go_wp2_with fail
      refine HC.out.mono ?_
      rintro e w3 ⟨⟨v3, rfl⟩, hs, _⟩
      have HK := Lib.hid hs
      clear hs HC c0 c1 c2 c3 c4 c5
      go_wp2_with fail
      go_roundw
      case rel => exact ⟨j + 1, congrArg (Value.int .i64) (by first | exact nxU j | exact hwj.trans (nxU j)), hjl, HK⟩
      case measure => first | exact downU l.length j hjl | (rw [hwj]; exact downU l.length j hjl)
    · obtain rfl : j = l.length := by omega
      obtain ⟨hss, L, hT⟩ := HK.out
      have HSn := Lib.hid (ta_snap hT HB.out.1.2 HB.out.2.1)
      have HT := Lib.hid hT
      clear hT HK hj hjl
      go_wp2_with fail
      refine HSn.out.mono ?_
      rintro e y1 ⟨v0, rfl, hh0, g1⟩
      obtain ⟨lm, ⟨⟨a0, c0, rfl, hr0⟩, hq0⟩, he0⟩ := hh0.rd
      have hok := HT.out.ok
      have hN := HB.out.2.2.1
      have hlen : lm.length = (snapT hss).length := by rw [← he0, List.length_map]
      have hlb : lm.length ≤ 128 := by have h1 := hok.snap_len; omega
      have HRn := Lib.hid (fun i (hi : i < lm.length) => rnd hok hN ⟨a0, c0, rfl, hr0⟩ hq0 he0 hi)
      have HLen := Lib.hid hlen
      have HAl := Lib.hid (ta_all (HT.out.step g1) HB.out.1.2 HB.out.2.1)
      have HT1 := Lib.hid (HT.out.step g1)
      have HOk := Lib.hid hok
      clear hh0 g1 hr0 hq0 he0 HSn HT hok hN hlen
      go_wp2_with fail
      refine HAl.out.mono ?_
      rintro e y2 ⟨v1, rfl, hl1, g2⟩
      have hrh := HlOwn.rd hl1
      obtain ⟨t0, t2, e1, _⟩ := id hrh
      subst e1
      obtain ⟨nn, hnn⟩ : ∃ nn, (allT (snapT hss)).length = nn := ⟨_, rfl⟩
      rw [hnn] at hrh
      have HNn := Lib.hid hnn
      have hn1 : nn ≤ 128 := by have := HOk.out.all_len; have := HB.out.2.2.1; omega
      have HHe := Lib.hid (fun i (hi : i < nn) => held_at HOk.out.snap_srt.1 HOk.out.snap_ok hrh hnn (by omega) hi)
      have HT2 := Lib.hid (HT1.out.step g2)
      have HG2 := Lib.hid g2
      have hb2 := HT2.out.nw.at' HX.out.1
      have HC0 := Lib.hid (fun y (g : Nw y2 y) => hcell (j := 0) (g.at' hb2))
      have HC1 := Lib.hid (fun y (g : Nw y2 y) => hcell (j := 1) (g.at' hb2))
      have HC2 := Lib.hid (fun y (g : Nw y2 y) => hcell (j := 2) (g.at' hb2))
      have c0 := hcell (j := 0) hb2
      have cl := hlt hb2
      have HCl := Lib.hid cl
      have km := fun w => mk_ints w S (by have := HB.out.1.2; omega)
      have HM := Lib.hid (is_made y2 S (by have := HB.out.1.2; omega))
      rw [hnn]
      clear hl1 g2 hrh hnn HAl HT1 hb2
      go_wp2_with fail
      clear km c0 cl
      obtain ⟨y3, hy3⟩ : ∃ y3, y2.alloc (.cells (Array.replicate S (.int .i64 0)) 3) = y3 := ⟨_, rfl⟩
      obtain ⟨g, hg⟩ : ∃ g, y2.heap.size = g := ⟨_, rfl⟩
      have HGg := Lib.hid (Nat.le_of_eq hg)
      have HI0 := Lib.hid (show Nw y2 y3 ∧ IS y3 (.slice (some ⟨g, 0, none⟩) S S) (cntsT (snapT hss) S 0) from ⟨by rw [← hy3]; exact (Nw.refl y2).alloc _, by rw [cnts_zero, ← hy3, ← hg]; exact HM.out⟩)
      rw [hy3, hg]
      clear hy3 hg HM
      go_loopw [11, 12, 13] (fun nv hv ii y => ∃ i : Nat, nv = .int .i64 (sumT (snapT hss) i) ∧ hv = .int .i64 (hdT (snapT hss) i) ∧ ii = .int .i64 i ∧ i ≤ lm.length ∧ Hid (Nw y2 y ∧ IS y (.slice (some ⟨g, 0, none⟩) S S) (cntsT (snapT hss) S i))) (fun _ _ ii _ => lm.length - (intOf ii).toNat)
      case atStart => exact ⟨0, rfl, rfl, rfl, Nat.zero_le _, HI0.out⟩
      case round =>
        clear HI0
        obtain ⟨i, rfl, rfl, rfl, hi, HI⟩ := hrel
        by_cases hil : i < lm.length
        · obtain ⟨bb, oo, xt, xr, xW, xa, q, ql, xc, jj, A, e1, hql, hq1, hws, hhd, hh1, hjS, hof, hcs, hca, hA1, hii, hwi, hcl, hcall, hpv, hrq⟩ := HRn.out i hil
          subst e1
          obtain ⟨s0, hs0⟩ : ∃ s0, sumT (snapT hss) i = s0 := ⟨_, rfl⟩
          obtain ⟨s1, hs1⟩ : ∃ s1, sumT (snapT hss) (i + 1) = s1 := ⟨_, rfl⟩
          obtain ⟨d1, hd1⟩ : ∃ d1, hdT (snapT hss) i = d1 := ⟨_, rfl⟩
          rw [hs0, hs1] at hws
          rw [hd1] at hhd hh1
          rw [hs0, hd1]
          have HSt := Lib.hid (show ∀ z, Nw y2 z → Calls Tryz.prog 20 #[.pointer (some ⟨o, 0, none⟩), .agg #[.int .i64 xt, .int .i64 xr]] z fun e W' => e = .returned (.int .i64 (jj : Int)) ∧ Nw z W' from fun z g => by
            have := ta_stripe (HT2.out.step g) xt xr
            rw [hof] at this
            exact this)
          have HCl := Lib.hid hcl
          have HSc := Lib.hid hcall.1
          have HCk := Lib.hid hcall.2
          have HPv := Lib.hid hpv
          have HRq := Lib.hid (And.intro hrq hql)
          have HCn := Lib.hid (And.intro hcs (And.intro hca (And.intro hA1 hjS)))
          have HDn := Lib.hid (And.intro hhd (And.intro hh1 hq1))
          have f0 := hcl.1 _ (HG2.out.trans HI.out.1)
          have f1 := hcl.2.1 _ (HG2.out.trans HI.out.1)
          clear hcl hcall hpv hrq hql hcs hca hA1 hjS hhd hh1 hof hq1 hs0 hd1
          go_wp2_with fail
          refine (HSt.out _ HI.out.1).mono ?_
          rintro e y4 ⟨rfl, g4⟩
          have HI4 := Lib.hid (show Nw y2 y4 ∧ IS y4 (.slice (some ⟨g, 0, none⟩) S S) (cntsT (snapT hss) S i) from ⟨HI.out.1.trans g4, HI.out.2.nw g4⟩)
          have e0 := HCl.out.1 _ (HG2.out.trans HI4.out.1)
          have e1 := HCl.out.2.1 _ (HG2.out.trans HI4.out.1)
          have e2 := HCl.out.2.2.1 _ (HG2.out.trans HI4.out.1)
          have e3 := HCl.out.2.2.2 _ (HG2.out.trans HI4.out.1)
          clear f0 f1 g4 HSt HI
          go_wp2_with fail
          refine (HSc.out _ (HG2.out.trans HI4.out.1)).mono ?_
          rintro e y5 ⟨u4, n4, u5, n5, rfl, g5⟩
          obtain ⟨wq, hwq⟩ : ∃ wq, y5.alloc (.cells #[.int .i64 xt, .int .i64 xr, .slice u4 ql n4, .int .i64 xW] 63) = wq := ⟨_, rfl⟩
          have HWq := Lib.hid hwq
          have gq : Nw y4 wq := g5.trans (by rw [← hwq]; exact (Nw.refl y5).alloc _)
          have HQ := Lib.hid (show Nw y2 wq ∧ IS wq (.slice (some ⟨g, 0, none⟩) S S) (cntsT (snapT hss) S i) from ⟨HI4.out.1.trans gq, HI4.out.2.nw gq⟩)
          clear hwq gq g5 HSc HI4 e0 e1 e2 e3
          go_upto_region 20 with fail
          rw [HWq.out]
          have dn := ngN jj
          have dS := geN HCn.out.2.2.2
          have dS2 := geM HCn.out.2.2.2
          go_cut [116] from 56 to 152 (fun c wx => c = .bool false ∧ Nw wq wx)
          case first =>
            have hne : Nonempty (Wd (fun z => Nw wq z)) := ⟨⟨_, Nw.refl _⟩⟩
            have C0 := fun (d : Wd (fun z => Nw wq z)) => HCl.out.1 _ (HG2.out.trans (HQ.out.1.trans d.h))
            have C1 := fun (d : Wd (fun z => Nw wq z)) => HCl.out.2.1 _ (HG2.out.trans (HQ.out.1.trans d.h))
            have C2 := fun (d : Wd (fun z => Nw wq z)) => HCl.out.2.2.1 _ (HG2.out.trans (HQ.out.1.trans d.h))
            have C3 := fun (d : Wd (fun z => Nw wq z)) => HCl.out.2.2.2 _ (HG2.out.trans (HQ.out.1.trans d.h))
            have K0 := fun (d : Wd (fun z => Nw wq z)) => HC0.out _ (HQ.out.1.trans d.h)
            rcases HPv.out with dk | ⟨k', t', r', dk, hwm, hwm2, hki', hpc, hcm⟩
            · have dk2 : decide (0 < i) = false := by simpa using dk
              go_wp2_with fail
              try dsimp only [List.append]
              refine region_in' (fun z => Nw wq z) (by kernel_rfl) (by kernel_rfl) (by kernel_rfl) (Nw.refl wq).dr ?_
              repeat (first | go_big_quiet_step ((exact quietN (fun a b h g => h.trans g) (HCk.out _ (HG2.out.trans (HQ.out.1.trans (Wd.h _)))))) | quiet_step ((exact quietN (fun a b h g => h.trans g) (HCk.out _ (HG2.out.trans (HQ.out.1.trans (Wd.h _)))))))
              refine wpQuiet_nil ?_
              intro d
              go_wp2
              go_meet
              exact ⟨rfl, d.h⟩
            · have dk2 : decide (0 < i) = true := by simpa using dk
              have P0 := fun (d : Wd (fun z => Nw wq z)) => (hpc _ (HG2.out.trans (HQ.out.1.trans d.h))).1
              have P1 := fun (d : Wd (fun z => Nw wq z)) => (hpc _ (HG2.out.trans (HQ.out.1.trans d.h))).2
              have HCm := Lib.hid hcm
              clear hpc hcm
              go_wp2_with fail
              try dsimp only [List.append]
              refine region_in' (fun z => Nw wq z) (by kernel_rfl) (by kernel_rfl) (by kernel_rfl) (Nw.refl wq).dr ?_
              repeat (first | go_big_quiet_step ((first | exact quietN (fun a b h g => h.trans g) (HCk.out _ (HG2.out.trans (HQ.out.1.trans (Wd.h _)))) | exact quietN (fun a b h g => h.trans g) (HCm.out _ (HG2.out.trans (HQ.out.1.trans (Wd.h _)))))) | quiet_step ((first | exact quietN (fun a b h g => h.trans g) (HCk.out _ (HG2.out.trans (HQ.out.1.trans (Wd.h _)))) | exact quietN (fun a b h g => h.trans g) (HCm.out _ (HG2.out.trans (HQ.out.1.trans (Wd.h _)))))))
              refine wpQuiet_nil ?_
              intro d
              go_wp2
              go_meet
              exact ⟨rfl, d.h⟩
          case rest =>
            obtain ⟨rfl, gc⟩ := hcut
            have hQ2 := HQ.out.2.nw gc
            have hm0 := hQ2.cell jj (by rw [cnts_len]; exact HCn.out.2.2.2)
            rw [HCn.out.2.1] at hm0
            have hmf := hQ2.frozen jj
            have hml := hQ2.glt
            have hmS := ltS HCn.out.2.2.2
            have hwA := wrapB HCn.out.2.2.1
            have HQ2 := Lib.hid (show Nw y2 (wc.setCell ⟨g, jj, none⟩ (.int .i64 ((A : Int) + 1))) ∧ IS (wc.setCell ⟨g, jj, none⟩ (.int .i64 ((A : Int) + 1))) (.slice (some ⟨g, 0, none⟩) S S) (cntsT (snapT hss) S (i + 1)) from ⟨Below.setCell (p := ⟨g, jj, none⟩) (HQ.out.1.trans gc) HGg.out _, by have := hQ2.set jj ((A : Int) + 1); rw [HCn.out.1] at this; exact this⟩)
            clear gc hQ2 HPv HCk HWq HQ dn dS dS2
            go_upto_region 23 with fail
            obtain ⟨y8, hy8⟩ : ∃ y8, wc.setCell ⟨g, jj, none⟩ (.int .i64 ((A : Int) + 1)) = y8 := ⟨_, rfl⟩
            rw [hy8] at HQ2 ⊢
            have f2 := HCl.out.2.2.1 _ (HG2.out.trans HQ2.out.1)
            clear hy8 hm0 hmf hml hmS
            go_wp2_with fail
            clear f2
            go_loopw [12, 17] (fun hv jv y => ∃ jq : Nat, hv = .int .i64 ((d1 + hdQ q jq : Nat) : Int) ∧ jv = .int .i64 jq ∧ jq ≤ ql ∧ Hid (Nw y8 y)) (fun _ jv _ => ql - (intOf jv).toNat)
            case atStart => exact ⟨0, rfl, rfl, Nat.zero_le _, Nw.refl _⟩
            case round =>
              obtain ⟨jq, rfl, rfl, hjq, HG⟩ := hrel
              have f2 := HCl.out.2.2.1 _ (HG2.out.trans (HQ2.out.1.trans HG.out))
              by_cases hjl2 : jq < ql
              · obtain ⟨b', o', md, e1, hmd, hhq⟩ := rq_at HRq.out.1 HRq.out.2 hjl2
                subst e1
                have m2 := hmd _ (HG2.out.trans (HQ2.out.1.trans HG.out))
                have hjqi := ltS hjl2
                have hwq := wrapS hjl2 (Nat.le_trans HDn.out.2.2 (by decide))
                obtain ⟨D, hD⟩ : ∃ D, d1 + hdQ q jq = D := ⟨_, rfl⟩
                have hwd : wrap64 ((D : Int) + 1) = ((D + 1 : Nat) : Int) := wrapA (dLe hD HDn.out.2.1 (HRq.out.2 ▸ hq_le q jq) HDn.out.2.2) (by decide)
                rw [hD]
                have HHq := Lib.hid hhq
                have HD := Lib.hid hD
                clear hmd hhq hD
                cases hz : (md == 0)
                · rw [hz] at HHq
                  go_wp2_with fail
                  go_roundw
                  case rel => exact ⟨jq + 1, congrArg (Value.int .i64) (by first | (rw [HHq.out, ← HD.out]; rfl) | (rw [hwd, HHq.out, ← HD.out]; rfl)), congrArg (Value.int .i64) (by first | exact nxU jq | exact hwq.trans (nxU jq)), hjl2, HG⟩
                  case measure => first | exact downU ql jq hjl2 | (rw [hwq]; exact downU ql jq hjl2)
                · rw [hz] at HHq
                  go_wp2_with fail
                  go_roundw
                  case rel => exact ⟨jq + 1, congrArg (Value.int .i64) (by rw [HHq.out, ← HD.out]; rfl), congrArg (Value.int .i64) (by first | exact nxU jq | exact hwq.trans (nxU jq)), hjl2, HG⟩
                  case measure => first | exact downU ql jq hjl2 | (rw [hwq]; exact downU ql jq hjl2)
              · obtain rfl : jq = ql := Nat.le_antisymm hjq (Nat.le_of_not_lt hjl2)
                rw [← HDn.out.1]
                have HI9 := Lib.hid (show Nw y2 wr ∧ IS wr (.slice (some ⟨g, 0, none⟩) S S) (cntsT (snapT hss) S (i + 1)) from ⟨HQ2.out.1.trans HG.out, HQ2.out.2.nw HG.out⟩)
                clear HG HQ2 HRq HCl
                go_wp2_with fail
                go_roundw
                case rel => exact ⟨i + 1, congrArg (Value.int .i64) (by first | exact congrArg (Nat.cast (R := Int)) hs1.symm | exact hws.trans (congrArg (Nat.cast (R := Int)) hs1.symm)), rfl, congrArg (Value.int .i64) (by first | exact nxU i | exact hwi.trans (nxU i)), hil, HI9.out⟩
                case measure => first | exact downU lm.length i hil | (rw [hwi]; exact downU lm.length i hil)
        · obtain rfl : i = lm.length := Nat.le_antisymm hi (Nat.le_of_not_lt hil)
          obtain ⟨sn, hsn⟩ : ∃ sn, sumT (snapT hss) lm.length = sn := ⟨_, rfl⟩
          obtain ⟨hn, hhn⟩ : ∃ hn, hdT (snapT hss) lm.length = hn := ⟨_, rfl⟩
          have HSn := Lib.hid (show sn = liv L by rw [← hsn, HLen.out]; exact sum_end HOk.out)
          have HHn := Lib.hid (show hn = nn by rw [← hhn, ← HNn.out, HLen.out, (all_perm HOk.out.snap_srt.1 HOk.out.snap_ok).length_eq]; unfold hdT; rw [List.take_length])
          have HCt := Lib.hid (fun kk (hk : kk < S) => show (cntsT (snapT hss) S lm.length).getD kk 0 = (cntA (snapT hss) S lm.length kk : Int) ∧ cntA (snapT hss) S lm.length kk ≤ n from ⟨cnts_at hk, by rw [HLen.out]; exact cnt_end HOk.out hk⟩)
          have f0 := HC0.out _ HI.out.1
          rw [hsn, hhn]
          clear hsn hhn HRn hi hil
          go_wp2_with fail
          clear f0
          go_loopw [18] (fun kv y => ∃ kk : Nat, kv = .int .i64 kk ∧ kk ≤ S ∧ Hid (Nw y2 y ∧ IS y (.slice (some ⟨g, 0, none⟩) S S) (cntsT (snapT hss) S lm.length))) (fun kv _ => S - (intOf kv).toNat)
          case atStart => exact ⟨0, rfl, Nat.zero_le _, HI.out⟩
          case round =>
            clear HI
            obtain ⟨kk, rfl, hk, HI⟩ := hrel
            have f0 := HC0.out _ HI.out.1
            by_cases hkl : kk < S
            · have f1 := HC1.out _ HI.out.1
              have hm0 := HI.out.2.cell kk (by rw [cnts_len]; exact hkl)
              obtain ⟨hc1, hc2⟩ := HCt.out kk hkl
              rw [hc1] at hm0
              obtain ⟨B, hB⟩ : ∃ B, cntA (snapT hss) S lm.length kk = B := ⟨_, rfl⟩
              rw [hB] at hm0 hc2
              have dB := ltB hc2
              have dB2 := ltC hc2
              have hki := ltS hkl
              have hwk := wrapS hkl (Nat.le_trans HB.out.1.2 (by decide))
              clear hc1 hc2 hB
              go_wp2_with fail
              go_quiet (fail)
              go_wp2
              go_roundw
              case rel => exact ⟨kk + 1, congrArg (Value.int .i64) (by first | exact nxU kk | exact hwk.trans (nxU kk)), hkl, (Nw.drewN HI.out.1 _), (HI.out.2.nw ((Nw.refl _).drewN _))⟩
              case measure => first | exact downU S kk hkl | (rw [hwk]; exact downU S kk hkl)
            · obtain rfl : kk = S := Nat.le_antisymm hk (Nat.le_of_not_lt hkl)
              have HG := Lib.hid HI.out.1
              clear HI HCt hk hkl
              go_wp2_with fail
              clear f0
              go_loopw [19] (fun iv y => ∃ i : Nat, iv = .int .i64 i ∧ i ≤ nn ∧ Hid (Nw y2 y)) (fun iv _ => nn - (intOf iv).toNat)
              case atStart => exact ⟨0, rfl, Nat.zero_le _, HG⟩
              case round =>
                clear HG
                obtain ⟨i, rfl, hi, HG⟩ := hrel
                by_cases hil : i < nn
                · obtain ⟨bb, oo, xx, xt, xr, xm, e1, h0, h1, h2, h3, hpv, hev⟩ := HHe.out i hil
                  subst e1
                  have HCl := Lib.hid (And.intro h0 (And.intro h1 (And.intro h2 h3)))
                  have HPv := Lib.hid hpv
                  have HEv := Lib.hid hev
                  have hii := ltS hil
                  have hwi := wrapS hil (Nat.le_trans hn1 (by decide))
                  clear h0 h1 h2 h3 hpv hev
                  go_wp2_with fail
                  go_cut [216] from 166 to 246 (fun c wx => c = .bool false ∧ Nw wr wx)
                  case first =>
                    have hne : Nonempty (Wd (fun z => Nw wr z)) := ⟨⟨_, Nw.refl _⟩⟩
                    have C0 := fun (d : Wd (fun z => Nw wr z)) => HCl.out.1 _ (HG.out.trans d.h)
                    have C1 := fun (d : Wd (fun z => Nw wr z)) => HCl.out.2.1 _ (HG.out.trans d.h)
                    have C2 := fun (d : Wd (fun z => Nw wr z)) => HCl.out.2.2.1 _ (HG.out.trans d.h)
                    rcases HPv.out with dk | ⟨k', x', t', r', dk, hwm, hwm2, hki', hpc, d1, d2 | ⟨d2, hcm⟩⟩
                    · have dk2 : decide (0 < i) = false := by simpa using dk
                      go_wp2_with fail
                      try dsimp only [List.append]
                      refine region_in' (fun z => Nw wr z) (by kernel_rfl) (by kernel_rfl) (by kernel_rfl) (Nw.refl wr).dr ?_
                      repeat (first | go_big_quiet_step (fail) | quiet_step (fail))
                      refine wpQuiet_nil ?_
                      intro d
                      go_wp2
                      go_meet
                      exact ⟨rfl, d.h⟩
                    · have dk2 : decide (0 < i) = true := by simpa using dk
                      have P0 := fun (d : Wd (fun z => Nw wr z)) => (hpc _ (HG.out.trans d.h)).1
                      have P1 := fun (d : Wd (fun z => Nw wr z)) => (hpc _ (HG.out.trans d.h)).2.1
                      have P2 := fun (d : Wd (fun z => Nw wr z)) => (hpc _ (HG.out.trans d.h)).2.2
                      clear hpc
                      go_wp2_with fail
                      try dsimp only [List.append]
                      refine region_in' (fun z => Nw wr z) (by kernel_rfl) (by kernel_rfl) (by kernel_rfl) (Nw.refl wr).dr ?_
                      repeat (first | go_big_quiet_step (fail) | quiet_step (fail))
                      refine wpQuiet_nil ?_
                      intro d
                      go_wp2
                      go_meet
                      exact ⟨rfl, d.h⟩
                    · have dk2 : decide (0 < i) = true := by simpa using dk
                      have P0 := fun (d : Wd (fun z => Nw wr z)) => (hpc _ (HG.out.trans d.h)).1
                      have P1 := fun (d : Wd (fun z => Nw wr z)) => (hpc _ (HG.out.trans d.h)).2.1
                      have P2 := fun (d : Wd (fun z => Nw wr z)) => (hpc _ (HG.out.trans d.h)).2.2
                      have HCm := Lib.hid hcm
                      clear hpc hcm
                      go_wp2_with fail
                      try dsimp only [List.append]
                      refine region_in' (fun z => Nw wr z) (by kernel_rfl) (by kernel_rfl) (by kernel_rfl) (Nw.refl wr).dr ?_
                      repeat (first | go_big_quiet_step ((exact quietN (fun a b h g => h.trans g) (HCm.out _ (HG.out.trans (Wd.h _))))) | quiet_step ((exact quietN (fun a b h g => h.trans g) (HCm.out _ (HG.out.trans (Wd.h _))))))
                      refine wpQuiet_nil ?_
                      intro d
                      go_wp2
                      go_meet
                      exact ⟨rfl, d.h⟩
                  case rest =>
                    obtain ⟨rfl, gc⟩ := hcut
                    have HG5 := Lib.hid (HG.out.trans gc)
                    clear gc HPv HG
                    go_wp2_with fail
                    go_loopw [20] (fun jv y => ∃ j : Nat, jv = .int .i64 j ∧ j ≤ i ∧ Hid (Nw y2 y)) (fun jv _ => i - (intOf jv).toNat)
                    case atStart => exact ⟨0, rfl, Nat.zero_le _, HG5⟩
                    case round =>
                      clear HG5
                      obtain ⟨j, rfl, hj, HG⟩ := hrel
                      by_cases hjl : j < i
                      · obtain ⟨t', r', m', h1, h2, h3, hjn, hji, hwj, hcase⟩ := HEv.out j hjl
                        have hne : Nonempty (Wd (fun z => Nw wr z)) := ⟨⟨_, Nw.refl _⟩⟩
                        have C1 := fun (d : Wd (fun z => Nw wr z)) => HCl.out.2.1 _ (HG.out.trans d.h)
                        have C2 := fun (d : Wd (fun z => Nw wr z)) => HCl.out.2.2.1 _ (HG.out.trans d.h)
                        have C3 := fun (d : Wd (fun z => Nw wr z)) => HCl.out.2.2.2 _ (HG.out.trans d.h)
                        have D1 := fun (d : Wd (fun z => Nw wr z)) => h1 _ (HG.out.trans d.h)
                        have D2 := fun (d : Wd (fun z => Nw wr z)) => h2 _ (HG.out.trans d.h)
                        have D3 := fun (d : Wd (fun z => Nw wr z)) => h3 _ (HG.out.trans d.h)
                        have HCp := Lib.hid (fun z => r1comp m' xm z)
                        clear h1 h2 h3
                        rcases hcase with h | ⟨rfl, h⟩ | ⟨rfl, rfl, hc⟩
                        · have dt : (t' == xt) = false := beq_eq_false_iff_ne.2 h
                          go_wp2_with fail
                          refine region_in (fun z => Nw wr z) (by kernel_rfl) (by kernel_rfl) (Nw.refl wr).dr ?_
                          repeat (first | go_big_quiet_step ((exact quietN (fun a b h g => h.trans g) (HCp.out _))) | quiet_step ((exact quietN (fun a b h g => h.trans g) (HCp.out _))))
                          refine wpQuiet_nil ?_
                          intro d
                          go_wp2
                          go_roundw
                          case rel => exact ⟨j + 1, congrArg (Value.int .i64) (by first | exact nxU j | exact hwj.trans (nxU j)), hjl, HG.out.trans d.h⟩
                          case measure => first | exact downU i j hjl | (rw [hwj]; exact downU i j hjl)
                        · have dt : (r' == xr) = false := beq_eq_false_iff_ne.2 h
                          go_wp2_with fail
                          refine region_in (fun z => Nw wr z) (by kernel_rfl) (by kernel_rfl) (Nw.refl wr).dr ?_
                          repeat (first | go_big_quiet_step ((exact quietN (fun a b h g => h.trans g) (HCp.out _))) | quiet_step ((exact quietN (fun a b h g => h.trans g) (HCp.out _))))
                          refine wpQuiet_nil ?_
                          intro d
                          go_wp2
                          go_roundw
                          case rel => exact ⟨j + 1, congrArg (Value.int .i64) (by first | exact nxU j | exact hwj.trans (nxU j)), hjl, HG.out.trans d.h⟩
                          case measure => first | exact downU i j hjl | (rw [hwj]; exact downU i j hjl)
                        · rw [hc] at HCp
                          go_wp2_with fail
                          refine region_in (fun z => Nw wr z) (by kernel_rfl) (by kernel_rfl) (Nw.refl wr).dr ?_
                          repeat (first | go_big_quiet_step ((exact quietN (fun a b h g => h.trans g) (HCp.out _))) | quiet_step ((exact quietN (fun a b h g => h.trans g) (HCp.out _))))
                          refine wpQuiet_nil ?_
                          intro d
                          go_wp2
                          go_roundw
                          case rel => exact ⟨j + 1, congrArg (Value.int .i64) (by first | exact nxU j | exact hwj.trans (nxU j)), hjl, HG.out.trans d.h⟩
                          case measure => first | exact downU i j hjl | (rw [hwj]; exact downU i j hjl)
                      · obtain rfl : j = i := Nat.le_antisymm hj (Nat.le_of_not_lt hjl)
                        clear HCl HEv
                        go_wp2_with fail
                        go_roundw
                        case rel => exact ⟨j + 1, congrArg (Value.int .i64) (by first | exact nxU j | exact hwi.trans (nxU j)), hil, HG⟩
                        case measure => first | exact downU nn j hil | (rw [hwi]; exact downU nn j hil)
                · obtain rfl : i = nn := Nat.le_antisymm hi (Nat.le_of_not_lt hil)
                  have hct := ta_counts (HT2.out.step HG.out) HB.out.1.2 HB.out.2.1
                  rw [cnt_tab HOk.out, ← HLen.out, ← HSn.out] at hct
                  have HCt := Lib.hid hct
                  have dN : decide ((sn : Int) ≤ (N : Int)) = true := by rw [decide_eq_true_eq, HSn.out]; exact leS HOk.out.liv_le
                  have dN2 : decide (sn ≤ N) = true := by rw [decide_eq_true_eq, HSn.out]; exact HOk.out.liv_le
                  rw [HHn.out]
                  clear hct hi hil
                  go_wp2_with fail
                  refine HCt.out.mono ?_
                  rintro e y9 ⟨rfl, g9⟩
                  have f2 := HC2.out _ (HG.out.trans g9)
                  have HE := Lib.hid (HX.out.2.trans (HT2.out.nw.trans (HG.out.trans g9)))
                  clear g9 HCt HG HHe
                  go_wp2_with fail
                  go_ret
                  exact ⟨rfl, HE.out⟩
end Go.Proofs.YtpffldfpabglbaaGreatDoor.tableHolds
end
