/- Texts merged: BeG -/
import Derived.Test.YtodnlelnpidliaaGreatBucketHoldsB27
import Derived.Deep.CutRange

/- BucketHolds: the walk. -/
section
namespace Go.Proofs.YtodnlelnpidliaaGreat.bucketHolds
open Go.RowKit Go.Shelf
set_option linter.unusedVariables false

theorem nx1 (k : Nat) : (k : Int) + 1 = ((k + 1 : Nat) : Int) := rfl
theorem down (a b : Nat) (h : b < a) : a - (intOf (.int .i64 ((b : Int) + 1))).toNat < a - (intOf (.int .i64 (b : Int))).toNat := by
  show a - ((b : Int) + 1).toNat < a - (b : Int).toNat
  omega
set_option maxRecDepth 100000 in
set_option maxHeartbeats 8000000 in
theorem walk (i0 i1 : Int) (n N : Nat) (e0 : 1 + i0 % 5 = n) (e1 : i1 % 12 = N) (h1 : 1 ≤ n) (h4 : n ≤ 5) (hN : N < 12) (v : Value) (l : List Cl) (w : World) (hl : Rd 6 clrow w v l) (hok : ∀ R ∈ l, Cl.ok R) (h0 : l.length ≤ 50) :
    Calls Tryz.prog 4 #[.int .i64 i0, .int .i64 i1, v] w fun e w' => e = .returned (.bool true) ∧ Nw w w' := by
  have HL := Lib.hid (And.intro hl hok)
  obtain ⟨va, vc, rfl, _⟩ := hl
  have d0 : decide ((50 : Int) < (l.length : Int)) = false := by rw [decide_eq_false_iff_not]; omega
  obtain ⟨x0, hx0⟩ : ∃ x, i0 % 5 = x := ⟨_, rfl⟩
  have hw0 : wrap64 (1 + x0) = (n : Int) := by rw [hx0] at e0; rw [e0]; unfold wrap64; omega
  have HP0 := Lib.hid (fun W => pick_any i0 5 W (by omega) (by omega))
  have HP1 := Lib.hid (fun W => pick_any i1 12 W (by omega) (by omega))
  rw [hx0] at HP0
  rw [e1] at HP1
  have HB := Lib.hid (And.intro h1 (And.intro h4 (And.intro hN h0)))
  clear hok e0 e1 hx0 h1 h4 hN h0
  go_enter Tryz.func4, Tryz.ntmps4
  go_wp2_with fail
  refine (lives_b w).mono ?_
  rintro e w1 ⟨rfl, g1⟩
  have HG1 := Lib.hid g1
  clear g1
  go_wp2_with (go_at_call 8; (first | (with_reducible refine (HP0.out _).mono ?_) | (with_reducible refine (HP1.out _).mono ?_)); rintro e w' ⟨rfl, rfl⟩)
  refine (made_d w w1 HG1.out n N HB.out.1 (by have := HB.out.2.1; omega) (by have := HB.out.2.2.1; omega)).mono ?_
  rintro e w2 ⟨o, mb, po, F, rfl, hb⟩
  have HS := Lib.hid (show BaN w o mb po n 0 N w2 from ⟨_, _, _, by simp, hb⟩)
  clear hb HG1 HP0 HP1
  go_wp2_with fail
  go_loopw [10] (fun vi wr => ∃ j : Nat, vi = .int .i64 j ∧ j ≤ l.length ∧ Hid (BaN w o mb po n j N wr)) (fun vi _ => l.length - (intOf vi).toNat)
  case atStart => exact ⟨0, rfl, Nat.zero_le _, HS⟩
  case round =>
    clear HS
    obtain ⟨j, rfl, hj, HK⟩ := hrel
    by_cases hjl : j < l.length
    · obtain ⟨a', c', e, ⟨q, _⟩ | ⟨b, ob, e2, hc⟩⟩ := HL.out.1
      · rw [q] at hjl; simp at hjl
      subst e2
      cases e
      have hwj : wrap64 ((j : Int) + 1) = (j : Int) + 1 := by have := HB.out.2.2.2; unfold wrap64; omega
      have hji : (j : Int) < (l.length : Int) := by omega
      obtain ⟨l0, L0, F0, _, hba⟩ := HK.out
      have hce := (hc.nw hba.nw).cell j hjl
      have hwf := HL.out.2 _ (List.getElem_mem hjl)
      clear hba hc
      generalize l[j] = R at *
      obtain ⟨b0, b1, b2, b3, b4, b5⟩ := R
      have c0 := hce 0 _ rfl
      have c1 := hce 1 _ rfl
      have c2 := hce 2 _ rfl
      have c3 := hce 3 _ rfl
      have c4 := hce 4 _ rfl
      have c5 := hce 5 _ rfl
      simp only [Nat.add_zero] at c0
      have HC := Lib.hid (call_n HK.out (by have := HB.out.2.2.2; omega) (by have := HB.out.2.1; omega) b0 b1 b2 b3 b4 b5 hwf)
      clear hce hwf HK
      have hkk : j + 1 ≤ 800 := by have := HB.out.2.2.2; omega
      have hnn : n ≤ 64 := by have := HB.out.2.1; omega
      go_wp2_with fail
      refine HC.out.mono ?_
      rintro e w3 ⟨⟨v3, rfl⟩, hs⟩
      have HK := Lib.hid hs
      obtain ⟨l1, L1, F1, hLN, hb1⟩ := hs
      have HHd := Lib.hid (ba_heads hb1)
      have HB1 := Lib.hid hb1
      have HLN := Lib.hid hLN
      clear hb1 hLN HC c0 c1 c2 c3 c4 c5
      go_wp2_with fail
      refine HHd.out.mono ?_
      rintro e y1 ⟨v0, rfl, hh0, g1⟩
      have HY := Lib.hid (HB1.out.step g1)
      obtain ⟨lm, ⟨hrd, hxs⟩, hlm⟩ := hh0.rd
      have hll : l1.length = lm.length := by
        have := congrArg List.length hlm
        rw [List.length_map, List.length_map] at this
        exact this.symm
      have hln : lm.length ≤ n := by
        have := HB1.out.inv.len
        rw [← hlm, List.length_map] at this
        exact this
      have HLm := Lib.hid (And.intro hrd (And.intro hxs hlm))
      obtain ⟨s0, s2, rfl, _⟩ := hrd
      have HLe := Lib.hid (len_d HY.out.db)
      rw [hll] at HLe
      have dl : decide ((n : Int) < (lm.length : Int)) = false := by rw [decide_eq_false_iff_not]; omega
      have dl2 : decide (n < lm.length) = false := by rw [decide_eq_false_iff_not]; omega
      have HLi := Lib.hid (fun z (g : Nw y1 z) => ba_live (HY.out.step g) _ rfl)
      have HEn := Lib.hid (sum_end HY.out HLm.out.2.2 HLN.out)
      have HNN := Lib.hid (show BaN w o mb po n (j + 1) N y1 from ⟨l1, L1, F1, HLN.out, HY.out⟩)
      have hl64 : lm.length ≤ 64 := by omega
      clear hh0 g1 HHd HB1 hxs hlm hll hln HK
      go_wp2_with fail
      refine HLe.out.mono ?_
      rintro e z' ⟨rfl, rfl⟩
      clear HLe
      go_wp2_with fail
      clear dl dl2
      go_loopw [12, 13] (fun nn kk wr => ∃ k : Nat, kk = .int .i64 k ∧ k ≤ lm.length ∧ nn = .int .i64 (sumQ (hsP l1) k) ∧ Nw y1 wr) (fun _ kk _ => lm.length - (intOf kk).toNat)
      case atStart => exact ⟨0, rfl, Nat.zero_le _, rfl, Nw.refl _⟩
      case round =>
        obtain ⟨k, rfl, hk, rfl, hG⟩ := hrel
        have HG := Lib.hid hG
        clear hG
        by_cases hkl : k < lm.length
        · obtain ⟨bb, oo, xt, xr, xW, xa, ql, xc, S0, S1, e1, e2, e3, hse, hws, hq0, hki, hwk, hcl, hca, hrq, hpv⟩ := rnd HY.out HLm.out.1 HLm.out.2.1 HLm.out.2.2 hl64 hkl
          subst e1
          rw [e2]
          have HS1 := Lib.hid e3
          have HSc := Lib.hid hca.1
          have HCk := Lib.hid hca.2
          have HCl := Lib.hid hcl
          have HRq := Lib.hid hrq
          have HPv := Lib.hid hpv
          have e0 := hcl.1 _ HG.out
          have e1 := hcl.2.1 _ HG.out
          have e2 := hcl.2.2.1 _ HG.out
          have e3 := hcl.2.2.2 _ HG.out
          clear hca hcl hrq hpv
          go_wp2_with fail
          refine (HSc.out _ HG.out).mono ?_
          rintro e y2 ⟨u4, n4, u5, n5, rfl, g2⟩
          obtain ⟨wq, hwq⟩ : ∃ wq, y2.alloc (.cells #[.int .i64 xt, .int .i64 xr, .slice u4 ql n4, .int .i64 xW] 56) = wq := ⟨_, rfl⟩
          have HWq := Lib.hid hwq
          have HQ := Lib.hid (show Nw y1 wq from HG.out.trans (g2.trans (by rw [← hwq]; exact (Nw.refl y2).alloc _)))
          clear hwq g2 HSc HG e0 e1 e2 e3
          go_upto_region 22 with fail
          rw [HWq.out]
          go_cut [157] from 64 to 212 (fun c wx => c = .bool false ∧ Nw wq wx)
          case first =>
            have hne : Nonempty (Wd (fun z => Nw wq z)) := ⟨⟨_, Nw.refl _⟩⟩
            have C0 := fun (d : Wd (fun z => Nw wq z)) => HCl.out.1 _ (HQ.out.trans d.h)
            have C1 := fun (d : Wd (fun z => Nw wq z)) => HCl.out.2.1 _ (HQ.out.trans d.h)
            have C2 := fun (d : Wd (fun z => Nw wq z)) => HCl.out.2.2.1 _ (HQ.out.trans d.h)
            have C3 := fun (d : Wd (fun z => Nw wq z)) => HCl.out.2.2.2 _ (HQ.out.trans d.h)
            rcases HPv.out with dk | ⟨k', t', r', dk, hwm, hwm2, hki', hpc, d1, d2 | ⟨d2, d3⟩⟩
            · have dk2 : decide (0 < k) = false := by simpa using dk
              go_wp2_with fail
              dsimp only [List.append]
              refine region_in' (fun z => Nw wq z) (by kernel_rfl) (by kernel_rfl) (by kernel_rfl) (Nw.refl wq).dr ?_
              repeat (first | go_big_quiet_step ((exact quietN (fun a b h g => h.trans g) (HCk.out _ (HQ.out.trans (Wd.h _))))) | quiet_step ((exact quietN (fun a b h g => h.trans g) (HCk.out _ (HQ.out.trans (Wd.h _))))))
              refine wpQuiet_nil ?_
              intro d
              go_wp2
              go_meet
              exact ⟨rfl, d.h⟩
            · have dk2 : decide (0 < k) = true := by simpa using dk
              have P0 := fun (d : Wd (fun z => Nw wq z)) => (hpc _ (HQ.out.trans d.h)).1
              have P1 := fun (d : Wd (fun z => Nw wq z)) => (hpc _ (HQ.out.trans d.h)).2
              clear hpc
              go_wp2_with fail
              dsimp only [List.append]
              refine region_in' (fun z => Nw wq z) (by kernel_rfl) (by kernel_rfl) (by kernel_rfl) (Nw.refl wq).dr ?_
              repeat (first | go_big_quiet_step ((exact quietN (fun a b h g => h.trans g) (HCk.out _ (HQ.out.trans (Wd.h _))))) | quiet_step ((exact quietN (fun a b h g => h.trans g) (HCk.out _ (HQ.out.trans (Wd.h _))))))
              refine wpQuiet_nil ?_
              intro d
              go_wp2
              go_meet
              exact ⟨rfl, d.h⟩
            · have dk2 : decide (0 < k) = true := by simpa using dk
              have P0 := fun (d : Wd (fun z => Nw wq z)) => (hpc _ (HQ.out.trans d.h)).1
              have P1 := fun (d : Wd (fun z => Nw wq z)) => (hpc _ (HQ.out.trans d.h)).2
              clear hpc
              go_wp2_with fail
              dsimp only [List.append]
              refine region_in' (fun z => Nw wq z) (by kernel_rfl) (by kernel_rfl) (by kernel_rfl) (Nw.refl wq).dr ?_
              repeat (first | go_big_quiet_step ((exact quietN (fun a b h g => h.trans g) (HCk.out _ (HQ.out.trans (Wd.h _))))) | quiet_step ((exact quietN (fun a b h g => h.trans g) (HCk.out _ (HQ.out.trans (Wd.h _))))))
              refine wpQuiet_nil ?_
              intro d
              go_wp2
              go_meet
              exact ⟨rfl, d.h⟩
          case rest =>
            obtain ⟨rfl, gc⟩ := hcut
            have HC := Lib.hid (HQ.out.trans gc)
            clear gc HPv HCk HWq HQ
            go_wp2_with fail
            go_loopw [16] (fun jj wr => ∃ j : Nat, jj = .int .i64 j ∧ j ≤ ql ∧ Hid (Nw y1 wr)) (fun jj _ => ql - (intOf jj).toNat)
            case atStart => exact ⟨0, rfl, Nat.zero_le _, HC⟩
            case round =>
              clear HC
              obtain ⟨jq, rfl, hjq, HG⟩ := hrel
              have f2 := HCl.out.2.2.1 _ HG.out
              have f0 := HCl.out.1 _ HG.out
              have f1 := HCl.out.2.1 _ HG.out
              by_cases hjl2 : jq < ql
              · obtain ⟨b', o', r0, r1, r2, r3, r4, e1, hwq, hqi, hcr, hGt, hHs⟩ := HRq.out jq hjl2
                subst e1
                have s0 := (hcr _ HG.out).1
                have HGt := Lib.hid hGt
                have HHs := Lib.hid hHs
                have HCr := Lib.hid hcr
                clear hGt hHs hcr
                go_wp2_with fail
                refine (HGt.out _ HG.out).mono ?_
                rintro e y5 ⟨rfl, g5⟩
                clear s0 f0 f1 f2
                go_upto_region 28 with fail
                obtain ⟨y6, hy6⟩ : ∃ y6, (y5.alloc (.cells #[.int .i64 xt, .int .i64 xr] 38)).alloc (.cells #[.int .i64 r0, .int .i64 r1, .int .i64 r2, .int .i64 r3, .int .i64 r4] 47) = y6 := ⟨_, rfl⟩
                have hal2 := ((Nw.refl _).alloc (.cells #[.int .i64 r0, .int .i64 r1, .int .i64 r2, .int .i64 r3, .int .i64 r4] 47)).at' (allocAt y5 (.cells #[.int .i64 xt, .int .i64 xr] 38))
                have hal3 := allocAt (y5.alloc (.cells #[.int .i64 xt, .int .i64 xr] 38)) (.cells #[.int .i64 r0, .int .i64 r1, .int .i64 r2, .int .i64 r3, .int .i64 r4] 47)
                rw [hy6] at hal2
                rw [World.size_alloc, hy6] at hal3
                have g6 : Nw y1 y6 := HG.out.trans (g5.trans (by rw [← hy6]; exact ((Nw.refl y5).alloc _).alloc _))
                rw [hy6]
                generalize y5.heap.size = q0 at *
                have H6 := Lib.hid g6
                have hne : Nonempty (Wd (fun z => Nw y6 z)) := ⟨⟨_, Nw.refl _⟩⟩
                have N0 := fun (d : Wd (fun z => Nw y6 z)) => hcell (j := 0) (d.h.at' hal2)
                have N1 := fun (d : Wd (fun z => Nw y6 z)) => hcell (j := 1) (d.h.at' hal2)
                have R0 := fun (d : Wd (fun z => Nw y6 z)) => hcell (j := 0) (d.h.at' hal3)
                have R1 := fun (d : Wd (fun z => Nw y6 z)) => hcell (j := 1) (d.h.at' hal3)
                have R2 := fun (d : Wd (fun z => Nw y6 z)) => hcell (j := 2) (d.h.at' hal3)
                have R3 := fun (d : Wd (fun z => Nw y6 z)) => hcell (j := 3) (d.h.at' hal3)
                have R4 := fun (d : Wd (fun z => Nw y6 z)) => hcell (j := 4) (d.h.at' hal3)
                have C0 := fun (d : Wd (fun z => Nw y6 z)) => HCl.out.1 _ (H6.out.trans d.h)
                have C1 := fun (d : Wd (fun z => Nw y6 z)) => HCl.out.2.1 _ (H6.out.trans d.h)
                have C2 := fun (d : Wd (fun z => Nw y6 z)) => HCl.out.2.2.1 _ (H6.out.trans d.h)
                have Q0 := fun (d : Wd (fun z => Nw y6 z)) => (HCr.out _ (H6.out.trans d.h)).1
                have Q1 := fun (d : Wd (fun z => Nw y6 z)) => (HCr.out _ (H6.out.trans d.h)).2.1
                have Q2 := fun (d : Wd (fun z => Nw y6 z)) => (HCr.out _ (H6.out.trans d.h)).2.2.1
                have Q3 := fun (d : Wd (fun z => Nw y6 z)) => (HCr.out _ (H6.out.trans d.h)).2.2.2.1
                have Q4 := fun (d : Wd (fun z => Nw y6 z)) => (HCr.out _ (H6.out.trans d.h)).2.2.2.2
                clear hal2 hal3 g6 g5 hy6 HG HGt
                go_wp2_with fail
                refine region_in (fun z => Nw y6 z) (by kernel_rfl) (by kernel_rfl) (Nw.refl y6).dr ?_
                repeat (first | go_big_quiet_step ((exact quietN (fun a b h g => h.trans g) (HHs.out _ (H6.out.trans (Wd.h _))))) | quiet_step ((exact quietN (fun a b h g => h.trans g) (HHs.out _ (H6.out.trans (Wd.h _))))))
                refine wpQuiet_nil ?_
                intro d
                have HD := Lib.hid (H6.out.trans d.h)
                clear N0 N1 R0 R1 R2 R3 R4 C0 C1 C2 Q0 Q1 Q2 Q3 Q4 hne
                revert HD
                generalize d.w = y7
                intro HD
                go_wp2
                go_roundw
                case rel => exact ⟨jq + 1, congrArg (Value.int .i64) (by first | exact nx1 jq | exact hwq.trans (nx1 jq)), hjl2, HD⟩
                case measure =>
                  first | exact down ql jq hjl2 | (rw [hwq]; exact down ql jq hjl2)
              · obtain rfl : jq = ql := Nat.le_antisymm hjq (Nat.le_of_not_lt hjl2)
                clear f0 f1 HRq HCl
                go_wp2_with fail
                go_roundw
                case rel =>
                  refine ⟨k + 1, ?_, hkl, ?_, HG.out⟩
                  · exact congrArg (Value.int .i64) (by first | exact nx1 k | exact hwk.trans (nx1 k))
                  · rw [HS1.out]
                    exact congrArg (Value.int .i64) hse.symm
                case measure =>
                  first | exact down lm.length k hkl | (rw [hwk]; exact down lm.length k hkl)
        · obtain rfl : k = lm.length := Nat.le_antisymm hk (Nat.le_of_not_lt hkl)
          obtain ⟨hsum, dN⟩ := HEn.out
          rw [hsum]
          have dN2 : decide (N < liv L1) = false := by simpa using dN
          clear hsum hk hkl
          go_wp2_with fail
          refine (HLi.out _ HG.out).mono ?_
          rintro e y9 ⟨rfl, g9⟩
          have HN9 := Lib.hid (show BaN w o mb po n (j + 1) N y9 from ⟨l1, L1, F1, HLN.out, HY.out.step (HG.out.trans g9)⟩)
          clear g9 HG HLi HLm HY
          go_wp2_with fail
          go_roundw
          case rel => exact ⟨j + 1, congrArg (Value.int .i64) (by first | exact nx1 j | exact hwj.trans (nx1 j)), hjl, HN9⟩
          case measure =>
            first | exact down l.length j hjl | (rw [hwj]; exact down l.length j hjl)
    · obtain rfl : j = l.length := by omega
      obtain ⟨l0, L0, F0, _, hba⟩ := HK.out
      have HN := Lib.hid hba.nw
      clear HK hba
      go_wp2
      go_ret
      exact ⟨rfl, HN.out⟩
set_option maxRecDepth 100000 in
set_option maxHeartbeats 2000000 in
theorem law_any (i0 i1 : Int) (v : Value) (l : List Cl) (w : World) (hl : Rd 6 clrow w v l) (hok : ∀ R ∈ l, Cl.ok R) :
    Calls Tryz.prog 4 #[.int .i64 i0, .int .i64 i1, v] w fun e w' => e = .returned (.bool true) ∧ Nw w w' := by
  by_cases h : l.length ≤ 50
  · obtain ⟨p, hp⟩ := Int.eq_ofNat_of_zero_le (Int.emod_nonneg i0 (show (5 : Int) ≠ 0 by decide))
    obtain ⟨N, hN⟩ := Int.eq_ofNat_of_zero_le (Int.emod_nonneg i1 (show (12 : Int) ≠ 0 by decide))
    have q1 := Int.emod_lt_of_pos i0 (show (0 : Int) < 5 by decide)
    have q2 := Int.emod_lt_of_pos i1 (show (0 : Int) < 12 by decide)
    exact walk i0 i1 (p + 1) N (by omega) hN (by omega) (by omega) (by omega) v l w hl hok h
  · obtain ⟨va, vc, rfl, _⟩ := hl
    have d0 : decide ((50 : Int) < (l.length : Int)) = true := by rw [decide_eq_true_eq]; omega
    have HN := Lib.hid (Nw.refl w)
    clear h hok
    go_enter Tryz.func4, Tryz.ntmps4
    go_wp2_with fail
    refine (lives_b _).mono ?_
    rintro e w1 ⟨rfl, g1⟩
    have HG1 := Lib.hid (HN.out.trans g1)
    clear g1 HN
    go_wp2_with fail
    go_ret
    exact ⟨rfl, HG1.out⟩
end Go.Proofs.YtodnlelnpidliaaGreat.bucketHolds
end
