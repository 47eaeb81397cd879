/- Texts merged: SortH, TbU, TbS, TbT, SortL, TbV, QvT, QvU, TbX -/
import Derived.Test.YtpffldfpabglbaaGreatDoorTableHoldsB21
import Derived.Shelf.SlSortCmp.NoneTotal
import Derived.Test.YtpffldfpabglbaaGreatDoorChecked
import Derived.WalkKit
import Derived.ProofKit
import Derived.OpenShut
import Derived.ShutString
import Derived.ChangeOld
import Derived.Below
import Derived.Deep.Slices
import Derived.Deep.Fields
import Derived.ChangeSame
import Derived.Lib.SmallJoins

/- The library's SortFunc at this program, over heads, laid by the kit's own command in plain words. -/
section
namespace Go.Proofs
open Go.Shelf
def Tryz.sortH_ren : Go.Shelf.Ren := ⟨fun | 6 => 58 | 15 => 106 | 14 => 105 | 28 => 157 | 29 => 158 | 20 => 149 | 21 => 150 | 22 => 151 | 23 => 152 | 24 => 153 | 25 => 154 | 26 => 155 | 27 => 156 | 46 => 189 | 47 => 190 | 48 => 191 | 49 => 192 | 50 => 193 | 57 => 221 | n => n, fun | 22 => 40 | 24 => 63 | 25 => 107 | 3 => 3 | 39 => 144 | 0 => 0 | 53 => 149 | 55 => 187 | 4 => 4 | 46 => 180 | 45 => 179 | 50 => 53 | 5 => 5 | 9 => 9 | 66 => 213 | 70 => 217 | 76 => 239 | 77 => 55 | n => n, fun | n => n⟩
theorem Tryz.sortH : Go.Proofs.SlLaysF0.n6 Tryz.prog Tryz.sortH_ren := {
  mixed := by kernel_rfl
  f6 := ⟨Tryz.f58.name, by decide, Tryz.func58.trans (congrArg some (by kernel_rfl))⟩
  f14 := ⟨Tryz.f105.name, by decide, Tryz.func105.trans (congrArg some (by kernel_rfl))⟩
  f15 := Tryz.func106.trans (congrArg some (by kernel_rfl))
  f20 := ⟨Tryz.f149.name, by decide, Tryz.func149.trans (congrArg some (by kernel_rfl))⟩
  f21 := ⟨Tryz.f150.name, by decide, Tryz.func150.trans (congrArg some (by kernel_rfl))⟩
  f22 := ⟨Tryz.f151.name, by decide, Tryz.func151.trans (congrArg some (by kernel_rfl))⟩
  f23 := ⟨Tryz.f152.name, by decide, Tryz.func152.trans (congrArg some (by kernel_rfl))⟩
  f24 := ⟨Tryz.f153.name, by decide, Tryz.func153.trans (congrArg some (by kernel_rfl))⟩
  f25 := ⟨Tryz.f154.name, by decide, Tryz.func154.trans (congrArg some (by kernel_rfl))⟩
  f26 := ⟨Tryz.f155.name, by decide, Tryz.func155.trans (congrArg some (by kernel_rfl))⟩
  f27 := ⟨Tryz.f156.name, by decide, Tryz.func156.trans (congrArg some (by kernel_rfl))⟩
  f28 := Tryz.func157.trans (congrArg some (by kernel_rfl))
  f29 := Tryz.func158.trans (congrArg some (by kernel_rfl))
  f46 := ⟨Tryz.f189.name, by decide, Tryz.func189.trans (congrArg some (by kernel_rfl))⟩
  f47 := Tryz.func190.trans (congrArg some (by kernel_rfl))
  f48 := Tryz.func191.trans (congrArg some (by kernel_rfl))
  f49 := ⟨Tryz.f192.name, by decide, Tryz.func192.trans (congrArg some (by kernel_rfl))⟩
  f50 := ⟨Tryz.f193.name, by decide, Tryz.func193.trans (congrArg some (by kernel_rfl))⟩
  f57 := ⟨Tryz.f221.name, by decide, Tryz.func221.trans (congrArg some (by kernel_rfl))⟩
  t0 := Tryz.underlying0
  a0 := Tryz.isAgg0
  z0 := Tryz.sizeOf0
  v0 := Tryz.zeroValue0
  t3 := Tryz.underlying3
  a3 := Tryz.isAgg3
  z3 := Tryz.sizeOf3
  v3 := Tryz.zeroValue3
  t4 := Tryz.underlying4
  a4 := Tryz.isAgg4
  z4 := Tryz.sizeOf4
  v4 := Tryz.zeroValue4
  t5 := Tryz.underlying5
  a5 := Tryz.isAgg5
  z5 := Tryz.sizeOf5
  v5 := Tryz.zeroValue5
  t9 := Tryz.underlying9
  a9 := Tryz.isAgg9
  z9 := Tryz.sizeOf9
  v9 := Tryz.zeroValue9
  t22 := Tryz.underlying40
  a22 := Tryz.isAgg40
  z22 := Tryz.sizeOf40
  v22 := Tryz.zeroValue40
  t25 := Tryz.underlying107
  a25 := Tryz.isAgg107
  z25 := Tryz.sizeOf107
  v25 := Tryz.zeroValue107
  t39 := Tryz.underlying144
  a39 := Tryz.isAgg144
  z39 := Tryz.sizeOf144
  v39 := Tryz.zeroValue144
  t45 := Tryz.underlying179
  a45 := Tryz.isAgg179
  z45 := Tryz.sizeOf179
  v45 := Tryz.zeroValue179
  t46 := Tryz.underlying180
  a46 := Tryz.isAgg180
  z46 := Tryz.sizeOf180
  v46 := Tryz.zeroValue180
  t50 := Tryz.underlying53
  a50 := Tryz.isAgg53
  z50 := Tryz.sizeOf53
  v50 := Tryz.zeroValue53
  t53 := Tryz.underlying149
  a53 := Tryz.isAgg149
  z53 := Tryz.sizeOf149
  v53 := Tryz.zeroValue149
  t55 := Tryz.underlying187
  a55 := Tryz.isAgg187
  z55 := Tryz.sizeOf187
  v55 := Tryz.zeroValue187
  t66 := Tryz.underlying213
  a66 := Tryz.isAgg213
  z66 := Tryz.sizeOf213
  v66 := Tryz.zeroValue213
  t70 := Tryz.underlying217
  a70 := Tryz.isAgg217
  z70 := Tryz.sizeOf217
  v70 := Tryz.zeroValue217
  t76 := Tryz.underlying239
  a76 := Tryz.isAgg239
  z76 := Tryz.sizeOf239
  v76 := Tryz.zeroValue239
  t77 := Tryz.underlying55
  a77 := Tryz.isAgg55
  z77 := Tryz.sizeOf55
  v77 := Tryz.zeroValue55 }
end Go.Proofs
end

/- The developers' table: heads, Snapshot. -/
section
namespace Go.Proofs.YtpffldfpabglbaaGreatDoor
open Go.RowKit Go.Sort Go.Shelf
set_option linter.unusedVariables false      -- a contract need not use every name

theorem tbyPlace_any (t r t' r' : Int) (w : World) :
    Calls Tryz.prog 60 #[.agg #[.int .i64 t, .int .i64 r], .agg #[.int .i64 t', .int .i64 r']] w fun e w' => e = .returned (.int .i64 (orP (cP t t') (cP r r'))) ∧ GG w w' := by
  go_enter Tryz.func60, Tryz.ntmps60
  go_wp2
  go_region_held3 (fun w' => TwoB w t r t' r' w') (first | assumption | exact twoB_start w t r t' r' _ | exact twoB_step (by assumption) (by assumption) | exact twoB_step ((GG.refl _).alloc _) (by assumption) | exact twoB_step (GG.refl _).drew (by assumption))
    (first | (go_at_call 108; refine (cmpInt_p _ _ _).mono ?_; rintro e w' ⟨rfl, rfl⟩) | (go_at_call 107; refine (or_p _ (cP t t') (cP r r') _ (by simp [go_sem]) (by simp [go_sem])).mono ?_; rintro e w' ⟨rfl, rfl⟩))
  all_goals
    rename_i hS
    go_wp2
    go_ret
    exact ⟨rfl, hS.2.2⟩
theorem snapCmp_any (x y : Hm) (w : World) : Calls Tryz.prog 59 #[.agg (hmrow x).toArray, .agg (hmrow y).toArray] w fun e w' => e = .returned (.int .i64 (cmpM x y)) ∧ GG w w' := by
  obtain ⟨⟨xt, xr, xW, xq⟩, xa, xc⟩ := x
  obtain ⟨⟨yt, yr, yW, yq⟩, ya, yc⟩ := y
  simp only [hmrow, cmpM, cmpN, nmH]
  obtain ⟨xl, hxl⟩ : ∃ n, xq.length = n := ⟨_, rfl⟩
  obtain ⟨yl, hyl⟩ : ∃ n, yq.length = n := ⟨_, rfl⟩
  rw [hxl, hyl]
  clear hxl hyl
  have HG := Lib.hid (((GG.refl w).alloc (.cells #[.int .i64 xt, .int .i64 xr, .slice xa xl xc, .int .i64 xW] 63)).alloc (.cells #[.int .i64 yt, .int .i64 yr, .slice ya yl yc, .int .i64 yW] 63))
  go_enter Tryz.func59, Tryz.ntmps59
  go_wp2_with fail
  refine (tbyPlace_any xt xr yt yr _).mono ?_
  rintro e w1 ⟨rfl, g1⟩
  have HE := Lib.hid (HG.out.trans g1)
  clear g1 HG
  go_wp2
  go_ret
  exact ⟨rfl, HE.out⟩
theorem e_snap : ∀ args w, (callFunc 59 args).run Tryz.prog w = .ok (.enter 59 args) w := enters_of Tryz.func59 (by kernel_rfl) rfl
theorem nxU (k : Nat) : (k : Int) + 1 = ((k + 1 : Nat) : Int) := rfl
theorem downU (a b : Nat) (h : b < a) : a - (intOf (.int .i64 ((b : Int) + 1))).toNat < a - (intOf (.int .i64 (b : Int))).toNat := by
  show a - ((b : Int) + 1).toNat < a - (b : Int).toNat
  omega
theorem flat_take {hss : List (List Hq)} {j : Nat} (hj : j < hss.length) : (hss.take (j + 1)).flatten = (hss.take j).flatten ++ hss[j] := by
  rw [List.take_succ_eq_append_getElem hj, List.flatten_append]
  simp
theorem flatT_len {hss : List (List Hq)} (h : ∀ l ∈ hss, l.length ≤ 64) (hn : hss.length ≤ 16) (j : Nat) : (hss.take j).flatten.length ≤ 1024 := by
  have key : ∀ (l : List (List Hq)), (∀ x ∈ l, x.length ≤ 64) → l.flatten.length ≤ 64 * l.length := by
    intro l
    induction l with
    | nil => intro _; simp
    | cons a t ih =>
      intro h1
      have := ih (fun x hx => h1 x (List.mem_cons_of_mem _ hx))
      have := h1 a (by simp)
      simp only [List.flatten_cons, List.length_append, List.length_cons]
      omega
  have h2 := key (hss.take j) (fun x hx => h x (List.mem_of_mem_take hx))
  have h3 : (hss.take j).length ≤ 16 := by rw [List.length_take]; omega
  omega
section
variable {W : World} {o S n N k : Nat} {C : Cps} {hss : List (List Hq)} {L : List Bool} {J : Nat → Prop}
set_option maxRecDepth 20000 in
set_option maxHeartbeats 4000000 in
theorem theads_t (h : Tab W o S n N k C hss L J) (hS : S ≤ 16) (hn : n ≤ 64) : Calls Tryz.prog 57 #[.pointer (some ⟨o, 0, none⟩)] W (HdPost W hss.flatten) := by
  obtain ⟨bb, cp, hb, po, ds, hv, F, hm, hp, rfl, rfl, ok⟩ := h
  have hSl : ds.length = S := by rw [← hss_len]; exact ok.sl
  have h64 : ∀ l ∈ hssD ds, l.length ≤ 64 := fun l hl => Nat.le_trans (ok.inv.part l hl).len hn
  have HK := Lib.hid (And.intro h64 (show (hssD ds).length ≤ 16 by rw [ok.sl]; exact hS))
  have HMd := Lib.hid (tmade_yes o W hm.c0)
  have HM := Lib.hid hm
  have c6 := hm.c6
  have hnn : ds.length ≤ 16 := by omega
  clear hm hp ok hSl h64
  obtain ⟨nn, hnl⟩ : ∃ nn, ds.length = nn := ⟨_, rfl⟩
  rw [hnl] at c6 hnn
  have HN := Lib.hid hnl
  clear hnl
  go_enter Tryz.func57, Tryz.ntmps57
  go_wp2_with fail
  refine HMd.out.mono ?_
  rintro e w' ⟨rfl, rfl⟩
  go_wp2_with fail
  go_loopw [3, 5, 14] (fun vi bi i wr => ∃ (j : Nat) (s0 : Option Addr) (s1 s2 : Nat), vi = .slice s0 s1 s2 ∧ i = .int .i64 j ∧ j ≤ nn ∧ Hid (HdsAt wr W.heap.size (.slice s0 s1 s2) ((hssD ds).take j).flatten ∧ Nw W wr)) (fun _ _ i _ => nn - (intOf i).toNat)
  case atStart => exact ⟨0, none, 0, 0, rfl, rfl, Nat.zero_le _, hds_nil _ _, Nw.refl _⟩
  case round =>
    obtain ⟨j, s0, s1, s2, rfl, rfl, hj, HI⟩ := hrel
    by_cases hjl : j < nn
    · have hjd : j < ds.length := by rw [HN.out]; exact hjl
      have hjh : j < (hssD ds).length := by rw [hss_len]; exact hjd
      have hmr := HM.out.nw HI.out.2
      have cr := hmr.row j hjd
      have HH := Lib.hid (heads_d (hmr.db.db _ (List.getElem_mem hjd)))
      have hji : (j : Int) < (nn : Int) := by omega
      have hwj : wrap64 ((j : Int) + 1) = (j : Int) + 1 := by unfold wrap64; omega
      have hbl := hmr.bl
      obtain ⟨B, hB⟩ : ∃ B, ds[j].o = B := ⟨_, rfl⟩
      rw [hB] at cr HH
      clear hmr
      go_wp2_with fail
      refine HH.out.mono ?_
      rintro e w2 ⟨v2, rfl, hh2, g2⟩
      have e2 := flat_take hjh
      rw [hss_at hjd hjh] at e2
      have hl1 := flatT_len HK.out.1 HK.out.2 (j + 1)
      rw [e2, List.length_append] at hl1
      obtain ⟨v3, w3, hrun, hh3, hg3, hp3⟩ := HdsAt.app (HI.out.1.nw g2) hh2 HI.out.2.sz (fun b e => by
        rcases HI.out.1.form with ⟨q, _⟩ | ⟨g, cap, q, _, q2⟩
        · rw [q] at e; cases e
        · rw [q] at e; have e' : g = b := Option.some.inj e; omega) (by omega)
      rw [← e2] at hh3
      obtain ⟨t0, t1, t2, hv3⟩ : ∃ a b c, v3 = .slice a b c := by
        rcases hh3.form with ⟨q, _⟩ | ⟨g, cap, q, _⟩
        · exact ⟨_, _, _, q⟩
        · exact ⟨_, _, _, q⟩
      subst hv3
      have HI3 := Lib.hid (show HdsAt w3 W.heap.size (.slice t0 t1 t2) ((hssD ds).take (j + 1)).flatten ∧ Nw W w3 from ⟨hh3, (HI.out.2.trans g2).gro hg3 (fun k e => by
        rcases HI.out.1.form with ⟨q, _⟩ | ⟨g, cap, q, q1, q2⟩
        · rw [q] at e; cases e
        · rw [q] at e; have e' : g = k := Option.some.inj e; omega)⟩)
      have HR := Lib.hid hrun
      clear hh2 g2 e2 hl1 hrun hh3 hg3 hp3 HI HH cr hbl hB
      go_wp2_with (at_builtin; refine wpl_app (by rfl) (.tmp 18) (.tmp 20) 40 rfl _ _ _ _ (by first | rfl | simp [Act.eval, *]) (by first | rfl | simp [Act.eval, *]) HR.out ?_)
      go_roundw
      case rel => exact ⟨j + 1, _, _, _, rfl, congrArg (Value.int .i64) (by first | exact nxU j | exact hwj.trans (nxU j)), hjl, HI3⟩
      case measure => first | exact downU nn j hjl | (rw [hwj]; exact downU nn j hjl)
    · obtain rfl : j = nn := by omega
      have HE : Hid (HdPost W (hssD ds).flatten (.returned (.slice s0 s1 s2)) wr) := by
        have e := HI.out.1
        rw [← HN.out, ← hss_len, List.take_length] at e
        exact ⟨_, rfl, e, HI.out.2⟩
      clear HI
      go_wp2
      go_ret
      exact HE.out
set_option maxRecDepth 20000 in
set_option maxHeartbeats 2000000 in
theorem snapshot_t (h : Tab W o S n N k C hss L J) (hS : S ≤ 16) (hn : n ≤ 64) : Calls Tryz.prog 13 #[.pointer (some ⟨o, 0, none⟩)] W (HdPost W (snapT hss)) := by
  have HH := Lib.hid (theads_t h hS hn)
  have hap := h.ok.apart
  have hlen : hss.flatten.length ≤ 1024 := by
    have := flatT_len (fun l hl => Nat.le_trans (h.ok.inv.part l hl).len hn) (by rw [h.ok.sl]; exact hS) hss.length
    rwa [List.take_length] at this
  have HA := Lib.hid (And.intro hap hlen)
  clear h hap hlen
  go_enter Tryz.func13, Tryz.ntmps13
  go_wp2_with fail
  refine HH.out.mono ?_
  rintro e w1 ⟨v, rfl, hh, g1⟩
  rcases hh.form with ⟨rfl, hz⟩ | ⟨g, cap, hv, _⟩
  · have HS := Lib.hid (AnyF.slices_SortFunc_none (P := Tryz.prog) { Tryz.sortH with } none 0 (.func (.func 59) #[] #[]) w1)
    have HE : Hid (HdPost W (snapT hss) (.returned (.slice none 0 0)) w1) := by
      refine ⟨_, rfl, ?_, g1⟩
      have : snapT hss = [] := by unfold snapT; rw [hz]; rfl
      rw [this]
      exact hds_nil _ _
    clear hh hz g1 HH
    go_wp2_with fail
    refine Calls.mono HS.out ?_
    rintro e w2 ⟨rfl, rfl⟩
    go_wp2
    go_ret
    exact HE.out
  · obtain ⟨lm, h1, h2, h3⟩ := hh
    subst hv
    have hll : lm.length = hss.flatten.length := by rw [← h2, List.length_map]
    rw [← hll] at h1 ⊢
    have HS := Lib.hid (sort_rows elemHm (ρ := _) { Tryz.sortH with } (by intro w; kernel_rfl) (by intro w; kernel_rfl) cmpM cmpM_swo 59 e_snap snapCmp_any _ g cap lm w1 h1 (by have := HA.out.2; omega))
    have HX := Lib.hid (And.intro h1 (And.intro h2 (And.intro h3 g1)))
    clear h1 h2 h3 g1 HH hll
    go_wp2_with fail
    refine Calls.mono HS.out ?_
    rintro e w2 ⟨rfl, l, hp, hs, hO, ht⟩
    have hl : l.length = lm.length := hp.length_eq
    have HE : Hid (HdPost W (snapT hss) (.returned (.slice (some ⟨g, 0, none⟩) lm.length cap)) w2) := by
      refine ⟨_, rfl, ?_, nw_tch HX.out.2.2.2 ht (fun i e => ?_)⟩
      · rw [← snap_of HA.out.1 HX.out.2.1 hp hs, ← hl]
        exact HdsAt.sort HX.out.1 HX.out.2.2.1 hp hO ht
      · have := oge HX.out.1 rfl
        omega
    clear hp hs hO ht hl HS
    go_wp2
    go_ret
    exact HE.out
end
end Go.Proofs.YtpffldfpabglbaaGreatDoor
end

/- The developers' table: Get, Find, Counts, Caps. -/
section
namespace Go.Proofs.YtpffldfpabglbaaGreatDoor
open Go.RowKit Go.Shelf
set_option linter.unusedVariables false      -- a contract need not use every name

def cntT (hss : List (List Hq)) : Nat := (hss.map List.length).sum
section
variable {W : World} {o S n N k : Nat} {C : Cps} {hss : List (List Hq)} {L : List Bool} {J : Nat → Prop}
theorem stripe_t (h : Tab W o S n N k C hss L J) (t r : Int) : Calls Tryz.prog 20 #[.pointer (some ⟨o, 0, none⟩), .agg #[.int .i64 t, .int .i64 r]] W fun e W' => e = .returned (.int .i64 (ofS t r S)) ∧ Nw W W' := by
  obtain ⟨bb, cp, hb, po, ds, hv, F, hm, hp, rfl, rfl, ok⟩ := h
  have := stripe_d hm.st t r
  rw [show ds.length = S by rw [← hss_len]; exact ok.sl] at this
  exact this
theorem cnt_take {hss : List (List Hq)} {j : Nat} (hj : j < hss.length) : cntT (hss.take (j + 1)) = cntT (hss.take j) + hss[j].length := by
  unfold cntT
  rw [List.take_succ_eq_append_getElem hj, List.map_append, List.sum_append]
  simp
theorem cnt_flat (hss : List (List Hq)) : cntT hss = hss.flatten.length := by
  unfold cntT
  rw [List.length_flatten]
set_option maxRecDepth 20000 in
set_option maxHeartbeats 4000000 in
theorem counts_t (h : Tab W o S n N k C hss L J) (hS : S ≤ 16) (hn : n ≤ 64) : Calls Tryz.prog 26 #[.pointer (some ⟨o, 0, none⟩)] W fun e W' => e = .returned (.tuple #[.int .i64 (cntT hss), .int .i64 (liv L)]) ∧ Nw W W' := by
  obtain ⟨bb, cp, hb, po, ds, hv, F, hm, hp, rfl, rfl, ok⟩ := h
  have hSl : ds.length = S := by rw [← hss_len]; exact ok.sl
  have h64 : ∀ l ∈ hssD ds, l.length ≤ 64 := fun l hl => Nat.le_trans (ok.inv.part l hl).len hn
  have HK := Lib.hid (And.intro h64 (show (hssD ds).length ≤ 16 by rw [ok.sl]; exact hS))
  have HMd := Lib.hid (tmade_yes o W hm.c0)
  have HM := Lib.hid hm
  have c6 := hm.c6
  have c5 := hm.c5
  obtain ⟨g', v', l1, hpo, hFp⟩ := hm.db.pol
  have HLv := Lib.hid (live_at hpo)
  have hnn : ds.length ≤ 16 := by omega
  clear hm hp ok hSl h64 hpo hFp
  obtain ⟨nn, hnl⟩ : ∃ nn, ds.length = nn := ⟨_, rfl⟩
  rw [hnl] at c6 hnn
  have HN := Lib.hid hnl
  clear hnl
  go_enter Tryz.func26, Tryz.ntmps26
  go_wp2_with fail
  refine HMd.out.mono ?_
  rintro e w' ⟨rfl, rfl⟩
  go_wp2_with fail
  go_loopw [2, 5, 14] (fun vi bi i wr => ∃ (j : Nat), vi = .int .i64 (cntT ((hssD ds).take j)) ∧ i = .int .i64 j ∧ j ≤ nn ∧ Hid (W = wr)) (fun _ _ i _ => nn - (intOf i).toNat)
  case atStart => exact ⟨0, rfl, rfl, Nat.zero_le _, rfl⟩
  case round =>
    obtain ⟨j, rfl, rfl, hj, HI⟩ := hrel
    have hWr := HI.out
    subst hWr
    by_cases hjl : j < nn
    · have hjd : j < ds.length := by rw [HN.out]; exact hjl
      have hjh : j < (hssD ds).length := by rw [hss_len]; exact hjd
      have cr := HM.out.row j hjd
      have hbl := HM.out.bl
      have HH := Lib.hid (len_d (HM.out.db.db _ (List.getElem_mem hjd)))
      have hji : (j : Int) < (nn : Int) := by omega
      have hwj : wrap64 ((j : Int) + 1) = (j : Int) + 1 := by unfold wrap64; omega
      have e2 := cnt_take hjh
      rw [hss_at hjd hjh] at e2
      have hl1 := flatT_len HK.out.1 HK.out.2 (j + 1)
      rw [← cnt_flat, e2] at hl1
      have e3 : (hsP ds[j].l).length = ds[j].l.length := by unfold hsP; rw [List.length_map]
      rw [e3] at e2 hl1
      obtain ⟨B, hB⟩ : ∃ B, ds[j].o = B := ⟨_, rfl⟩
      rw [hB] at cr HH
      obtain ⟨M, hM⟩ : ∃ M, ds[j].l.length = M := ⟨_, rfl⟩
      rw [hM] at HH e2 hl1
      obtain ⟨A, hA⟩ : ∃ A, cntT ((hssD ds).take j) = A := ⟨_, rfl⟩
      rw [hA] at e2 hl1 ⊢
      have hwa : wrap64 ((A : Int) + (M : Int)) = (A : Int) + (M : Int) := by unfold wrap64; omega
      have HE2 := Lib.hid e2
      clear e2 hl1 e3 hB hM hA HI
      go_wp2_with fail
      refine HH.out.mono ?_
      rintro e w2 ⟨rfl, rfl⟩
      clear HH cr hbl
      go_wp2_with fail
      go_roundw
      case rel => exact ⟨j + 1, congrArg (Value.int .i64) (by rw [HE2.out]; first | rfl | exact hwa), congrArg (Value.int .i64) (by first | exact nxU j | exact hwj.trans (nxU j)), hjl, (by first | exact Lib.hid trivial | exact rfl)⟩
      case measure => first | exact downU nn j hjl | (rw [hwj]; exact downU nn j hjl)
    · obtain rfl : j = nn := by omega
      have e : (hssD ds).take j = hssD ds := by rw [← HN.out, ← hss_len, List.take_length]
      rw [e]
      obtain ⟨A, hA⟩ : ∃ A, cntT (hssD ds) = A := ⟨_, rfl⟩
      rw [hA]
      have HA := Lib.hid hA
      clear hA
      clear HI HMd e HK HM
      go_wp2_with fail
      refine HLv.out.mono ?_
      rintro e w2 ⟨rfl, g2⟩
      have HE := Lib.hid g2
      clear g2
      go_wp2
      exact bodyPost_ret (v := .tuple #[.int .i64 A, .int .i64 (liv L)]) (by simp [results, Tryz.results26, go_sem, *]) rfl ⟨by rw [HA.out], HE.out⟩
end
end Go.Proofs.YtpffldfpabglbaaGreatDoor
end

/- The developers' table: possible, New. -/
section
namespace Go.Proofs.YtpffldfpabglbaaGreatDoor
open Go.RowKit Go.Shelf
set_option linter.unusedVariables false      -- a contract need not use every name

def ptrow (p : Nat) : List Value := [ptN p]
theorem elemPt : Elem Tryz.prog 87 90 1 8 ptrow where
  und := Tryz.underlying87
  inf := by
    have h : (Tryz.prog.info? 90).map (fun i => (i.zero.map fun z => z.cells.size, i.size, i.bytes)) = some (some 1, 1, 8) := by kernel_rfl
    cases e : Tryz.prog.info? 90 with
    | none => rw [e] at h; cases h
    | some i =>
      rw [e] at h
      simp only [Option.map_some, Option.some.injEq, Prod.mk.injEq] at h
      obtain ⟨h1, h2, h3⟩ := h
      cases ez : i.zero with
      | none => rw [ez] at h1; cases h1
      | some z => rw [ez] at h1; exact ⟨i, z, rfl, ez, h2, h3, Option.some.inj h1⟩
  pos := by decide
  byt := by decide
  len := fun _ => rfl
  one := fun a u hu => by
    simp only [ptrow, List.mem_cons, List.not_mem_nil, or_false] at hu
    subst hu
    rfl
theorem within_any (a l m : Int) (b : Bool) (hb : (decide (l ≤ a) && decide (a ≤ m)) = b) (w : World) : Calls Tryz.prog 93 #[.int .i64 a, .int .i64 l, .int .i64 m] w fun e w' => e = .returned (.bool b) ∧ w = w' := by
  subst hb
  by_cases h1 : l ≤ a
  · have d1 : decide (l ≤ a) = true := by simpa using h1
    rw [d1]
    go_enter Tryz.func93, Tryz.ntmps93
    go_wp2
    go_ret
    exact ⟨rfl, rfl⟩
  · have d1 : decide (l ≤ a) = false := by simpa using h1
    rw [d1]
    clear h1
    go_enter Tryz.func93, Tryz.ntmps93
    go_wp2
    go_ret
    exact ⟨rfl, rfl⟩
/-- Caps that a table may have. -/
def CapsOk (C : Cps) : Prop := (1 ≤ C.s ∧ C.s ≤ 16) ∧ (1 ≤ C.h ∧ C.h ≤ 64) ∧ (1 ≤ C.r ∧ C.r ≤ 128) ∧ (0 ≤ C.p ∧ C.p ≤ 8)
instance (C : Cps) : Decidable (CapsOk C) := by unfold CapsOk; infer_instance
set_option maxHeartbeats 2000000 in
theorem possible_any (C : Cps) (w : World) : Calls Tryz.prog 43 #[capV C] w fun e w' => e = .returned (.bool (decide (CapsOk C))) ∧ Nw w w' := by
  obtain ⟨a, b, c, d⟩ := C
  obtain ⟨b1, h1⟩ : ∃ x, (decide ((1 : Int) ≤ a) && decide (a ≤ 16)) = x := ⟨_, rfl⟩
  obtain ⟨b2, h2⟩ : ∃ x, (decide ((1 : Int) ≤ b) && decide (b ≤ 64)) = x := ⟨_, rfl⟩
  obtain ⟨b3, h3⟩ : ∃ x, (decide ((1 : Int) ≤ c) && decide (c ≤ 128)) = x := ⟨_, rfl⟩
  obtain ⟨b4, h4⟩ : ∃ x, (decide ((0 : Int) ≤ d) && decide (d ≤ 8)) = x := ⟨_, rfl⟩
  have hR : decide (CapsOk ⟨a, b, c, d⟩) = (b1 && (b2 && (b3 && b4))) := by
    rw [← h1, ← h2, ← h3, ← h4]
    unfold CapsOk
    rw [Bool.eq_iff_iff]
    simp only [decide_eq_true_eq, Bool.and_eq_true]
    exact decide_eq_true_iff
  rw [hR]
  have H1 := Lib.hid (fun w => within_any a 1 16 b1 h1 w)
  have H2 := Lib.hid (fun w => within_any b 1 64 b2 h2 w)
  have H3 := Lib.hid (fun w => within_any c 1 128 b3 h3 w)
  have H4 := Lib.hid (fun w => within_any d 0 8 b4 h4 w)
  have HG := Lib.hid ((Nw.refl w).alloc (.cells #[.int .i64 a, .int .i64 b, .int .i64 c, .int .i64 d] 23))
  clear h1 h2 h3 h4 hR
  cases b1
  · go_enter Tryz.func43, Tryz.ntmps43
    go_wp2_with (go_at_call 93; (with_reducible refine (H1.out _).mono ?_); rintro e w' ⟨rfl, rfl⟩)
    go_ret
    exact ⟨rfl, HG.out⟩
  cases b2
  · go_enter Tryz.func43, Tryz.ntmps43
    go_wp2_with (go_at_call 93; (first | (with_reducible refine (H1.out _).mono ?_) | (with_reducible refine (H2.out _).mono ?_)); rintro e w' ⟨rfl, rfl⟩)
    go_ret
    exact ⟨rfl, HG.out⟩
  cases b3
  · go_enter Tryz.func43, Tryz.ntmps43
    go_wp2_with (go_at_call 93; (first | (with_reducible refine (H1.out _).mono ?_) | (with_reducible refine (H2.out _).mono ?_) | (with_reducible refine (H3.out _).mono ?_)); rintro e w' ⟨rfl, rfl⟩)
    go_ret
    exact ⟨rfl, HG.out⟩
  · go_enter Tryz.func43, Tryz.ntmps43
    go_wp2_with (go_at_call 93; (first | (with_reducible refine (H1.out _).mono ?_) | (with_reducible refine (H2.out _).mono ?_) | (with_reducible refine (H3.out _).mono ?_) | (with_reducible refine (H4.out _).mono ?_)); rintro e w' ⟨rfl, rfl⟩)
    go_ret
    exact ⟨rfl, HG.out⟩
/-! ### New -/
/-- Between two rounds of New. -/
structure NewT (W : World) (o hb po n : Nat) (C : Cps) (v : Value) (ds : List DB) (L : List Bool) (F : Nat → Prop) (X : World) : Prop where
  c0 : X.cell? ⟨o, 0, none⟩ = some (.pointer none)
  c1 : X.cell? ⟨o, 1, none⟩ = some (.int .i64 C.s)
  c2 : X.cell? ⟨o, 2, none⟩ = some (.int .i64 C.h)
  c3 : X.cell? ⟨o, 3, none⟩ = some (.int .i64 C.r)
  c4 : X.cell? ⟨o, 4, none⟩ = some (.int .i64 C.p)
  c5 : X.cell? ⟨o, 5, none⟩ = some (ptN po)
  c6 : X.cell? ⟨o, 6, none⟩ = some v
  c7 : X.cell? ⟨o, 7, none⟩ = some (.map (some hb))
  fz : ∀ j, X.frozen? ⟨o, j, none⟩ = false
  own : Own 90 1 ptrow X (o + 1) v (ds.map DB.o)
  map : MapI X hb []
  db : DtB X po n ds L F
  em : ∀ d ∈ ds, d.l = [] ∧ o < d.o ∧ o < d.mb ∧ ∀ b, v.ownBlock = some b → b ≠ d.o ∧ b ≠ d.mb
  nw : Nw W X
  ho : hb + 1 = o
  hw : W.heap.size ≤ hb
  hF : ∀ k, F k → k < hb ∧ W.heap.size ≤ k
theorem NewT.step {W X Y : World} {o hb po n : Nat} {C : Cps} {v : Value} {ds : List DB} {L : List Bool} {F : Nat → Prop} (h : NewT W o hb po n C v ds L F X) (g : Nw X Y) : NewT W o hb po n C v ds L F Y := by
  have hl := World.block_lt_of_cell? _ _ h.c0
  exact ⟨g.kp h.c0, g.kp h.c1, g.kp h.c2, g.kp h.c3, g.kp h.c4, g.kp h.c5, g.kp h.c6, g.kp h.c7, fun j => (g.froz hl).trans (h.fz j), onw h.own g, h.map.nw g, h.db.nw g, h.em, h.nw.trans g, h.ho, h.hw, h.hF⟩
theorem NewT.push {W X : World} {o hb po n : Nat} {C : Cps} {v : Value} {ds : List DB} {L : List Bool} {F : Nat → Prop} (h : NewT W o hb po n C v ds L F X) (hl : ds.length ≤ 100) {B mb : Nat} (hB : Db X B mb po n [] L F) (h1 : o < B) (h2 : o < mb) (hne : ∀ d ∈ ds, mb ≠ d.mb) (hv : ∀ b, v.ownBlock = some b → b ≠ B ∧ b ≠ mb) :
    ∃ g cap w3, (Builtin.append_ #[87, 87] 87 #[v, .slice (some ⟨X.heap.size, 0, none⟩) 1 1]).run Tryz.prog (X.alloc (.cells #[ptN B] 90)) = .ok (.slice (some ⟨g, 0, none⟩) (ds.length + 1) cap) w3 ∧
      (w3.cell? ⟨o, 6, none⟩ = some v ∧ w3.frozen? ⟨o, 6, none⟩ = false ∧ o < w3.heap.size) ∧ NewT W o hb po n C (.slice (some ⟨g, 0, none⟩) (ds.length + 1) cap) (ds ++ [⟨B, mb, []⟩]) L F (w3.setCell ⟨o, 6, none⟩ (.slice (some ⟨g, 0, none⟩) (ds.length + 1) cap)) ∧ ∀ b, b < o → (w3.setCell ⟨o, 6, none⟩ (.slice (some ⟨g, 0, none⟩) (ds.length + 1) cap)).heap[b]? = X.heap[b]? := by
  have hol := World.block_lt_of_cell? _ _ h.c0
  simp only at hol
  have hal := allocAt X (.cells #[ptN B] 90)
  have g0 : Nw X (X.alloc (.cells #[ptN B] 90)) := (Nw.refl X).alloc _
  obtain ⟨y, hy⟩ : ∃ y, X.alloc (.cells #[ptN B] 90) = y := ⟨_, rfl⟩
  rw [hy] at hal g0
  rw [hy]
  have hs := h.step g0
  have hBy := hB.nw g0
  obtain ⟨v', w3, hr, hO, hg, hp, g, cap, rfl⟩ := Own.push elemPt hs.own B X.heap.size 1 (fun j u hu => by
    rw [hcell hal]
    simpa [ptrow] using hu) (by rw [List.length_map]; omega) (by have := g0.sz; omega)
  rw [List.length_map] at hr hp hO
  have hgo : o < g := oge hO rfl
  have t := gro_tch hg
  have hvo : ∀ b, v.ownBlock = some b → o < b := fun b e => oge h.own e
  have hvlt : ∀ b, v.ownBlock = some b → b < X.heap.size := fun b e => olt h.own e
  have hyl := hlt hal
  have hSo : ¬ (v.ownBlock = some o) := fun e => by have := hvo o e; omega
  have hoy : o < y.heap.size := Nat.lt_of_lt_of_le hol g0.sz
  obtain ⟨z, hz⟩ : ∃ z, w3.setCell ⟨o, 6, none⟩ (.slice (some ⟨g, 0, none⟩) (ds.length + 1) cap) = z := ⟨_, rfl⟩
  have t2 : Tch (fun b => b = o) w3 z := by rw [← hz]; exact setCell_at w3 ⟨o, 6, none⟩ _
  have hor : o < w3.heap.size := Nat.lt_of_lt_of_le hoy t.size
  have tt : Tch (fun b => v.ownBlock = some b ∨ b = o) y z := (t.mono fun _ _ e => .inl e).trans (t2.mono fun _ _ e => .inr e)
  have ct : ∀ {j : Nat} {u : Value}, j ≠ 6 → y.cell? ⟨o, j, none⟩ = some u → z.cell? ⟨o, j, none⟩ = some u := fun {j u} hj hc => by
    rw [← hz, World.cell?_setCell_other _ _ _ _ (by first | (simp; done) | (simp; exact fun e => hj e))]
    exact (t.cell hoy hSo).trans hc
  have c6' : w3.cell? ⟨o, 6, none⟩ = some v := (t.cell hoy hSo).trans hs.c6
  have hf' : ∀ j, w3.frozen? ⟨o, j, none⟩ = false := fun j => (t.froz hoy hSo).trans (hs.fz j)
  have hgn : ∀ b, (g = b) → v.ownBlock = some b ∨ b = y.heap.size := fun b e => by
    rcases hp with q | q
    · exact .inl (q.symm.trans (congrArg some e))
    · exact .inr (e.symm.trans (Option.some.inj q))
  have hdn : ∀ d ∈ ds, ¬ (v.ownBlock = some d.o ∨ d.o = o) ∧ ¬ (v.ownBlock = some d.mb ∨ d.mb = o) := fun d hd => by
    obtain ⟨_, k1, k2, k3⟩ := h.em d hd
    exact ⟨fun e => e.elim (fun e => (k3 _ e).1 rfl) (fun e => by omega), fun e => e.elim (fun e => (k3 _ e).2 rfl) (fun e => by omega)⟩
  have hFn : ∀ k, F k → ¬ (v.ownBlock = some k ∨ k = o) := fun k hk e => by
    have := h.hF k hk
    have := h.ho
    exact e.elim (fun e => by have := hvo k e; omega) (fun e => by omega)
  have hbk : ∀ b, b < o → z.heap[b]? = X.heap[b]? := fun b hb => by
    rw [tt.block b (by omega) (fun e => e.elim (fun e => by have := hvo b e; omega) (fun e => by omega)), g0.block b (by omega)]
  refine ⟨g, cap, w3, hr, ⟨c6', hf' 6, hor⟩, ?_, by rw [hz]; exact hbk⟩
  rw [hz]
  refine ⟨ct (by decide) hs.c0, ct (by decide) hs.c1, ct (by decide) hs.c2, ct (by decide) hs.c3, ct (by decide) hs.c4, ct (by decide) hs.c5, by rw [← hz]; exact World.cell?_setCell_same _ _ _ c6', ct (by decide) hs.c7, fun j => by rw [← hz, World.frozen?_setCell]; exact hf' j, ?_, ?_, ⟨?_, ?_, ?_⟩, ?_, ?_, h.ho, h.hw, h.hF⟩
  · have em : (ds ++ [(⟨B, mb, []⟩ : DB)]).map DB.o = ds.map DB.o ++ [B] := by simp
    rw [em]
    have := own_tchS hO t2 (fun b hb e => by have e' : g = b := Option.some.inj hb; omega)
    exact this
  · exact hs.map.tch tt (fun e => by
      have := h.ho
      exact e.elim (fun e => by have := hvo _ e; omega) (fun e => by omega))
  · intro d hd
    rcases List.mem_append.1 hd with q | q
    · have k := hs.db.db d q
      rw [(h.em d q).1] at k ⊢
      exact k.tch tt (hdn d q).1 (hdn d q).2 hFn (fun x hx => by cases hx)
    · obtain rfl : d = ⟨B, mb, []⟩ := by simpa using q
      exact hBy.tch tt (fun e => e.elim (fun e => (hv _ e).1 rfl) (fun e => by have e' : B = o := e; omega)) (fun e => e.elim (fun e => (hv _ e).2 rfl) (fun e => by have e' : mb = o := e; omega)) hFn (fun x hx => by cases hx)
  · intro i j hi hj ne
    rw [List.length_append, List.length_singleton] at hi hj
    by_cases q1 : i < ds.length
    · rw [List.getElem_append_left q1]
      by_cases q2 : j < ds.length
      · rw [List.getElem_append_left q2]
        exact h.db.ne i j q1 q2 ne
      · rw [List.getElem_append_right (by omega)]
        simp only [List.getElem_singleton]
        exact (hne _ (List.getElem_mem q1)).symm
    · rw [List.getElem_append_right (by omega)]
      have q2 : j < ds.length := by omega
      rw [List.getElem_append_left q2]
      simp only [List.getElem_singleton]
      exact hne _ (List.getElem_mem q2)
  · exact hs.db.pol.tch tt hFn
  · intro d hd
    have hyB := hB.ol
    have hyM := hB.map.lt
    have hys := g0.sz
    rcases List.mem_append.1 hd with q | q
    · obtain ⟨k0, k1, k2, k3⟩ := h.em d q
      have k4 := (h.db.db d q).ol
      have k5 := (h.db.db d q).map.lt
      refine ⟨k0, k1, k2, fun b e => ?_⟩
      rcases hgn b (Option.some.inj e) with e | e
      · exact k3 b e
      · exact ⟨by omega, by omega⟩
    · obtain rfl : d = ⟨B, mb, []⟩ := by simpa using q
      refine ⟨rfl, h1, h2, fun b e => ?_⟩
      rcases hgn b (Option.some.inj e) with e | e
      · exact hv b e
      · exact show b ≠ B ∧ b ≠ mb from ⟨by omega, by omega⟩
  · refine nw_tch hs.nw tt (fun k e => ?_)
    have := h.ho
    have := h.hw
    exact e.elim (fun e => by have := hvo k e; omega) (fun e => by omega)
/-- The table that New makes. -/
theorem newT_start {W X : World} {po n : Nat} {C : Cps} {L : List Bool} {F : Nat → Prop} (hp : Pol X po L F) (g : Nw W X) (hF : ∀ k, F k → W.heap.size ≤ k) (T : TypeId) :
    NewT W (X.heap.size + 1) X.heap.size po n C (.slice none 0 0) [] L F ((X.alloc (.map #[] 0)).alloc (.cells #[.pointer none, .int .i64 C.s, .int .i64 C.h, .int .i64 C.r, .int .i64 C.p, ptN po, .slice none 0 0, .map (some X.heap.size)] T)) := by
  have hs1 : (X.alloc (.map #[] 0)).heap.size = X.heap.size + 1 := by simp
  have hb := allocAt (X.alloc (.map #[] 0)) (.cells #[.pointer none, .int .i64 C.s, .int .i64 C.h, .int .i64 C.r, .int .i64 C.p, ptN po, .slice none 0 0, .map (some X.heap.size)] T)
  rw [hs1] at hb
  have hN : Nw X ((X.alloc (.map #[] 0)).alloc (.cells #[.pointer none, .int .i64 C.s, .int .i64 C.h, .int .i64 C.r, .int .i64 C.p, ptN po, .slice none 0 0, .map (some X.heap.size)] T)) := ((Nw.refl X).alloc _).alloc _
  have hM := (MapI.made X).nw ((Nw.refl _).alloc (.cells #[.pointer none, .int .i64 C.s, .int .i64 C.h, .int .i64 C.r, .int .i64 C.p, ptN po, .slice none 0 0, .map (some X.heap.size)] T))
  generalize (X.alloc (.map #[] 0)).alloc (.cells #[.pointer none, .int .i64 C.s, .int .i64 C.h, .int .i64 C.r, .int .i64 C.p, ptN po, .slice none 0 0, .map (some X.heap.size)] T) = z at *
  exact ⟨hcell (j := 0) hb, hcell (j := 1) hb, hcell (j := 2) hb, hcell (j := 3) hb, hcell (j := 4) hb, hcell (j := 5) hb, hcell (j := 6) hb, hcell (j := 7) hb, fun j => hfz hb, World.ownsRow_nil _ _ _ _, hM, ⟨(fun d hd => by cases hd), (fun i j hi => by simp at hi), hp.nw hN⟩, (fun d hd => by cases hd), g.trans hN, rfl, g.sz, fun k hk => ⟨hp.own k hk, hF k hk⟩⟩
theorem hss_nil {ds : List DB} (h : ∀ d ∈ ds, d.l = []) : hssD ds = List.replicate ds.length [] := by
  unfold hssD
  refine List.eq_replicate_iff.2 ⟨by rw [List.length_map], fun x hx => ?_⟩
  obtain ⟨d, hd, rfl⟩ := List.mem_map.1 hx
  rw [h d hd]
  rfl
theorem hv_nil {ds : List DB} (h : ∀ d ∈ ds, d.l = []) : hvT ds = [] := by
  unfold hvT
  rw [List.flatMap_eq_nil_iff]
  intro d hd
  rw [h d hd]
  rfl
theorem NewT.done {W X : World} {o hb po n S N : Nat} {C : Cps} {g cap : Nat} {ds : List DB} {F : Nat → Prop} (h : NewT W o hb po n C (.slice (some ⟨g, 0, none⟩) ds.length cap) ds (List.replicate N false) F X) (hl : ds.length = S) :
    ∃ J, Tab (X.setCell ⟨o, 0, none⟩ (ptN o)) o S n N 0 C (List.replicate S []) (List.replicate N false) J ∧ Nw W (X.setCell ⟨o, 0, none⟩ (ptN o)) ∧ ∀ b, J b → W.heap.size ≤ b := by
  have hol := World.block_lt_of_cell? _ _ h.c0
  simp only at hol
  obtain ⟨z, hz⟩ : ∃ z, X.setCell ⟨o, 0, none⟩ (ptN o) = z := ⟨_, rfl⟩
  have t : Tch (fun b => b = o) X z := by rw [← hz]; exact setCell_at X ⟨o, 0, none⟩ _
  have hgo : o < g := oge h.own rfl
  have hgl : g < X.heap.size := olt h.own rfl
  have ho1 := h.ho
  have hw1 := h.hw
  have ct : ∀ {j : Nat} {u : Value}, j ≠ 0 → X.cell? ⟨o, j, none⟩ = some u → z.cell? ⟨o, j, none⟩ = some u := fun {j u} hj hc => by
    rw [← hz, World.cell?_setCell_other _ _ _ _ (by first | (simp; done) | (simp; exact fun e => hj e))]
    exact hc
  have hdb : DtB z po n ds (List.replicate N false) F := by
    refine h.db.tchS t fun b hb e => ?_
    have e' : b = o := e
    rcases hb with hb | ⟨d, hd, hb | hb | ⟨x, hx, _⟩⟩
    · have := h.hF b hb; omega
    · have := (h.em d hd).2.1; omega
    · have := (h.em d hd).2.2.1; omega
    · rw [(h.em d hd).1] at hx; cases hx
  have hin : ∀ b, DtIn ds F b → b ≠ o ∧ b ≠ g ∧ b ≠ hb ∧ W.heap.size ≤ b := fun b hb' => by
    rcases hb' with hb' | ⟨d, hd, hb' | hb' | ⟨x, hx, _⟩⟩
    · have := h.hF b hb'; exact ⟨by omega, by omega, by omega, by omega⟩
    · have k := h.em d hd
      have k2 := k.2.1
      have k3 := (k.2.2.2 g rfl).1
      exact ⟨by omega, fun e => k3 (by omega), by omega, by omega⟩
    · have k := h.em d hd
      have k2 := k.2.2.1
      have k3 := (k.2.2.2 g rfl).2
      exact ⟨by omega, fun e => k3 (by omega), by omega, by omega⟩
    · rw [(h.em d hd).1] at hx; cases hx
  have hem : ∀ d ∈ ds, d.l = [] := fun d hd => (h.em d hd).1
  rw [hz]
  refine ⟨TbJ o g hb ds F, ⟨g, cap, hb, po, ds, [], F, ⟨by rw [← hz]; exact World.cell?_setCell_same _ _ _ h.c0, ct (by decide) h.c1, ct (by decide) h.c2, ct (by decide) h.c3, ct (by decide) h.c4, ct (by decide) h.c5, ct (by decide) h.c6, ct (by decide) h.c7, fun i hi => ?_, Nat.lt_of_lt_of_le hgl t.size, h.map.tch t (by show ¬ hb = o; omega), hdb, fun e => (hin _ e).1 rfl, fun e => (hin _ e).2.1 rfl, fun e => (hin _ e).2.2.1 rfl, by omega⟩, by rw [hv_nil hem], by rw [hss_nil hem, hl], rfl, tbok_nil S n N⟩, nw_tch h.nw t (fun k e => by have e' : k = o := e; omega), fun b hb' => ?_⟩
  · refine (t.cell hgl (by show ¬ g = o; omega)).trans ?_
    obtain ⟨a, c, e, q | ⟨b, o', rfl, hc⟩⟩ := Own.rd elemPt.len h.own
    · have := congrArg List.length q.1
      rw [List.length_map] at this
      simp at this
      rw [this] at hi
      simp at hi
    · simp only [Value.slice.injEq, Option.some.injEq, Addr.mk.injEq, and_true] at e
      obtain ⟨⟨rfl, rfl⟩, _⟩ := e
      have := hc.cell i (by rw [List.length_map]; exact hi) 0 (ptN ds[i].o) (by simp [ptrow])
      simpa using this
  · rcases hb' with e | e | e | e
    · omega
    · omega
    · omega
    · exact (hin b e).2.2.2
/-- What New gives. -/
def MadeT (W : World) (S n N : Nat) (p : Int) (e : Ending) (W' : World) : Prop := ∃ o J, e = .returned (.tuple #[ptN o, .int .i64 0]) ∧ Tab W' o S n N 0 ⟨S, n, N, p⟩ (List.replicate S []) (List.replicate N false) J ∧ Nw W W' ∧ ∀ b, J b → W.heap.size ≤ b
set_option maxRecDepth 20000 in
set_option maxHeartbeats 4000000 in
theorem newT_d (S n N : Nat) (p : Int) (h : CapsOk ⟨S, n, N, p⟩) (W : World) : Calls Tryz.prog 9 #[.agg #[.int .i64 S, .int .i64 n, .int .i64 N, .int .i64 p]] W (MadeT W S n N p) := by
  have hmm := @run_makeMap Tryz.prog
  obtain ⟨⟨s1, s2⟩, ⟨n1, n2⟩, ⟨N1, N2⟩, _⟩ := id h
  simp only at s1 s2 n1 n2 N1 N2
  have HS := Lib.hid (And.intro (show 1 ≤ S ∧ S ≤ 16 by omega) (And.intro (show 1 ≤ n ∧ n ≤ 64 by omega) (show N ≤ 128 by omega)))
  have hPo := possible_any ⟨S, n, N, p⟩
  rw [decide_eq_true h] at hPo
  have HPo := Lib.hid hPo
  have hal := allocAt W (.cells #[.int .i64 S, .int .i64 n, .int .i64 N, .int .i64 p] 23)
  obtain ⟨z, hz⟩ : ∃ z, W.alloc (.cells #[.int .i64 S, .int .i64 n, .int .i64 N, .int .i64 p] 23) = z := ⟨_, rfl⟩
  have g1 : Nw W z := by rw [← hz]; exact (Nw.refl W).alloc _
  rw [hz] at hal
  have HZ := Lib.hid hz
  have HG := Lib.hid (And.intro g1 hal)
  have c0 := hcell (j := 0) hal
  have c1 := hcell (j := 1) hal
  have c2 := hcell (j := 2) hal
  have c3 := hcell (j := 3) hal
  have cl := hlt hal
  clear hz g1 hal s1 s2 n1 n2 N1 N2 h hPo
  go_enter Tryz.func9, Tryz.ntmps9
  go_wp2_with fail
  rw [HZ.out]
  obtain ⟨cb, hcb⟩ : ∃ cb, W.heap.size = cb := ⟨_, rfl⟩
  have HCb := Lib.hid hcb
  rw [hcb] at c0 c1 c2 c3 cl ⊢
  clear hcb
  refine (HPo.out z).mono ?_
  rintro e z1 ⟨rfl, g1⟩
  have HG1 := Lib.hid (show Nw W z1 ∧ z1.heap[cb]? = some (.cells #[.int .i64 S, .int .i64 n, .int .i64 N, .int .i64 p] 23) from ⟨HG.out.1.trans g1, by rw [← HCb.out]; exact g1.at' HG.out.2⟩)
  clear c0 c1 c2 c3 cl g1 HG
  have c0 := hcell (j := 0) HG1.out.2
  have c1 := hcell (j := 1) HG1.out.2
  have c2 := hcell (j := 2) HG1.out.2
  have c3 := hcell (j := 3) HG1.out.2
  have cl := hlt HG1.out.2
  go_wp2_with fail
  refine (pnew_any N HS.out.2.2 z1).mono ?_
  rintro e z2 ⟨po, F, rfl, hp, g2, hF⟩
  have HG2 := Lib.hid (show Nw W z2 ∧ z2.heap[cb]? = some (.cells #[.int .i64 S, .int .i64 n, .int .i64 N, .int .i64 p] 23) from ⟨HG1.out.1.trans g2, g2.at' HG1.out.2⟩)
  clear c0 c1 c2 c3 cl
  have c0 := hcell (j := 0) HG2.out.2
  have c1 := hcell (j := 1) HG2.out.2
  have c2 := hcell (j := 2) HG2.out.2
  have c3 := hcell (j := 3) HG2.out.2
  have cl := hlt HG2.out.2
  have HT := Lib.hid (newT_start (C := ⟨S, n, N, p⟩) (n := n) hp HG2.out.1 (fun k hk => Nat.le_trans HG1.out.1.sz (hF k hk)) 89)
  clear hp g2 hF HG1
  go_wp2_with fail
  go_loopw [7, 8, 25] (fun _ _ i wr => ∃ (j : Nat) (s0 : Option Addr) (s1 s2 : Nat) (ds : List DB), i = .int .i64 j ∧ j ≤ S ∧ Hid (NewT W (z2.heap.size + 1) z2.heap.size po n ⟨S, n, N, p⟩ (.slice s0 s1 s2) ds (List.replicate N false) F wr ∧ ds.length = j ∧ (s0 = none → ds = []) ∧ wr.heap[cb]? = some (.cells #[.int .i64 S, .int .i64 n, .int .i64 N, .int .i64 p] 23))) (fun _ _ i _ => S - (intOf i).toNat)
  case atStart => exact ⟨0, none, 0, 0, [], rfl, Nat.zero_le _, HT.out, rfl, fun _ => rfl, (((Nw.refl z2).alloc _).alloc _).at' HG2.out.2⟩
  case round =>
    obtain ⟨j, s0, s1', s2', ds, rfl, hj, HI⟩ := hrel
    by_cases hjl : j < S
    · have hnt := HI.out.1
      have HNw := Lib.hid (new_d hnt.db.pol n HS.out.2.1.1 HS.out.2.1.2)
      have c1 := hcell (j := 1) HI.out.2.2.2
      have cl := hlt HI.out.2.2.2
      have hji : (j : Int) < (S : Int) := by omega
      have hwj : wrap64 ((j : Int) + 1) = (j : Int) + 1 := by have := HS.out.1.2; unfold wrap64; omega
      clear hnt c0 c2 c3
      go_wp2_with fail
      refine HNw.out.mono ?_
      rintro e w2 ⟨B, mb, rfl, hB, g2, hBo, hBm⟩
      have hnt := HI.out.1.step g2
      have hor := World.block_lt_of_cell? _ _ HI.out.1.c0
      simp only at hor
      obtain ⟨g, cap, w3, hrun, hst, hnx, hbk⟩ := hnt.push (by have := HI.out.2.1; have := HS.out.1.2; omega) hB (by omega) (by omega) (fun d hd => by have := (HI.out.1.db.db d hd).map.lt; omega) (fun b e => by have := olt HI.out.1.own e; exact ⟨by omega, by omega⟩)
      have HR := Lib.hid hrun
      have c6 := hnt.c6
      have hol2 := World.block_lt_of_cell? _ _ hnt.c0
      simp only at hol2
      obtain ⟨t1, t2, t3⟩ := hst
      have hcl := hlt HG2.out.2
      have HI3 := Lib.hid (show NewT W (z2.heap.size + 1) z2.heap.size po n ⟨S, n, N, p⟩ (.slice (some ⟨g, 0, none⟩) (ds.length + 1) cap) (ds ++ [⟨B, mb, []⟩]) (List.replicate N false) F (w3.setCell ⟨z2.heap.size + 1, 6, none⟩ (.slice (some ⟨g, 0, none⟩) (ds.length + 1) cap)) ∧ (ds ++ [(⟨B, mb, []⟩ : DB)]).length = j + 1 ∧ (some (⟨g, 0, none⟩ : Addr) = none → ds ++ [(⟨B, mb, []⟩ : DB)] = []) ∧ (w3.setCell ⟨z2.heap.size + 1, 6, none⟩ (.slice (some ⟨g, 0, none⟩) (ds.length + 1) cap)).heap[cb]? = some (.cells #[.int .i64 S, .int .i64 n, .int .i64 N, .int .i64 p] 23) from
        ⟨hnx, by rw [List.length_append, HI.out.2.1]; rfl, (fun e => by cases e), (hbk cb (by omega)).trans (g2.at' HI.out.2.2.2)⟩)
      clear hrun hnx hnt hB hBo hBm hor HNw HI hbk hcl
      go_wp2_with (at_builtin; refine wpl_app (by rfl) (.tmp 38) (.tmp 40) 87 rfl _ _ _ _ (by first | rfl | simp [Act.eval, *]) (by first | rfl | simp [Act.eval, *]) HR.out ?_)
      go_roundw
      case rel => exact ⟨j + 1, _, _, _, _, congrArg (Value.int .i64) (by first | exact nxU j | exact hwj.trans (nxU j)), hjl, HI3⟩
      case measure => first | exact downU S j hjl | (rw [hwj]; exact downU S j hjl)
    · obtain rfl : j = S := by omega
      have hnt := HI.out.1
      have hlen := HI.out.2.1
      obtain ⟨g, rfl⟩ : ∃ g, s0 = some ⟨g, 0, none⟩ := by
        rcases oform hnt.own with ⟨e, q⟩ | ⟨g, cap, e⟩
        · rw [List.length_map] at q
          have := HS.out.1.1
          omega
        · simp only [Value.slice.injEq] at e
          exact ⟨g, e.1⟩
      have hs1 : s1' = ds.length := by
        obtain ⟨a, c, e, _⟩ := Own.rd elemPt.len hnt.own
        simp only [Value.slice.injEq, List.length_map] at e
        exact e.2.1
      rw [hs1] at hnt
      obtain ⟨J, hJ1, hJ2, hJ3⟩ := hnt.done hlen
      have HE := Lib.hid (show MadeT W j n N p (.returned (.tuple #[ptN (z2.heap.size + 1), .int .i64 0])) _ from ⟨_, J, rfl, hJ1, hJ2, hJ3⟩)
      have c0 := hnt.c0
      have fz0 := hnt.fz 0
      have hol := World.block_lt_of_cell? _ _ hnt.c0
      simp only at hol
      clear hnt hJ1 hJ2 hJ3 HI HT
      go_wp2
      exact bodyPost_ret (v := .tuple #[ptN (z2.heap.size + 1), .int .i64 0]) (by simp [results, Tryz.results9, go_sem, *]) rfl HE.out
theorem newT_bad (C : Cps) (h : ¬ CapsOk C) (W : World) : Calls Tryz.prog 9 #[capV C] W fun e W' => e = .returned (.tuple #[.pointer none, .int .i64 2]) ∧ Nw W W' := by
  have hPo := possible_any C
  rw [decide_eq_false h] at hPo
  have HPo := Lib.hid hPo
  obtain ⟨a, b, c, d⟩ := C
  have hal := allocAt W (.cells #[.int .i64 a, .int .i64 b, .int .i64 c, .int .i64 d] 23)
  obtain ⟨z, hz⟩ : ∃ z, W.alloc (.cells #[.int .i64 a, .int .i64 b, .int .i64 c, .int .i64 d] 23) = z := ⟨_, rfl⟩
  have g1 : Nw W z := by rw [← hz]; exact (Nw.refl W).alloc _
  rw [hz] at hal
  have HZ := Lib.hid hz
  have HG := Lib.hid g1
  have c0 := hcell (j := 0) hal
  have c1 := hcell (j := 1) hal
  have c2 := hcell (j := 2) hal
  have c3 := hcell (j := 3) hal
  have cl := hlt hal
  clear hz g1 hal h hPo
  go_enter Tryz.func9, Tryz.ntmps9
  go_wp2_with fail
  rw [HZ.out]
  refine (HPo.out z).mono ?_
  rintro e z1 ⟨rfl, g1⟩
  have HE := Lib.hid (HG.out.trans g1)
  clear g1 HG
  go_wp2
  exact bodyPost_ret (v := .tuple #[.pointer none, .int .i64 2]) (by simp [results, Tryz.results9, go_sem, *]) rfl ⟨rfl, HE.out⟩
end Go.Proofs.YtpffldfpabglbaaGreatDoor
end

/- The library's SortFunc at this program, over what is held, laid by the kit's own command in plain words. -/
section
namespace Go.Proofs
open Go.Shelf
def Tryz.sortL_ren : Go.Shelf.Ren := ⟨fun | 6 => 109 | 15 => 106 | 14 => 160 | 28 => 157 | 29 => 158 | 20 => 194 | 21 => 195 | 22 => 196 | 23 => 197 | 24 => 198 | 25 => 199 | 26 => 200 | 27 => 201 | 46 => 222 | 47 => 190 | 48 => 191 | 49 => 223 | 50 => 224 | 57 => 233 | n => n, fun | 22 => 45 | 24 => 44 | 25 => 147 | 3 => 3 | 39 => 144 | 0 => 0 | 53 => 149 | 55 => 187 | 4 => 4 | 46 => 180 | 45 => 179 | 50 => 53 | 5 => 5 | 9 => 9 | 66 => 213 | 70 => 217 | 76 => 239 | 77 => 55 | n => n, fun | n => n⟩
theorem Tryz.sortL : Go.Proofs.SlLaysF0.n6 Tryz.prog Tryz.sortL_ren := {
  mixed := by kernel_rfl
  f6 := ⟨Tryz.f109.name, by decide, Tryz.func109.trans (congrArg some (by kernel_rfl))⟩
  f14 := ⟨Tryz.f160.name, by decide, Tryz.func160.trans (congrArg some (by kernel_rfl))⟩
  f15 := Tryz.func106.trans (congrArg some (by kernel_rfl))
  f20 := ⟨Tryz.f194.name, by decide, Tryz.func194.trans (congrArg some (by kernel_rfl))⟩
  f21 := ⟨Tryz.f195.name, by decide, Tryz.func195.trans (congrArg some (by kernel_rfl))⟩
  f22 := ⟨Tryz.f196.name, by decide, Tryz.func196.trans (congrArg some (by kernel_rfl))⟩
  f23 := ⟨Tryz.f197.name, by decide, Tryz.func197.trans (congrArg some (by kernel_rfl))⟩
  f24 := ⟨Tryz.f198.name, by decide, Tryz.func198.trans (congrArg some (by kernel_rfl))⟩
  f25 := ⟨Tryz.f199.name, by decide, Tryz.func199.trans (congrArg some (by kernel_rfl))⟩
  f26 := ⟨Tryz.f200.name, by decide, Tryz.func200.trans (congrArg some (by kernel_rfl))⟩
  f27 := ⟨Tryz.f201.name, by decide, Tryz.func201.trans (congrArg some (by kernel_rfl))⟩
  f28 := Tryz.func157.trans (congrArg some (by kernel_rfl))
  f29 := Tryz.func158.trans (congrArg some (by kernel_rfl))
  f46 := ⟨Tryz.f222.name, by decide, Tryz.func222.trans (congrArg some (by kernel_rfl))⟩
  f47 := Tryz.func190.trans (congrArg some (by kernel_rfl))
  f48 := Tryz.func191.trans (congrArg some (by kernel_rfl))
  f49 := ⟨Tryz.f223.name, by decide, Tryz.func223.trans (congrArg some (by kernel_rfl))⟩
  f50 := ⟨Tryz.f224.name, by decide, Tryz.func224.trans (congrArg some (by kernel_rfl))⟩
  f57 := ⟨Tryz.f233.name, by decide, Tryz.func233.trans (congrArg some (by kernel_rfl))⟩
  t0 := Tryz.underlying0
  a0 := Tryz.isAgg0
  z0 := Tryz.sizeOf0
  v0 := Tryz.zeroValue0
  t3 := Tryz.underlying3
  a3 := Tryz.isAgg3
  z3 := Tryz.sizeOf3
  v3 := Tryz.zeroValue3
  t4 := Tryz.underlying4
  a4 := Tryz.isAgg4
  z4 := Tryz.sizeOf4
  v4 := Tryz.zeroValue4
  t5 := Tryz.underlying5
  a5 := Tryz.isAgg5
  z5 := Tryz.sizeOf5
  v5 := Tryz.zeroValue5
  t9 := Tryz.underlying9
  a9 := Tryz.isAgg9
  z9 := Tryz.sizeOf9
  v9 := Tryz.zeroValue9
  t22 := Tryz.underlying45
  a22 := Tryz.isAgg45
  z22 := Tryz.sizeOf45
  v22 := Tryz.zeroValue45
  t25 := Tryz.underlying147
  a25 := Tryz.isAgg147
  z25 := Tryz.sizeOf147
  v25 := Tryz.zeroValue147
  t39 := Tryz.underlying144
  a39 := Tryz.isAgg144
  z39 := Tryz.sizeOf144
  v39 := Tryz.zeroValue144
  t45 := Tryz.underlying179
  a45 := Tryz.isAgg179
  z45 := Tryz.sizeOf179
  v45 := Tryz.zeroValue179
  t46 := Tryz.underlying180
  a46 := Tryz.isAgg180
  z46 := Tryz.sizeOf180
  v46 := Tryz.zeroValue180
  t50 := Tryz.underlying53
  a50 := Tryz.isAgg53
  z50 := Tryz.sizeOf53
  v50 := Tryz.zeroValue53
  t53 := Tryz.underlying149
  a53 := Tryz.isAgg149
  z53 := Tryz.sizeOf149
  v53 := Tryz.zeroValue149
  t55 := Tryz.underlying187
  a55 := Tryz.isAgg187
  z55 := Tryz.sizeOf187
  v55 := Tryz.zeroValue187
  t66 := Tryz.underlying213
  a66 := Tryz.isAgg213
  z66 := Tryz.sizeOf213
  v66 := Tryz.zeroValue213
  t70 := Tryz.underlying217
  a70 := Tryz.isAgg217
  z70 := Tryz.sizeOf217
  v70 := Tryz.zeroValue217
  t76 := Tryz.underlying239
  a76 := Tryz.isAgg239
  z76 := Tryz.sizeOf239
  v76 := Tryz.zeroValue239
  t77 := Tryz.underlying55
  a77 := Tryz.isAgg55
  z77 := Tryz.sizeOf55
  v77 := Tryz.zeroValue55 }
end Go.Proofs
end

/- The developers' table: held, Holds, All. -/
section
namespace Go.Proofs.YtpffldfpabglbaaGreatDoor
open Go.RowKit Go.Sort Go.Shelf
set_option linter.unusedVariables false      -- a contract need not use every name

/-- What the comparison reads. -/
abbrev TwoL (w : World) (x t r x' t' r' : Int) (a : World) : Prop := (a.cell? ⟨w.heap.size, 0, none⟩ = some (.int .i64 x) ∧ a.cell? ⟨w.heap.size, 1, none⟩ = some (.int .i64 t) ∧ a.cell? ⟨w.heap.size, 2, none⟩ = some (.int .i64 r) ∧ a.cell? ⟨w.heap.size + 1, 0, none⟩ = some (.int .i64 x') ∧ a.cell? ⟨w.heap.size + 1, 1, none⟩ = some (.int .i64 t') ∧ a.cell? ⟨w.heap.size + 1, 2, none⟩ = some (.int .i64 r')) ∧ w.heap.size + 1 < a.heap.size ∧ GG w a
theorem twoL_start (w : World) (x t r m x' t' r' m' : Int) (ty : TypeId) : TwoL w x t r x' t' r' (((w.alloc (.cells #[.int .i64 x, .int .i64 t, .int .i64 r, .int .i64 m] ty)).alloc (.cells #[.int .i64 x', .int .i64 t', .int .i64 r', .int .i64 m'] ty)).drew) := by
  have h1 := allocAt w (.cells #[.int .i64 x, .int .i64 t, .int .i64 r, .int .i64 m] ty)
  have hz : (w.alloc (.cells #[.int .i64 x, .int .i64 t, .int .i64 r, .int .i64 m] ty)).heap.size = w.heap.size + 1 := by simp
  have h2 := allocAt (w.alloc (.cells #[.int .i64 x, .int .i64 t, .int .i64 r, .int .i64 m] ty)) (.cells #[.int .i64 x', .int .i64 t', .int .i64 r', .int .i64 m'] ty)
  have h3 := ((Nw.refl (w.alloc (.cells #[.int .i64 x, .int .i64 t, .int .i64 r, .int .i64 m] ty))).alloc (.cells #[.int .i64 x', .int .i64 t', .int .i64 r', .int .i64 m'] ty)).at' h1
  rw [hz] at h2
  exact ⟨⟨hcell (j := 0) h3, hcell (j := 1) h3, hcell (j := 2) h3, hcell (j := 0) h2, hcell (j := 1) h2, hcell (j := 2) h2⟩, hlt h2, (((GG.refl w).alloc _).alloc _).drew⟩
theorem twoL_step {w a b : World} {x t r x' t' r' : Int} (g : GG a b) (h : TwoL w x t r x' t' r' a) : TwoL w x t r x' t' r' b := by
  obtain ⟨⟨h0, h1, h2, h3, h4, h5⟩, hs, hn⟩ := h
  exact ⟨⟨g.nw.kp h0, g.nw.kp h1, g.nw.kp h2, g.nw.kp h3, g.nw.kp h4, g.nw.kp h5⟩, Nat.lt_of_lt_of_le hs g.nw.sz, hn.trans g⟩
set_option maxRecDepth 10000 in
set_option maxHeartbeats 2000000 in
theorem heldCmp_any (x y : Hl) (w : World) : Calls Tryz.prog 110 #[.agg (hlrow x).toArray, .agg (hlrow y).toArray] w fun e w' => e = .returned (.int .i64 (cmpHl x y)) ∧ GG w w' := by
  obtain ⟨x, t, r, m⟩ := x
  obtain ⟨x', t', r', m'⟩ := y
  simp only [hlrow, cmpHl, cmpN]
  go_enter Tryz.func110, Tryz.ntmps110
  go_wp2
  go_region_held3 (fun w' => TwoL w x t r x' t' r' w') (first | assumption | exact twoL_start w x t r m x' t' r' m' _ | exact twoL_step (by assumption) (by assumption) | exact twoL_step ((GG.refl _).alloc _) (by assumption) | exact twoL_step (GG.refl _).drew (by assumption))
    (first | (go_at_call 108; refine (cmpInt_p _ _ _).mono ?_; rintro e w' ⟨rfl, rfl⟩) | (go_at_call 60; refine (tbyPlace_any t r t' r' _).mono ?_; rintro e w' ⟨rfl, gg⟩) | (go_at_call 107; refine (or_p _ (cP x x') (orP (cP t t') (cP r r')) _ (by simp [go_sem]) (by simp [go_sem])).mono ?_; rintro e w' ⟨rfl, rfl⟩))
  all_goals
    rename_i hS
    go_wp2
    go_ret
    exact ⟨rfl, hS.2.2⟩
theorem e_held : ∀ args w, (callFunc 110 args).run Tryz.prog w = .ok (.enter 110 args) w := enters_of Tryz.func110 (by kernel_rfl) rfl
def HlPost (W : World) (l : List Hl) (e : Ending) (W' : World) : Prop := ∃ v, e = .returned v ∧ HlOwn W' W.heap.size v l ∧ Nw W W'
/-- What is told, while one head is gone through (its box at pb). -/
structure HlI (w1 : World) (pb : Nat) (hc : Array Value) (v : Value) (l : List Hl) (y : World) : Prop where
  own : HlOwn y w1.heap.size v l
  nw : Nw w1 y
  off : v.ownBlock ≠ some pb
  box : y.heap[pb]? = some (.cells hc 63)
theorem HlI.step {w1 y y' : World} {pb : Nat} {hc : Array Value} {v : Value} {l : List Hl} (h : HlI w1 pb hc v l y) (g : Nw y y') : HlI w1 pb hc v l y' := ⟨onw h.own g, h.nw.trans g, h.off, g.at' h.box⟩
theorem HlI.push {w1 y : World} {pb : Nat} {hc : Array Value} {v : Value} {l : List Hl} (h : HlI w1 pb hc v l y) (x t r m : Int) (hl : l.length < 100000) :
    ∃ s0 s1 s2 w3, (Builtin.append_ #[45, 45] 45 #[v, .slice (some ⟨y.heap.size, 0, none⟩) 1 1]).run Tryz.prog (y.alloc (.cells #[.int .i64 x, .int .i64 t, .int .i64 r, .int .i64 m] 44)) = .ok (.slice s0 s1 s2) w3 ∧ HlI w1 pb hc (.slice s0 s1 s2) (l ++ [⟨x, t, r, m⟩]) w3 := by
  have hal := allocAt y (.cells #[.int .i64 x, .int .i64 t, .int .i64 r, .int .i64 m] 44)
  have g0 : Nw y (y.alloc (.cells #[.int .i64 x, .int .i64 t, .int .i64 r, .int .i64 m] 44)) := (Nw.refl y).alloc _
  obtain ⟨z, hz⟩ : ∃ z, y.alloc (.cells #[.int .i64 x, .int .i64 t, .int .i64 r, .int .i64 m] 44) = z := ⟨_, rfl⟩
  rw [hz] at hal g0
  rw [hz]
  have hs := h.step g0
  have hpl := hlt h.box
  obtain ⟨v', w3, hr, hO, hg, hp, g, cap, rfl⟩ := Own.push elemHl hs.own ⟨x, t, r, m⟩ y.heap.size 1 (fun j u hu => by
    rw [hcell hal]
    simpa [hlrow] using hu) hl hs.nw.sz
  refine ⟨_, _, _, w3, hr, hO, hs.nw.gro hg (fun k hk => oge hs.own hk), fun e => ?_, ?_⟩
  · rcases hp with q | q
    · exact h.off (q ▸ e)
    · rw [q] at e
      have e' : z.heap.size = pb := Option.some.inj e
      have := g0.sz
      omega
  · rw [hg.block pb (by have := g0.sz; omega) (fun e => h.off e.symm)]
    exact hs.box
/-- What one head tells, up to one of its requests. -/
def heF (f : Rq → Bool) (h : Hq) (q : List Rq) : List Hl := (q.filter fun r => !(r.md == 0) && f r).map fun r => ⟨r.txn, h.t, h.r, r.md⟩
theorem entF_take {f : Rq → Bool} {s : List Hq} {i : Nat} (hi : i < s.length) : entF f (s.take (i + 1)) = entF f (s.take i) ++ heF f s[i] s[i].q := by
  unfold entF
  rw [List.take_succ_eq_append_getElem hi, List.flatMap_append]
  simp [heF]
theorem heF_take {f : Rq → Bool} {h : Hq} {q : List Rq} {j : Nat} (hj : j < q.length) : heF f h (q.take (j + 1)) = heF f h (q.take j) ++ (if (!(q[j].md == 0) && f q[j]) = true then [⟨q[j].txn, h.t, h.r, q[j].md⟩] else []) := by
  unfold heF
  rw [List.take_succ_eq_append_getElem hj, List.filter_append, List.map_append]
  congr 1
  by_cases e : (!(q[j].md == 0) && f q[j]) = true
  · rw [if_pos e, List.filter_cons, if_pos e]; rfl
  · rw [if_neg e, List.filter_cons, if_neg e]; rfl
theorem sum_take (s : List Hq) (j : Nat) : ((s.take j).map fun h => h.q.length).sum ≤ (s.map fun h => h.q.length).sum := by
  conv => rhs; rw [← List.take_append_drop j s, List.map_append, List.sum_append]
  exact Nat.le_add_right _ _
theorem flat_sum (hss : List (List Hq)) : (hss.flatten.map fun h => h.q.length).sum = (hss.map fun hs => (hs.map fun x => x.q.length).sum).sum := by
  induction hss with
  | nil => rfl
  | cons a t ih => rw [List.flatten_cons, List.map_append, List.sum_append, ih]; rfl
theorem Tab.len128 {W : World} {o S n N k : Nat} {C : Cps} {hss : List (List Hq)} {L : List Bool} {J : Nat → Prop} (h : Tab W o S n N k C hss L J) : L.length ≤ 128 := by
  obtain ⟨bb, cp, hb, po, ds, hv, F, hm, _⟩ := h
  exact hm.db.pol.sz
theorem entF_len {f : Rq → Bool} {s : List Hq} {M : Nat} (h : (s.map fun h => h.q.length).sum ≤ M) : (entF f s).length ≤ M := by
  refine Nat.le_trans ?_ h
  unfold entF
  induction s with
  | nil => simp
  | cons a t ih =>
    simp only [List.flatMap_cons, List.length_append, List.map_cons, List.sum_cons, List.length_map]
    have h1 := List.length_filter_le (fun r => !(r.md == 0) && f r) a.q
    simp only [List.map_cons, List.sum_cons] at h
    have := ih (by omega)
    omega
section
variable {W : World} {o S n N k : Nat} {C : Cps} {hss : List (List Hq)} {L : List Bool} {J : Nat → Prop}
set_option maxRecDepth 20000 in
set_option maxHeartbeats 8000000 in
theorem held_t (h : Tab W o S n N k C hss L J) (hS : S ≤ 16) (hn : n ≤ 64) (fn : Nat) (cb : Array Value) (f : Rq → Bool) (eg : ∀ args w, (callFunc fn args).run Tryz.prog w = .ok (.enter fn args) w)
    (hF : ∀ y, Nw W y → ∀ r : Rq, Calls Tryz.prog fn (#[rqV r] ++ cb) y fun e y' => e = .returned (.bool (f r)) ∧ Nw y y') (l : List Hl) (hl : ∀ l' : List Hl, l'.Perm (entF f hss.flatten) → (l'.Pairwise fun a b => ltOf cmpHl b a = false) → l' = l) :
    Calls Tryz.prog 62 #[.pointer (some ⟨o, 0, none⟩), .func (.func fn) #[] cb] W (HlPost W l) := by
  have HH := Lib.hid (theads_t h hS hn)
  have hlen : hss.flatten.length ≤ 1024 := by
    have := flatT_len (fun l hl => Nat.le_trans (h.ok.inv.part l hl).len hn) (by rw [h.ok.sl]; exact hS) hss.length
    rwa [List.take_length] at this
  have HQ : Hid ((hss.flatten.map fun h => h.q.length).sum ≤ 50000) := Lib.hid (by
    rw [flat_sum, h.ok.inv.count]
    have h1 : liv L ≤ L.length := List.countP_le_length
    have h2 := h.len128
    omega)
  have HF := Lib.hid hF
  have HL := Lib.hid hl
  clear h hF hl
  go_enter Tryz.func62, Tryz.ntmps62
  go_wp2_with fail
  refine HH.out.mono ?_
  rintro e w1 ⟨v, rfl, hh, g1⟩
  obtain ⟨lm, h1, h2, h3⟩ := hh
  have HX := Lib.hid (And.intro h1 (And.intro h2 (And.intro h3 g1)))
  obtain ⟨va, vc, rfl, hrd⟩ := Own.rd elemHm.len h1
  have HB := Lib.hid (show lm.length ≤ 1024 by rw [← h2, List.length_map] at hlen; exact hlen)
  clear hlen
  have HRd := Lib.hid hrd
  clear h1 h2 h3 g1 hrd HH
  go_wp2_with fail
  go_loopw [5, 7, 9, 13] (fun vi _ _ i wr => ∃ (j : Nat) (s0 : Option Addr) (s1 s2 : Nat), vi = .slice s0 s1 s2 ∧ i = .int .i64 j ∧ j ≤ lm.length ∧ Hid (HlOwn wr w1.heap.size (.slice s0 s1 s2) (entF f (hss.flatten.take j)) ∧ Nw w1 wr)) (fun _ _ _ i _ => lm.length - (intOf i).toNat)
  case atStart => exact ⟨0, none, 0, 0, rfl, rfl, Nat.zero_le _, World.ownsRow_nil _ _ _ _, Nw.refl _⟩
  case round =>
    obtain ⟨j, s0, s1, s2, rfl, rfl, hj, HI⟩ := hrel
    by_cases hjl : j < lm.length
    · rcases HRd.out with ⟨q, _⟩ | ⟨b, ob, rfl, hc⟩
      · rw [q] at hjl; simp at hjl
      have hce := (hc.nw HI.out.2).cell j hjl
      have hok := HX.out.2.2.1 _ (List.getElem_mem hjl)
      have hjs : j < hss.flatten.length := by rw [← HX.out.2.1, List.length_map]; exact hjl
      have hhe : hss.flatten[j] = lm[j].h := by
        have : (lm.map Hm.h)[j]'(by rw [List.length_map]; exact hjl) = hss.flatten[j] := by congr 1; exact HX.out.2.1
        rw [← this, List.getElem_map]
      have hent := entF_take (f := f) hjs
      rw [hhe] at hent
      have hji : (j : Int) < (lm.length : Int) := by omega
      have hwj : wrap64 ((j : Int) + 1) = (j : Int) + 1 := by have := HB.out; unfold wrap64; omega
      clear hc
      generalize lm[j] = x at *
      obtain ⟨⟨xt, xr, xW, q⟩, xa, xc⟩ := x
      have c0 := hce 0 _ rfl
      have c1 := hce 1 _ rfl
      have c2 := hce 2 _ rfl
      have c3 := hce 3 _ rfl
      simp only [Nat.add_zero] at c0 c1 c2 c3
      obtain ⟨ql, hql⟩ : ∃ ql, q.length = ql := ⟨_, rfl⟩
      rw [hql] at c2
      have hbl := World.block_lt_of_cell? _ _ c0
      simp only at hbl
      have hbx := allocAt wr (.cells #[.int .i64 xt, .int .i64 xr, .slice xa ql xc, .int .i64 xW] 63)
      have gbx : Nw wr (wr.alloc (.cells #[.int .i64 xt, .int .i64 xr, .slice xa ql xc, .int .i64 xW] 63)) := (Nw.refl wr).alloc _
      obtain ⟨z, hz⟩ : ∃ z, wr.alloc (.cells #[.int .i64 xt, .int .i64 xr, .slice xa ql xc, .int .i64 xW] 63) = z := ⟨_, rfl⟩
      rw [hz] at hbx gbx
      have HZ := Lib.hid hz
      have HI2 := Lib.hid (show HlI w1 wr.heap.size #[.int .i64 xt, .int .i64 xr, .slice xa ql xc, .int .i64 xW] (.slice s0 s1 s2) (entF f (hss.flatten.take j)) z from ⟨onw HI.out.1 gbx, HI.out.2.trans gbx, fun e => by have := olt HI.out.1 e; omega, hbx⟩)
      have HK := Lib.hid (And.intro hok (And.intro hent hql))
      have hM : ((hss.flatten.take j).map fun h => h.q.length).sum ≤ 50000 := Nat.le_trans (sum_take _ j) HQ.out
      have HM := Lib.hid hM
      clear hce hok hent hhe hz gbx hbx hjs hM
      go_upto_region 5 with fail
      rw [HZ.out]
      obtain ⟨pb, hpb⟩ : ∃ pb, wr.heap.size = pb := ⟨_, rfl⟩
      rw [hpb] at HI2 ⊢
      have b2 := hcell (j := 2) HI2.out.box
      have bl := hlt HI2.out.box
      clear hpb c0 c1 c2 c3 hbl HZ
      go_wp2_with fail
      go_loopw [5, 9, 20] (fun vi _ kk y => ∃ (m : Nat) (s0 : Option Addr) (s1 s2 : Nat), vi = .slice s0 s1 s2 ∧ kk = .int .i64 m ∧ m ≤ ql ∧ Hid (HlI w1 pb #[.int .i64 xt, .int .i64 xr, .slice xa ql xc, .int .i64 xW] (.slice s0 s1 s2) (entF f (hss.flatten.take j) ++ heF f ⟨xt, xr, xW, q⟩ (q.take m)) y)) (fun _ _ kk _ => ql - (intOf kk).toNat)
      case atStart => exact ⟨0, _, _, _, rfl, rfl, Nat.zero_le _, (show Hid (HlI w1 pb _ _ _ z) from ((List.append_nil _).symm ▸ HI2.out : HlI w1 pb _ _ (entF f (hss.flatten.take j) ++ []) z))⟩
      case round =>
        clear HI2 b2 bl HI
        obtain ⟨m, r0, r1, r2, rfl, rfl, hm, HJ⟩ := hrel
        by_cases hml : m < ql
        · have hmq : m < q.length := by rw [HK.out.2.2]; exact hml
          obtain ⟨a', c', e, ⟨q0, _⟩ | ⟨qb, qo, e2, hcq⟩⟩ := HK.out.1.rd
          · simp only at q0; rw [q0] at hmq; simp at hmq
          unfold hmV at e
          subst e2
          simp only [Value.slice.injEq] at e
          obtain ⟨rfl, _, rfl⟩ := e
          have hcr := (hcq.nw HJ.out.nw).cell m hmq
          have hen := heF_take (f := f) (h := ⟨xt, xr, xW, q⟩) hmq
          simp only at hen hcr
          generalize q[m] = R at *
          obtain ⟨i0, i1, i2, i3, i4⟩ := R
          have c0 := hcr 0 _ rfl
          have c1 := hcr 1 _ rfl
          have c2 := hcr 2 _ rfl
          have c3 := hcr 3 _ rfl
          have c4 := hcr 4 _ rfl
          simp only [Nat.add_zero] at c0 c1 c2 c3 c4
          have cl := World.block_lt_of_cell? _ _ c0
          simp only at cl
          have hmi : (m : Int) < (ql : Int) := by omega
          have hwm : wrap64 ((m : Int) + 1) = (m : Int) + 1 := by have h7 := HK.out.1.len; have h8 := HK.out.2.2; simp only at h7; unfold wrap64; omega
          have hbx := allocAt wr (.cells #[.int .i64 i0, .int .i64 i1, .int .i64 i2, .int .i64 i3, .int .i64 i4] 50)
          have gbx : Nw wr (wr.alloc (.cells #[.int .i64 i0, .int .i64 i1, .int .i64 i2, .int .i64 i3, .int .i64 i4] 50)) := (Nw.refl wr).alloc _
          obtain ⟨z, hz⟩ : ∃ z, wr.alloc (.cells #[.int .i64 i0, .int .i64 i1, .int .i64 i2, .int .i64 i3, .int .i64 i4] 50) = z := ⟨_, rfl⟩
          rw [hz] at hbx gbx
          have HZ := Lib.hid hz
          have HJ2 := Lib.hid (HJ.out.step gbx)
          have HEn := Lib.hid hen
          obtain ⟨rb, hrb⟩ : ∃ rb, wr.heap.size = rb := ⟨_, rfl⟩
          rw [hrb] at hbx
          have HRb := Lib.hid hrb
          clear hz gbx hcq hcr hen hrb HJ
          go_upto_region 8 with fail
          rw [HZ.out, HRb.out]
          have d1 := hcell (j := 1) hbx
          have d0 := hcell (j := 0) hbx
          have d2 := hcell (j := 2) hbx
          have d3 := hcell (j := 3) hbx
          have d4 := hcell (j := 4) hbx
          have dl := hlt hbx
          clear c0 c1 c2 c3 c4 cl HZ HRb
          have hsml : (entF f (hss.flatten.take j) ++ heF f ⟨xt, xr, xW, q⟩ (q.take m)).length < 100000 := by
            rw [List.length_append]
            have e1 := entF_len (f := f) (s := hss.flatten.take j) (M := 50000) HM.out
            have e2 : (heF f ⟨xt, xr, xW, q⟩ (q.take m)).length ≤ 1000 := by
              unfold heF
              rw [List.length_map]
              refine Nat.le_trans (List.length_filter_le _ _) ?_
              have h7 := HK.out.1.len
              simp only at h7
              rw [List.length_take]
              omega
            omega
          have HSm := Lib.hid hsml
          clear hsml
          by_cases hm0 : i2 = 0
          · subst hm0
            have HE := Lib.hid (show HlI w1 pb _ (.slice r0 r1 r2) (entF f (hss.flatten.take j) ++ heF f ⟨xt, xr, xW, q⟩ (q.take (m + 1))) z from by
              rw [HEn.out, if_neg (by simp), List.append_nil]
              exact HJ2.out)
            clear HJ2 HEn
            go_wp2_with fail
            go_roundw
            case rel => exact ⟨m + 1, _, _, _, rfl, congrArg (Value.int .i64) (by first | exact nxU m | exact hwm.trans (nxU m)), hml, HE⟩
            case measure => first | exact downU ql m hml | (rw [hwm]; exact downU ql m hml)
          · have dm : (i2 != 0) = true := by simpa using hm0
            have hfr := HF.out z (HX.out.2.2.2.trans HJ2.out.nw) ⟨i0, i1, i2, i3, i4⟩
            obtain ⟨fv, hfv⟩ : ∃ fv, f ⟨i0, i1, i2, i3, i4⟩ = fv := ⟨_, rfl⟩
            rw [hfv] at hfr
            unfold rqV at hfr
            have HFr := Lib.hid hfr
            have HFv := Lib.hid hfv
            have HM0 := Lib.hid hm0
            clear hfr hfv hm0
            go_wp2_with fail
            refine HFr.out.mono ?_
            rintro e z2 ⟨rfl, g2⟩
            have HJ3 := Lib.hid (HJ2.out.step g2)
            have hbx3 := g2.at' hbx
            have hbh := HJ3.out.box
            have d1 := hcell (j := 1) hbx3
            have d2 := hcell (j := 2) hbx3
            have dl := hlt hbx3
            have n0 := hcell (j := 0) hbh
            have n1 := hcell (j := 1) hbh
            have nl := hlt hbh
            clear d0 d3 d4 HJ2 HFr g2 hbx3 hbh hbx
            cases fv
            · have HE := Lib.hid (show HlI w1 pb _ (.slice r0 r1 r2) (entF f (hss.flatten.take j) ++ heF f ⟨xt, xr, xW, q⟩ (q.take (m + 1))) z2 from by
                rw [HEn.out, HFv.out, if_neg (by simp), List.append_nil]
                exact HJ3.out)
              clear HJ3 HEn
              go_wp2_with fail
              go_roundw
              case rel => exact ⟨m + 1, _, _, _, rfl, congrArg (Value.int .i64) (by first | exact nxU m | exact hwm.trans (nxU m)), hml, HE⟩
              case measure => first | exact downU ql m hml | (rw [hwm]; exact downU ql m hml)
            · obtain ⟨t0, t1, t2, w3, hrun, hnx⟩ := HJ3.out.push i1 xt xr i2 HSm.out
              have HE := Lib.hid (show HlI w1 pb _ (.slice t0 t1 t2) (entF f (hss.flatten.take j) ++ heF f ⟨xt, xr, xW, q⟩ (q.take (m + 1))) w3 from by
                rw [HEn.out, HFv.out, if_pos (by simp [HM0.out]), ← List.append_assoc]
                exact hnx)
              have HR := Lib.hid hrun
              clear HJ3 HEn hrun hnx
              go_wp2_with (at_builtin; refine wpl_app (by rfl) (.tmp 32) (.tmp 40) 45 rfl _ _ _ _ (by first | rfl | simp [Act.eval, *]) (by first | rfl | simp [Act.eval, *]) HR.out ?_)
              go_roundw
              case rel => exact ⟨m + 1, _, _, _, rfl, congrArg (Value.int .i64) (by first | exact nxU m | exact hwm.trans (nxU m)), hml, HE⟩
              case measure => first | exact downU ql m hml | (rw [hwm]; exact downU ql m hml)
        · obtain rfl : m = ql := by omega
          have HE := Lib.hid (show HlOwn wr w1.heap.size (.slice r0 r1 r2) (entF f (hss.flatten.take (j + 1))) ∧ Nw w1 wr from ⟨by
            rw [HK.out.2.1]
            have e : q.take m = q := by rw [← HK.out.2.2, List.take_length]
            have := HJ.out.own
            rw [e] at this
            exact this, HJ.out.nw⟩)
          clear HJ
          go_wp2_with fail
          go_roundw
          case rel => exact ⟨j + 1, _, _, _, rfl, congrArg (Value.int .i64) (by first | exact nxU j | exact hwj.trans (nxU j)), hjl, HE⟩
          case measure => first | exact downU lm.length j hjl | (rw [hwj]; exact downU lm.length j hjl)
    · obtain rfl : j = lm.length := by omega
      have hE : (hss.flatten.take lm.length) = hss.flatten := by rw [← HX.out.2.1]; exact List.take_of_length_le (by rw [List.length_map]; exact Nat.le_refl _)
      have hO := HI.out.1
      rw [hE] at hO
      have hen : (entF f hss.flatten).length ≤ 50000 := entF_len HQ.out
      rcases oform hO with ⟨e, hz⟩ | ⟨g, cap, e⟩
      · simp only [Value.slice.injEq] at e
        obtain ⟨rfl, rfl, rfl⟩ := e
        have HS := Lib.hid (AnyF.slices_SortFunc_none (P := Tryz.prog) { Tryz.sortL with } none 0 (.func (.func 110) #[] #[]) wr)
        have h0 : entF f hss.flatten = [] := List.length_eq_zero_iff.1 hz
        have HE : Hid (HlPost W l (.returned (.slice none 0 0)) wr) := by
          refine ⟨_, rfl, ?_, HX.out.2.2.2.trans HI.out.2⟩
          have : l = [] := (HL.out [] (by rw [h0]) .nil).symm
          rw [this]
          exact World.ownsRow_nil _ _ _ _
        clear hO hen hz HI h0 hE
        go_wp2_with fail
        refine Calls.mono HS.out ?_
        rintro e w2 ⟨rfl, rfl⟩
        go_wp2
        go_ret
        exact HE.out
      · simp only [Value.slice.injEq] at e
        obtain ⟨rfl, rfl, rfl⟩ := e
        have HS := Lib.hid (sort_rows elemHl (ρ := _) { Tryz.sortL with } (by intro w; kernel_rfl) (by intro w; kernel_rfl) cmpHl cmpL_swo 110 e_held heldCmp_any _ g s2 (entF f hss.flatten) wr hO (by omega))
        have HO := Lib.hid (And.intro hO (HX.out.2.2.2.trans HI.out.2))
        obtain ⟨N1, hN1⟩ : ∃ N1, (entF f hss.flatten).length = N1 := ⟨_, rfl⟩
        have HN1 := Lib.hid hN1
        rw [hN1] at HS ⊢
        clear hO hen HI hE hN1
        go_wp2_with fail
        refine Calls.mono HS.out ?_
        rintro e w2 ⟨rfl, l', hp, hs, hO2, ht⟩
        have hl : l'.length = N1 := by rw [hp.length_eq]; exact HN1.out
        have HE : Hid (HlPost W l (.returned (.slice (some ⟨g, 0, none⟩) N1 s2)) w2) := by
          have e2 := HL.out l' hp hs
          subst e2
          rw [hl] at hO2
          refine ⟨_, rfl, olow hO2 (fun b e => ?_), nw_tch HO.out.2 ht (fun i e => ?_)⟩
          · have h1 : w1.heap.size ≤ g := oge HO.out.1 rfl
            have h2 := HX.out.2.2.2.sz
            have e' : g = b := Option.some.inj e
            omega
          · have h1 : w1.heap.size ≤ g := oge HO.out.1 rfl
            have h2 := HX.out.2.2.2.sz
            omega
        clear hp hs hO2 ht hl HS
        go_wp2
        go_ret
        exact HE.out
set_option maxHeartbeats 1000000 in
theorem isAll_any (r : Rq) (w : World) : Calls Tryz.prog 65 #[rqV r] w fun e w' => e = .returned (.bool true) ∧ Nw w w' := by
  obtain ⟨a, b, c, d, e⟩ := r
  unfold rqV
  have HG := Lib.hid ((Nw.refl w).alloc (.cells #[.int .i64 a, .int .i64 b, .int .i64 c, .int .i64 d, .int .i64 e] 50))
  go_enter Tryz.func65, Tryz.ntmps65
  go_wp2
  go_ret
  exact ⟨rfl, HG.out⟩
set_option maxHeartbeats 1000000 in
theorem isTxn_any (r : Rq) (txn : Int) (pb : Nat) (w : World) (hb : w.cell? ⟨pb, 0, none⟩ = some (.int .i64 txn)) : Calls Tryz.prog 63 #[rqV r, .pointer (some ⟨pb, 0, none⟩)] w fun e w' => e = .returned (.bool (r.txn == txn)) ∧ Nw w w' := by
  obtain ⟨a, b, c, d, e⟩ := r
  unfold rqV
  have hbl := World.block_lt_of_cell? _ _ hb
  simp only at hbl
  have HG := Lib.hid ((Nw.refl w).alloc (.cells #[.int .i64 a, .int .i64 b, .int .i64 c, .int .i64 d, .int .i64 e] 50))
  go_enter Tryz.func63, Tryz.ntmps63
  go_wp2
  go_ret
  exact ⟨rfl, HG.out⟩
theorem e_isAll : ∀ args w, (callFunc 65 args).run Tryz.prog w = .ok (.enter 65 args) w := enters_of Tryz.func65 (by kernel_rfl) rfl
theorem e_isTxn : ∀ args w, (callFunc 63 args).run Tryz.prog w = .ok (.enter 63 args) w := enters_of Tryz.func63 (by kernel_rfl) rfl
theorem TbOk.snap_srt (ok : TbOk S n N k hss L) : SrtH (snapT hss) ∧ (snapT hss).Perm hss.flatten := Go.Proofs.YtpffldfpabglbaaGreatDoor.snap_srt ok.apart
theorem TbOk.snap_ok (ok : TbOk S n N k hss L) : ∀ h ∈ snapT hss, Ok h.W h.q := fun h hh => by
  obtain ⟨l, hl, h2⟩ := List.mem_flatten.1 (ok.snap_srt.2.mem_iff.1 hh)
  exact ((ok.inv.part l hl).inv h h2).ok
set_option maxHeartbeats 1000000 in
theorem all_t (h : Tab W o S n N k C hss L J) (hS : S ≤ 16) (hn : n ≤ 64) : Calls Tryz.prog 18 #[.pointer (some ⟨o, 0, none⟩)] W (HlPost W (allT (snapT hss))) := by
  have hs := h.ok.snap_srt
  have HH := Lib.hid (held_t h hS hn 65 #[] (fun _ => true) e_isAll (fun y _ r => isAll_any r y) (allT (snapT hss)) (fun l' p q => all_of hs.1 h.ok.snap_ok hs.2.symm (by rwa [entF_all] at p) q))
  clear hs h
  go_enter Tryz.func18, Tryz.ntmps18
  go_wp2_with fail
  refine HH.out.mono ?_
  rintro e w1 ⟨v, rfl, h1, g1⟩
  have HE : Hid (HlPost W (allT (snapT hss)) (.returned v) w1) := ⟨v, rfl, h1, g1⟩
  clear h1 g1 HH
  go_wp2
  go_ret
  exact HE.out
set_option maxHeartbeats 1000000 in
theorem holds_t (h : Tab W o S n N k C hss L J) (hS : S ≤ 16) (hn : n ≤ 64) (txn : Int) : Calls Tryz.prog 16 #[.pointer (some ⟨o, 0, none⟩), .int .i64 txn] W (HlPost W (hdsT (snapT hss) txn)) := by
  have hs := h.ok.snap_srt
  have hal := allocAt W (.cells #[.int .i64 txn] 3)
  obtain ⟨z, hz⟩ : ∃ z, W.alloc (.cells #[.int .i64 txn] 3) = z := ⟨_, rfl⟩
  have g1 : Nw W z := by rw [← hz]; exact (Nw.refl W).alloc _
  rw [hz] at hal
  have HH := Lib.hid (held_t (h.nw g1) hS hn 63 #[.pointer (some ⟨W.heap.size, 0, none⟩)] (fun r => r.txn == txn) e_isTxn (fun y g r => isTxn_any r txn W.heap.size y (g.kp ((hcell (j := 0) hal).trans rfl))) (hdsT (snapT hss) txn) (fun l' p q => hds_of hs.1 h.ok.snap_ok hs.2.symm txn (by rwa [entF_txn] at p) q))
  have HZ := Lib.hid hz
  have HG := Lib.hid g1
  clear hs h hal hz g1
  go_enter Tryz.func16, Tryz.ntmps16
  go_wp2_with fail
  rw [HZ.out]
  refine HH.out.mono ?_
  rintro e w1 ⟨v, rfl, h1, g1⟩
  have HE : Hid (HlPost W (hdsT (snapT hss) txn) (.returned v) w1) := ⟨v, rfl, olow h1 (fun b e => Nat.le_trans HG.out.sz (oge h1 e)), HG.out.trans g1⟩
  clear h1 g1 HH
  go_wp2
  go_ret
  exact HE.out
end
end Go.Proofs.YtpffldfpabglbaaGreatDoor
end

/- Law 9: empty, lives; the kit's LightHeads. -/
section
namespace Go.Proofs.YtpffldfpabglbaaGreatDoor
open Go.RowKit
set_option linter.unusedVariables false      -- a contract need not use every name

/-- A head in a box. -/
def HB (w : World) (B : Nat) (t r : Int) (v : Value) (W : Int) : Prop := w.heap[B]? = some (.cells #[.int .i64 t, .int .i64 r, v, .int .i64 W] 63)
theorem HB.made (w : World) (t r : Int) (v : Value) (W : Int) : HB (w.alloc (.cells #[.int .i64 t, .int .i64 r, v, .int .i64 W] 63)) w.heap.size t r v W := allocAt w _
theorem HB.nw {w w' : World} {B : Nat} {t r W : Int} {v : Value} (h : HB w B t r v W) (g : Nw w w') : HB w' B t r v W := g.at' h
end Go.Proofs.YtpffldfpabglbaaGreatDoor
end

/- Arguments: a request, a slice of requests, a head; the kit's LightHeads. -/
section
namespace Go.Proofs.YtpffldfpabglbaaGreatDoor
open Go.ChangeShapes Go.WideShapes Go.ChangeAt Go.RowKit Go.Deep
set_option linter.unusedVariables false

theorem list_of {α : Type} {n : Nat} {Q : Nat → α → Prop} (h : ∀ i, i < n → ∃ x, Q i x) : ∃ l : List α, l.length = n ∧ ∀ i (hi : i < l.length), Q i l[i] := by
  induction n with
  | zero => exact ⟨[], rfl, fun i hi => by simp at hi⟩
  | succ n ih =>
    obtain ⟨l, hl, hq⟩ := ih fun i hi => h i (by omega)
    obtain ⟨x, hx⟩ := h n (by omega)
    refine ⟨l ++ [x], by simp [hl], fun i hi => ?_⟩
    rw [List.length_append, List.length_singleton] at hi
    by_cases q : i < l.length
    · rw [List.getElem_append_left q]; exact hq i q
    · have : i = n := by omega
      subst this
      rw [List.getElem_append_right (by omega)]
      simpa using hx
theorem len4 {cs : List Value} (h : cs.length = 4) : ∃ v0 v1 v2 v3, cs = [v0, v1, v2, v3] := by
  match cs, h with
  | [v0, v1, v2, v3], _ => exact ⟨v0, v1, v2, v3, rfl⟩
theorem cellsI : Tryz.prog.cellsOf 3 = 1 := by kernel_rfl
theorem cellsMode : Tryz.prog.cellsOf 35 = 1 := by kernel_rfl
theorem cellsNm : Tryz.prog.cellsOf 34 = 2 := by kernel_rfl
section
variable {H : Type} {enc : TypeId × Value → H} {w : World} {base : Nat} {spare : Nat → Bool} {held : Bool}
theorem some_of {α : Type} {xs : List α} {i : Nat} (h : i < xs.length) : ∃ y, xs[i]? = some y := ⟨_, List.getElem?_eq_getElem h⟩
end
end Go.Proofs.YtpffldfpabglbaaGreatDoor
end

/- The table laws: calls that come in. -/
section
namespace Go.Proofs.YtpffldfpabglbaaGreatDoor
open Go.ChangeShapes Go.WideShapes Go.ChangeAt Go.RowKit Go.Deep
set_option linter.unusedVariables false

/-- A call: its kind, a name, a request, a transaction, a mode. -/
structure Cl where
  k : Int
  t : Int
  r : Int
  id : Int
  tx : Int
  md : Int
def clrow (a : Cl) : List Value := [.int .i64 a.k, .int .i64 a.t, .int .i64 a.r, .int .i64 a.id, .int .i64 a.tx, .int .i64 a.md]
/-- Its numbers are of those that an int holds. -/
def Cl.ok (a : Cl) : Prop := Fit a.t ∧ Fit a.r ∧ Fit a.id ∧ Fit a.tx
theorem fit_wf {a : Int} (h : (Lit.int .i64 a).wf = true) : Fit a := by
  unfold Fit
  simp [Lit.wf, IntKind.min, IntKind.max, IntKind.bits, IntKind.signed] at h
  omega
theorem len6 {cs : List Value} (h : cs.length = 6) : ∃ v0 v1 v2 v3 v4 v5, cs = [v0, v1, v2, v3, v4, v5] := by
  match cs, h with
  | [v0, v1, v2, v3, v4, v5], _ => exact ⟨v0, v1, v2, v3, v4, v5, rfl⟩
theorem cellsCl : Tryz.prog.cellsOf 37 = 6 := by kernel_rfl
section
variable {H : Type} {enc : TypeId × Value → H} {w : World} {base : Nat} {spare : Nat → Bool} {held : Bool}
theorem open_nm {fuel : Nat} {v0 v1 : Value} {x : DataW H × List MemPlace} (f0 : DataW.trod enc Tryz.prog w base spare held fuel 34 [v0, v1] = some x) : ∃ a b, v0 = .int .i64 a ∧ v1 = .int .i64 b ∧ (Lit.int .i64 a).wf = true ∧ (Lit.int .i64 b).wf = true := by
  obtain ⟨xs', n', _, _, hl', hxl', hf'⟩ := DataW.trod_struct Tryz.underlying34 f0
  have g0 : DataW.trod enc Tryz.prog w base spare held n' 3 (([v0, v1].drop 0).take (Tryz.prog.cellsOf 3)) = xs'[0]? := hf' 0 _ rfl
  have g1 : DataW.trod enc Tryz.prog w base spare held n' 3 (([v0, v1].drop 1).take (Tryz.prog.cellsOf 3)) = xs'[1]? := hf' 1 _ rfl
  simp at hxl'
  obtain ⟨z0, r0⟩ := some_of (xs := xs') (i := 0) (by omega)
  obtain ⟨z1, r1⟩ := some_of (xs := xs') (i := 1) (by omega)
  rw [r0] at g0
  rw [r1] at g1
  simp only [cellsI, List.drop_succ_cons, List.drop_zero, List.take_succ_cons, List.take_zero] at g0 g1
  obtain ⟨a0, q0, _, u0⟩ := DataW.trod_int Tryz.underlying3 g0
  obtain ⟨a1, q1, _, u1⟩ := DataW.trod_int Tryz.underlying3 g1
  exact ⟨a0, a1, (List.cons.inj q0).1, (List.cons.inj q1).1, u0, u1⟩
theorem open_cl {fuel : Nat} {cs : List Value} {x : DataW H × List MemPlace} (h : DataW.trod enc Tryz.prog w base spare held fuel 37 cs = some x) : ∃ R : Cl, cs = clrow R ∧ R.ok := by
  obtain ⟨xs, n, _, _, hl, hxl, hf⟩ := DataW.trod_struct Tryz.underlying37 h
  rw [cellsCl] at hl
  obtain ⟨v0, v1, v2, v3, v4, v5, rfl⟩ := len6 hl
  have f0 : DataW.trod enc Tryz.prog w base spare held n 3 (([v0, v1, v2, v3, v4, v5].drop 0).take (Tryz.prog.cellsOf 3)) = xs[0]? := hf 0 _ rfl
  have f1 : DataW.trod enc Tryz.prog w base spare held n 34 (([v0, v1, v2, v3, v4, v5].drop 1).take (Tryz.prog.cellsOf 34)) = xs[1]? := hf 1 _ rfl
  have f2 : DataW.trod enc Tryz.prog w base spare held n 3 (([v0, v1, v2, v3, v4, v5].drop 3).take (Tryz.prog.cellsOf 3)) = xs[2]? := hf 2 _ rfl
  have f3 : DataW.trod enc Tryz.prog w base spare held n 3 (([v0, v1, v2, v3, v4, v5].drop 4).take (Tryz.prog.cellsOf 3)) = xs[3]? := hf 3 _ rfl
  have f4 : DataW.trod enc Tryz.prog w base spare held n 35 (([v0, v1, v2, v3, v4, v5].drop 5).take (Tryz.prog.cellsOf 35)) = xs[4]? := hf 4 _ rfl
  simp at hxl
  obtain ⟨y0, e0⟩ := some_of (xs := xs) (i := 0) (by omega)
  obtain ⟨y1, e1⟩ := some_of (xs := xs) (i := 1) (by omega)
  obtain ⟨y2, e2⟩ := some_of (xs := xs) (i := 2) (by omega)
  obtain ⟨y3, e3⟩ := some_of (xs := xs) (i := 3) (by omega)
  obtain ⟨y4, e4⟩ := some_of (xs := xs) (i := 4) (by omega)
  rw [e0] at f0
  rw [e1] at f1
  rw [e2] at f2
  rw [e3] at f3
  rw [e4] at f4
  simp only [cellsI, cellsMode, cellsNm, List.drop_succ_cons, List.drop_zero, List.take_succ_cons, List.take_zero] at f0 f1 f2 f3 f4
  obtain ⟨a0, q0, _, u0⟩ := DataW.trod_int Tryz.underlying3 f0
  obtain ⟨a2, q2, _, u2⟩ := DataW.trod_int Tryz.underlying3 f2
  obtain ⟨a3, q3, _, u3⟩ := DataW.trod_int Tryz.underlying3 f3
  obtain ⟨a4, q4, _, u4⟩ := DataW.trod_int Tryz.underlying35 f4
  obtain ⟨b0, b1, rfl, rfl, w0, w1⟩ := open_nm f1
  obtain rfl := (List.cons.inj q0).1
  obtain rfl := (List.cons.inj q2).1
  obtain rfl := (List.cons.inj q3).1
  obtain rfl := (List.cons.inj q4).1
  exact ⟨⟨a0, b0, b1, a2, a3, a4⟩, rfl, fit_wf w0, fit_wf w1, fit_wf u2, fit_wf u3⟩
theorem open_cls {fuel : Nat} {v : Value} {x : DataW H × List MemPlace} (h : DataW.trod enc Tryz.prog w base spare held fuel 24 [v] = some x) : ∃ l, Rd 6 clrow w v l ∧ ∀ R ∈ l, Cl.ok R := by
  rcases open_slice Tryz.underlying24 h with ⟨hcs, _⟩ | ⟨a, len, cap, m, n, D, Pl, hcs, _, hl, hm, hmm, _, hi⟩
  · simp only [List.cons.injEq, and_true] at hcs
    subst hcs
    exact ⟨[], Rd.nil w, fun R hR => by simp at hR⟩
  · simp only [List.cons.injEq, and_true] at hcs
    subst hcs
    have hlm : len ≤ m := by rw [hmm]; split <;> omega
    have each : ∀ i, i < len → ∃ R : Cl, R.ok ∧ ∀ j u, (clrow R)[j]? = some u → w.cell? (a.add (i * 6 + j)) = some u := by
      intro i hil
      obtain ⟨cs', hc, ht⟩ := hi i (by omega)
      rw [cellsCl] at hc
      obtain ⟨R, rfl, hF⟩ := open_cl ht
      obtain ⟨_, hcl, hat⟩ := World.cells?_some hc
      have key : ∀ j, j < 6 → w.cell? (a.add (i * 6 + j)) = (clrow R)[j]? := fun j hj => by rw [← Go.Deep.add_add]; exact hat j hj
      refine ⟨R, hF, fun j u hj => ?_⟩
      have hj6 : j < 6 := by have := (List.getElem?_eq_some_iff.1 hj).1; simpa [clrow] using this
      rw [key j hj6]; exact hj
    obtain ⟨l, hll, hq⟩ := list_of each
    refine ⟨l, ?_, fun R hR => by obtain ⟨i, hi, rfl⟩ := List.getElem_of_mem hR; exact (hq i (by omega)).1⟩
    subst hll
    rcases Nat.eq_zero_or_pos l.length with h0 | h0
    · obtain rfl := List.length_eq_zero_iff.1 h0
      exact ⟨some a, cap, rfl, .inl ⟨rfl, fun e => by cases e⟩⟩
    · have hu := (hq 0 h0).2 0 _ rfl
      obtain ⟨b, o, spot⟩ := a
      have hs : spot = none := by simpa [Addr.add] using World.cell?_spot hu
      subst hs
      refine ⟨some ⟨b, o, none⟩, cap, rfl, .inr ⟨b, o, rfl, ⟨?_, fun i hi c u hu => ?_⟩⟩⟩
      · rw [Addr.add_lit] at hu
        exact World.block_lt_of_cell? _ _ hu
      · have := (hq i hi).2 c u hu
        rw [Addr.add_lit, ← Nat.add_assoc] at this
        exact this
theorem cellsCp : Tryz.prog.cellsOf 23 = 4 := by kernel_rfl
set_option maxRecDepth 100000 in
/-- Caps that are handed in. -/
theorem open_caps {v : Value} {d : DataW H} {p : List MemPlace} {r : Reach} {b0 : Nat} (hv : Value.okWide Tryz.prog w r b0 23 v) (h : DataW.Trod enc Tryz.prog w base spare held 23 v d p) : ∃ a0 a1 a2 a3, v = .agg #[.int .i64 a0, .int .i64 a1, .int .i64 a2, .int .i64 a3] := by
  obtain ⟨cs, rfl, hsz⟩ := okWide_struct Tryz.underlying23 hv
  obtain ⟨fuel, hf⟩ := h
  obtain ⟨l⟩ := cs
  simp only [Value.cells] at hf
  obtain ⟨xs, n, _, _, hl, hxl, hg⟩ := DataW.trod_struct Tryz.underlying23 hf
  rw [cellsCp] at hl
  obtain ⟨v0, v1, v2, v3, rfl⟩ := len4 hl
  have f0 : DataW.trod enc Tryz.prog w base spare held n 3 (([v0, v1, v2, v3].drop 0).take (Tryz.prog.cellsOf 3)) = xs[0]? := hg 0 _ rfl
  have f1 : DataW.trod enc Tryz.prog w base spare held n 3 (([v0, v1, v2, v3].drop 1).take (Tryz.prog.cellsOf 3)) = xs[1]? := hg 1 _ rfl
  have f2 : DataW.trod enc Tryz.prog w base spare held n 3 (([v0, v1, v2, v3].drop 2).take (Tryz.prog.cellsOf 3)) = xs[2]? := hg 2 _ rfl
  have f3 : DataW.trod enc Tryz.prog w base spare held n 3 (([v0, v1, v2, v3].drop 3).take (Tryz.prog.cellsOf 3)) = xs[3]? := hg 3 _ rfl
  simp at hxl
  obtain ⟨y0, e0⟩ := some_of (xs := xs) (i := 0) (by omega)
  obtain ⟨y1, e1⟩ := some_of (xs := xs) (i := 1) (by omega)
  obtain ⟨y2, e2⟩ := some_of (xs := xs) (i := 2) (by omega)
  obtain ⟨y3, e3⟩ := some_of (xs := xs) (i := 3) (by omega)
  rw [e0] at f0
  rw [e1] at f1
  rw [e2] at f2
  rw [e3] at f3
  simp only [cellsI, List.drop_succ_cons, List.drop_zero, List.take_succ_cons, List.take_zero] at f0 f1 f2 f3
  obtain ⟨a0, q0, _, u0⟩ := DataW.trod_int Tryz.underlying3 f0
  obtain ⟨a1, q1, _, u1⟩ := DataW.trod_int Tryz.underlying3 f1
  obtain ⟨a2, q2, _, u2⟩ := DataW.trod_int Tryz.underlying3 f2
  obtain ⟨a3, q3, _, u3⟩ := DataW.trod_int Tryz.underlying3 f3
  obtain rfl := (List.cons.inj q0).1
  obtain rfl := (List.cons.inj q1).1
  obtain rfl := (List.cons.inj q2).1
  obtain rfl := (List.cons.inj q3).1
  exact ⟨a0, a1, a2, a3, rfl⟩
end
end Go.Proofs.YtpffldfpabglbaaGreatDoor
end
