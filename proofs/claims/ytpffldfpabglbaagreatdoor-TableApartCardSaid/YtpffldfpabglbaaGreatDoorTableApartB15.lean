/- Texts merged: BdI, Rr, BdJ, SmM, SmA, SmB, SmC -/
import Derived.Test.YtpffldfpabglbaaGreatDoorTableApartB14
import Derived.OrdersHeld
import Derived.Deep.RegionHeld3
import Derived.WalkKit
import Derived.Lib.Hide

/- each: the heads of the developers' bucket, by rising names. -/
section
namespace Go.Proofs.YtpffldfpabglbaaGreatDoor
open Go.RowKit Go.Sort Go.Shelf
set_option linter.unusedVariables false      -- a contract need not use every name
attribute [local go_sem] Oper.semAt_some

theorem e_each : ∀ args w, (callFunc 147 args).run Tryz.prog w = .ok (.enter 147 args) w := enters_of Tryz.func147 (by kernel_rfl) rfl
/-- The names of a bucket's map, in order. -/
theorem names_any {w : World} {mb : Nat} {l : List Hp} (m : MapH w mb l) (s : SrtP l) (hl : l.length ≤ 1000) (pc : Nat) (hpc : w.cell? ⟨pc, 0, none⟩ = some (.map (some mb))) :
    Calls Tryz.prog 186 #[.func (.func 220) #[] #[.pointer (some ⟨pc, 0, none⟩)], .func (.func 188) #[] #[]] w fun e w' => ∃ v, e = .returned v ∧ NmOwn w' w.heap.size v (nmsP l) ∧ Nw w w' := by
  have hnl : (nmsP l).length = l.length := List.length_map _
  refine (sortedFunc_any _ _ e_keys1 _ (fun ss => ss.Perm (nmsP l)) (fun k => k = mb) w (fun xs h => ?_) (fun xs h => by rw [h.length_eq]; omega) (fun k e => by subst e; exact m.lt) (keys1_in 4 (by omega) pc mb l w hpc m)).mono ?_
  · have := nodup_sub_len h.1 h.2
    omega
  · rintro e w' ⟨v, xs, rfl, hp, hO, g⟩
    rw [srtN_eq hp s] at hO
    exact ⟨v, rfl, hO, g⟩
/-- What each holds between two rounds. -/
structure EaI (J : (Nat → Prop) → List Hp → World → Prop) (S : Nat → Prop) (o mb : Nat) (l : List Hp) (v : Value) (i : Nat) (wr : World) : Prop where
  j : J S (l.take i) wr
  bd : ∀ k, S k → k < wr.heap.size
  row : NmOwn wr 0 v (nmsP l)
  c3 : wr.cell? ⟨o, 3, none⟩ = some (.map (some mb))
  map : MapH wr mb l
theorem nms_at {w : World} {g cap : Nat} {l : List Hp} (h : NmOwn w 0 (.slice (some ⟨g, 0, none⟩) l.length cap) (nmsP l)) (i : Nat) (hi : i < l.length) :
    w.cell? ⟨g, i * 2, none⟩ = some (.int .i64 l[i].h.t) ∧ w.cell? ⟨g, i * 2 + 1, none⟩ = some (.int .i64 l[i].h.r) := by
  have hnl : (nmsP l).length = l.length := List.length_map _
  obtain ⟨a, c, e, ⟨q, _⟩ | ⟨b, o', e2, hc⟩⟩ := Own.rd elemNm.len h
  · rw [q] at hnl; simp at hnl; omega
  · subst e2
    simp only [Value.slice.injEq, Option.some.injEq, Addr.mk.injEq, and_true] at e
    obtain ⟨⟨rfl, rfl⟩, _, rfl⟩ := e
    have hk := hc.cell i (by omega)
    have e : (nmsP l)[i]'(by omega) = (l[i].h.t, l[i].h.r) := by simp [nmsP, nmH]
    rw [e] at hk
    simp only [Nat.zero_add] at hk
    exact ⟨hk 0 _ rfl, hk 1 _ rfl⟩
theorem EaI.keep {J : (Nat → Prop) → List Hp → World → Prop} {S : Nat → Prop} {o mb : Nat} {l : List Hp} {v : Value} {i i' : Nat} {A B : World} (h : EaI J S o mb l v i A) (hj : J S (l.take i') B) (k : KpS S A B) (ho : S o) (hm : S mb) (hv : ∀ g, v.ownBlock = some g → S g) : EaI J S o mb l v i' B := by
  refine ⟨hj, fun b e => Nat.lt_of_lt_of_le (h.bd b e) k.size, ?_, (World.cell?_of_block (k.same o ho)).trans h.c3, h.map.same (k.same mb hm)⟩
  refine ⟨h.row.1, ?_⟩
  rcases h.row.2 with h0 | ⟨g, cap, cur, rfl, hb, hg, rest⟩
  · exact .inl h0
  · exact .inr ⟨g, cap, cur, rfl, hb, (k.same g (hv g rfl)).trans hg, rest⟩
set_option maxRecDepth 100000 in
set_option maxHeartbeats 4000000 in
theorem each_in (n : Nat) (hn : 1 ≤ n) (o mb : Nat) (l : List Hp) (w : World) (hc : w.cell? ⟨o, 3, none⟩ = some (.map (some mb))) (hm : MapH w mb l) (hs : SrtP l) (hl : l.length ≤ 1000) :
    SeqB Fence.wide n Tryz.prog 147 #[.pointer (some ⟨o, 0, none⟩)] #[] ptP (fun pre => pre <+: l) (fun xs => xs = l) (fun k => k = o ∨ k = mb) w := by
  intro L J Jx W hW hJ hJx hY h0
  have hol : o < w.heap.size := World.block_lt_of_cell? _ _ hc
  have hcW : W.cell? ⟨o, 3, none⟩ = some (.map (some mb)) := hW.kp hc
  have hmW := hm.nw hW
  have hmlt := hmW.lt
  have hoW : o < W.heap.size := Nat.lt_of_lt_of_le hol hW.sz
  have HK := Lib.hid (keys_any mb W)
  have hal := allocAt W (.cells #[.map (some mb)] 135)
  have hNa : Nw W (W.alloc (.cells #[.map (some mb)] 135)) := (Nw.refl W).alloc _
  have HN := Lib.hid (names_any (hmW.nw hNa) hs hl W.heap.size (hcell (j := 0) hal))
  have HY := Lib.hid hY
  have HJ := Lib.hid hJ
  have H0 := Lib.hid h0
  have HM := Lib.hid (And.intro hmW hNa)
  clear hc hm hs hW hY hJ hJx h0 hmW hNa hal
  refine callsIn_of_wp Tryz.func147 rfl trivial ?_ rfl
  simp only [Tryz.ntmps147, List.size_toArray, List.length_cons, List.length_nil, Nat.reduceAdd, Nat.reduceSub, Array.replicate_succ, Array.replicate_zero, List.push_toArray, List.append_toArray, List.nil_append, List.cons_append]
  gi_wp2_with fail
  refine ⟨trivial, (callsIn_wide.2 HK.out).mono ?_⟩
  rintro e w1 ⟨rfl, rfl⟩
  gi_wp2_with fail
  refine ⟨trivial, (callsIn_wide.2 HN.out).mono ?_⟩
  rintro e w1 ⟨v, rfl, hO, g1⟩
  have hnl : (nmsP l).length = l.length := List.length_map _
  have hN1 := HM.out.2.trans g1
  have hN1s := hN1.sz
  obtain ⟨S, hS⟩ : ∃ S : Nat → Prop, (fun k => (k = o ∨ k = mb) ∨ (W.heap.size ≤ k ∧ k < w1.heap.size)) = S := ⟨_, rfl⟩
  have hSo : S o := by rw [← hS]; exact .inl (.inl rfl)
  have hSm : S mb := by rw [← hS]; exact .inl (.inr rfl)
  have hSv : ∀ g, v.ownBlock = some g → S g := fun g e => by rw [← hS]; exact .inr ⟨by have := oge hO e; have := HM.out.2.sz; omega, olt hO e⟩
  have hSub : ∀ k, (k = o ∨ k = mb) → S k := fun k e => by rw [← hS]; exact .inl e
  have hbd : ∀ k, S k → k < w1.heap.size := fun k e => by
    rw [← hS] at e
    rcases e with (rfl | rfl) | e
    · omega
    · omega
    · exact e.2
  have hE0 : EaI J S o mb l v 0 w1 := ⟨HJ.out (fun k => k = o ∨ k = mb) S [] W w1 H0.out (Tch.nw hN1) hSub (fun k e => by rw [← hS] at e; rcases e with e | e; exact .inl e; exact .inr e.1) hbd, hbd, olow hO (fun g hg => Nat.zero_le _), hN1.kp hcW, HM.out.1.nw hN1⟩
  have HE := Lib.hid hE0
  have HS := Lib.hid (And.intro hSo (And.intro hSm (And.intro hSv hSub)))
  have hf := oform hO
  rw [hnl] at hf
  obtain ⟨av, cv, rfl, hav⟩ : ∃ a c, v = .slice a l.length c ∧ (a = none → l.length = 0) ∧ ∀ b, a = some b → ∃ g, b = ⟨g, 0, none⟩ := by
    rcases hf with ⟨rfl, e⟩ | ⟨g, cap, rfl⟩
    · exact ⟨none, 0, by rw [e], fun _ => e, fun b q => by cases q⟩
    · exact ⟨_, cap, rfl, fun q => (by cases q), fun b q => ⟨g, (Option.some.inj q).symm⟩⟩
  have HA := Lib.hid hav
  clear hav hE0 hSo hSm hSv hSub hbd hS hN1 hf hO g1 hnl HK HN hcW hN1s
  gi_wp2
  gi_loopw [13] (fun x wr => ∃ i : Nat, x = .int .i64 i ∧ i ≤ l.length ∧ Hid (EaI J S o mb l (.slice av l.length cv) i wr)) (fun x _ => l.length - (intOf x).toNat)
  case atStart => exact ⟨0, rfl, Nat.zero_le _, HE⟩
  case round =>
    obtain ⟨i, rfl, hi, HR⟩ := hrel
    by_cases hlt : i < l.length
    · obtain ⟨g, rfl⟩ : ∃ g, av = some ⟨g, 0, none⟩ := by
        cases av with
        | none => have := HA.out.1 rfl; omega
        | some b => obtain ⟨g, rfl⟩ := HA.out.2 b rfl; exact ⟨g, rfl⟩
      obtain ⟨n0, n1⟩ := nms_at HR.out.row i hlt
      have hii : (i : Int) < (l.length : Int) := by omega
      have hgl : g < wr.heap.size := olt HR.out.row rfl
      have hx : l[i] ∈ l := List.getElem_mem hlt
      have htk : l.take (i + 1) = l.take i ++ [l[i]] := List.take_succ_eq_append_getElem hlt
      have hpre : l.take i ++ [l[i]] <+: l := by rw [← htk]; exact List.take_prefix _ _
      obtain ⟨w2, hw2⟩ : ∃ w2, wr.alloc (.cells #[.int .i64 l[i].h.t, .int .i64 l[i].h.r] 34) = w2 := ⟨_, rfl⟩
      have hal := allocAt wr (.cells #[.int .i64 l[i].h.t, .int .i64 l[i].h.r] 34)
      have hNa : Nw wr (wr.alloc (.cells #[.int .i64 l[i].h.t, .int .i64 l[i].h.r] 34)) := (Nw.refl wr).alloc _
      rw [hw2] at hal hNa
      have b0 : w2.cell? ⟨wr.heap.size, 0, none⟩ = some (.int .i64 l[i].h.t) := hcell hal
      have b1 : w2.cell? ⟨wr.heap.size, 1, none⟩ = some (.int .i64 l[i].h.r) := hcell hal
      have c3 : w2.cell? ⟨o, 3, none⟩ = some (.map (some mb)) := hNa.kp HR.out.c3
      have hlk := (HR.out.map.nw hNa.dr).look hx
      have hkp2 : KpS S wr w2.drew := KpS.tch (Tch.nw (S := fun _ => False) hNa.dr) (fun k e => ⟨HR.out.bd k e, fun q => q⟩)
      have hj2 := HJ.out S S _ wr w2.drew HR.out.j (Tch.nw hNa.dr) (fun _ e => e) (fun _ e => .inl e) (fun k e => Nat.lt_of_lt_of_le (HR.out.bd k e) hNa.dr.sz)
      obtain ⟨fn, tmps, assign, body, hy, hYR⟩ := HY.out S (l.take i) l[i] w2.drew hj2 HS.out.2.2.2 (fun k e => Nat.lt_of_lt_of_le (HR.out.bd k e) hNa.dr.sz) hpre
      have hol2 : o < w2.heap.size := World.block_lt_of_cell? _ _ c3
      have HE2 := Lib.hid (HR.out.keep hj2 hkp2 HS.out.1 HS.out.2.1 HS.out.2.2.1)
      have HT := Lib.hid (And.intro htk hpre)
      have HW2 := Lib.hid hw2
      unfold nmV nmH at hlk
      generalize l[i] = x at *
      obtain ⟨⟨xt, xr, xW, xq⟩, xp, xa, xc⟩ := x
      simp only at n0 n1 b0 b1 hlk hy HW2
      clear htk hpre hw2 hal hNa hx hkp2 hj2
      gi_wp2_with fail
      rw [HW2.out]
      generalize wr.heap.size = bx at *
      obtain ⟨y, hyd⟩ : ∃ y, w2.drew = y := ⟨_, rfl⟩
      have d3 : y.cell? ⟨o, 3, none⟩ = some (.map (some mb)) := by subst hyd; exact c3
      have e0 : y.cell? ⟨bx, 0, none⟩ = some (.int .i64 xt) := by subst hyd; exact b0
      have e1 : y.cell? ⟨bx, 1, none⟩ = some (.int .i64 xr) := by subst hyd; exact b1
      rw [hyd] at hlk hy hYR HE2
      clear c3 b0 b1 n0 n1 hgl hol2 HW2
      refine wpIn_region_any (by kernel_rfl) ?_
      change wpAnyIn _ _ _ _ _ _ 9 #[false, false, false, false, false, false, false, false, false] _ w2.drew
      rw [hyd]
      clear hyd
      refine wpAnyIn_take (i := 0) (v := .func (.yield L) #[] #[]) rfl rfl (by kernel_rfl) (by kernel_rfl) (by kernel_rfl) (fun c a w h => h) ⟨.inl ⟨rfl, fun w => by simp [go_sem]⟩, fun w => rfl⟩ ?_
      simp only [Act.put, List.getElem_toArray, List.getElem_cons_zero, List.setIfInBounds_toArray, List.set_cons_zero, List.set_cons_succ]
      refine wpAnyIn_take (i := 1) (v := .pointer (some ⟨o, 0, none⟩)) rfl rfl (by kernel_rfl) (by kernel_rfl) (by kernel_rfl) (fun c a w h => h) ⟨.inl ⟨rfl, fun w => by simp [go_sem]⟩, fun w => rfl⟩ ?_
      simp only [Act.put, List.getElem_toArray, List.getElem_cons_zero, List.getElem_cons_succ, List.setIfInBounds_toArray, List.set_cons_zero, List.set_cons_succ]
      refine wpAnyIn_take (i := 2) (v := .pointer (some ⟨o, 0, none⟩)) rfl rfl (by kernel_rfl) (by kernel_rfl) (by kernel_rfl) (fun c a w h => h) ⟨.inl ⟨rfl, fun w => by simp [go_sem]⟩, fun w => rfl⟩ ?_
      simp only [Act.put, List.getElem_toArray, List.getElem_cons_zero, List.getElem_cons_succ, List.setIfInBounds_toArray, List.set_cons_zero, List.set_cons_succ]
      refine wpAnyIn_take (i := 3) (v := .pointer (some ⟨o, 3, none⟩)) rfl rfl (by kernel_rfl) (by kernel_rfl) (by kernel_rfl) (fun c a w h => h) ⟨.inl ⟨rfl, fun w => by simp [go_sem]⟩, fun w => rfl⟩ ?_
      simp only [Act.put, List.getElem_toArray, List.getElem_cons_zero, List.getElem_cons_succ, List.setIfInBounds_toArray, List.set_cons_zero, List.set_cons_succ]
      refine wpAnyIn_ready (rs := [4, 5]) (by kernel_rfl) (by simp) ?_
      refine AllReadyIn.cons rfl (fun K hK => ?_) (AllReadyIn.cons rfl (fun K hK => ?_) AllReadyIn.nil)
      · rw [if_pos (by rfl)]
        simp only [List.getElem_toArray, List.getElem_cons_zero, List.getElem_cons_succ]
        gi_big_op
        refine hK _ _ ?_
        clear hK K
        refine wpAnyIn_ready (rs := [5]) (by kernel_rfl) (by simp) ?_
        refine AllReadyIn.cons rfl (fun K hK => ?_) AllReadyIn.nil
        rw [if_pos (by rfl)]
        simp only [List.getElem_toArray, List.getElem_cons_zero, List.getElem_cons_succ]
        gi_big_op
        refine hK _ _ ?_
        clear hK K
        refine wpAnyIn_ready (rs := [6]) (by kernel_rfl) (by simp) ?_
        refine AllReadyIn.cons rfl (fun K hK => ?_) AllReadyIn.nil
        rw [if_pos (by rfl)]
        simp only [List.getElem_toArray, List.getElem_cons_zero, List.getElem_cons_succ]
        gi_big_op
        refine hK _ _ ?_
        clear hK K
        refine wpAnyIn_ready (rs := [7]) (by kernel_rfl) (by simp) ?_
        refine AllReadyIn.cons rfl (fun K hK => ?_) AllReadyIn.nil
        rw [if_pos (by rfl)]
        simp only [List.getElem_toArray, List.getElem_cons_zero, List.getElem_cons_succ]
        go_simp
        refine hYR.mono ?_
        rintro e w3 (⟨rfl, hJ3, hk3⟩ | ⟨rfl, hJ3, hk3⟩)
        · refine hK _ _ ?_
          clear hK K hy hYR
          have HJ3 := Lib.hid (HE2.out.keep (i' := i + 1) (by rw [HT.out.1]; exact hJ3) hk3 HS.out.1 HS.out.2.1 HS.out.2.2.1)
          clear hJ3 hk3
          refine wpAnyIn_ready (rs := [8]) (by kernel_rfl) (by simp) ?_
          refine AllReadyIn.cons rfl (fun K hK => ?_) AllReadyIn.nil
          rw [if_pos (by rfl)]
          simp only [List.getElem_toArray, List.getElem_cons_zero, List.getElem_cons_succ]
          gi_big_op
          refine hK _ _ ?_
          clear hK K
          refine wpAnyIn_done (by kernel_rfl) ?_ _
          gi_wp2
          go_roundw
          case rel => exact ⟨i + 1, by go_num, by omega, HJ3⟩
          case measure => simp [intOf]; omega
        · refine hK _ _ ?_
          clear hK K hy hYR
          have HJ3 := Lib.hid hJ3
          clear hJ3 hk3
          refine wpAnyIn_ready (rs := [8]) (by kernel_rfl) (by simp) ?_
          refine AllReadyIn.cons rfl (fun K hK => ?_) AllReadyIn.nil
          rw [if_pos (by rfl)]
          simp only [List.getElem_toArray, List.getElem_cons_zero, List.getElem_cons_succ]
          gi_big_op
          refine hK _ _ ?_
          clear hK K
          refine wpAnyIn_done (by kernel_rfl) ?_ _
          gi_wp2
          refine bodyPost_ret (results_none rfl _ _ _) rfl ?_
          exact ⟨⟨_, rfl⟩, .inr ⟨S, _, HT.out.2, HJ3.out⟩⟩
      · rw [if_pos (by rfl)]
        simp only [List.getElem_toArray, List.getElem_cons_zero, List.getElem_cons_succ]
        gi_big_op
        refine hK _ _ ?_
        clear hK K
        refine wpAnyIn_ready (rs := [4]) (by kernel_rfl) (by simp) ?_
        refine AllReadyIn.cons rfl (fun K hK => ?_) AllReadyIn.nil
        rw [if_pos (by rfl)]
        simp only [List.getElem_toArray, List.getElem_cons_zero, List.getElem_cons_succ]
        gi_big_op
        refine hK _ _ ?_
        clear hK K
        refine wpAnyIn_ready (rs := [6]) (by kernel_rfl) (by simp) ?_
        refine AllReadyIn.cons rfl (fun K hK => ?_) AllReadyIn.nil
        rw [if_pos (by rfl)]
        simp only [List.getElem_toArray, List.getElem_cons_zero, List.getElem_cons_succ]
        gi_big_op
        refine hK _ _ ?_
        clear hK K
        refine wpAnyIn_ready (rs := [7]) (by kernel_rfl) (by simp) ?_
        refine AllReadyIn.cons rfl (fun K hK => ?_) AllReadyIn.nil
        rw [if_pos (by rfl)]
        simp only [List.getElem_toArray, List.getElem_cons_zero, List.getElem_cons_succ]
        go_simp
        refine hYR.mono ?_
        rintro e w3 (⟨rfl, hJ3, hk3⟩ | ⟨rfl, hJ3, hk3⟩)
        · refine hK _ _ ?_
          clear hK K hy hYR
          have HJ3 := Lib.hid (HE2.out.keep (i' := i + 1) (by rw [HT.out.1]; exact hJ3) hk3 HS.out.1 HS.out.2.1 HS.out.2.2.1)
          clear hJ3 hk3
          refine wpAnyIn_ready (rs := [8]) (by kernel_rfl) (by simp) ?_
          refine AllReadyIn.cons rfl (fun K hK => ?_) AllReadyIn.nil
          rw [if_pos (by rfl)]
          simp only [List.getElem_toArray, List.getElem_cons_zero, List.getElem_cons_succ]
          gi_big_op
          refine hK _ _ ?_
          clear hK K
          refine wpAnyIn_done (by kernel_rfl) ?_ _
          gi_wp2
          go_roundw
          case rel => exact ⟨i + 1, by go_num, by omega, HJ3⟩
          case measure => simp [intOf]; omega
        · refine hK _ _ ?_
          clear hK K hy hYR
          have HJ3 := Lib.hid hJ3
          clear hJ3 hk3
          refine wpAnyIn_ready (rs := [8]) (by kernel_rfl) (by simp) ?_
          refine AllReadyIn.cons rfl (fun K hK => ?_) AllReadyIn.nil
          rw [if_pos (by rfl)]
          simp only [List.getElem_toArray, List.getElem_cons_zero, List.getElem_cons_succ]
          gi_big_op
          refine hK _ _ ?_
          clear hK K
          refine wpAnyIn_done (by kernel_rfl) ?_ _
          gi_wp2
          refine bodyPost_ret (results_none rfl _ _ _) rfl ?_
          exact ⟨⟨_, rfl⟩, .inr ⟨S, _, HT.out.2, HJ3.out⟩⟩
    · obtain rfl : i = l.length := by omega
      have HZ := Lib.hid HR.out.j
      rw [List.take_length] at HZ
      gi_wp2
      go_end0
      exact ⟨⟨_, rfl⟩, .inl ⟨S, l, rfl, HZ.out⟩⟩
end Go.Proofs.YtpffldfpabglbaaGreatDoor
end

/- A region that draws its order, in a round of a range over a function: what is shown of it outside of a round serves. Of no program. -/
section
namespace Go.Proofs.YtpffldfpabglbaaGreatDoor
open Go.RowKit Go.Shelf

/-- The region is left off its end. -/
def NOr (Q : Exit → Act → World → Prop) : Exit → Act → World → Prop
  | .normal, a, w => Q .normal a w
  | _, _, _ => False
theorem NOr.imp {Q : Exit → Act → World → Prop} (e : Exit) (a : Act) (w : World) (h : NOr Q e a w) : Q e a w := by
  cases e with
  | normal => exact h
  | _ => exact h.elim
theorem NOr.lets {Q : Exit → Act → World → Prop} (h : LetsOut (NOr Q)) : False := by obtain ⟨a, w, h⟩ := h; exact h
def notDefer (o : Oper) : Bool := match o.op with | .defer _ => false | _ => true
theorem notDefer_ne {o : Oper} (h : notDefer o = true) : ∀ c, o.op ≠ .defer c := fun c e => by
  unfold notDefer at h; rw [e] at h; cases h
theorem rowsRound {r n : Nat} {P : Program} {row : String} {args : Array Value} {w : World} {R : Value → World → Prop} (h : Rows P row args w R) : RowsIn (Fence.wide.inRound r) n P row args w R :=
  fun c cs _ => let ⟨v, w', q, s⟩ := h c cs; ⟨v, w', q, stepsIn_wide.2 s⟩
theorem callsRound {r n : Nat} {P : Program} {f : FuncId} {args : Array Value} {w : World} {R : Ending → World → Prop} (h : Calls P f args w R) : CallsIn (Fence.wide.inRound r) n P f args w R := (callsIn_wide (n := n)).2 h
theorem operRound {r n : Nat} {P : Program} {o : Oper} {a : Act} {w : World} {K : Act → World → Prop} {Q : Exit → Act → World → Prop} (hd : notDefer o = true) (h : o.wp P a w K Q) : o.wpIn (Fence.wide.inRound r) n P a w K Q := by
  unfold Oper.wp at h
  unfold Oper.wpIn
  refine ⟨fun _ _ => trivial, ?_⟩
  rw [Oper.semAt_plain _ _ _ (notDefer_ne hd)]
  generalize (execOp a.eval o).run P w = x at *
  cases x with
  | ok v w' =>
    cases v <;> simp only [Oper.upon] at h <;> simp only [Oper.uponIn]
    case value => exact h
    case skip => exact h
    case defer => exact h
    case enter => exact ⟨fun e => by simp [Fence.inRound, Fence.wide] at e, callsRound h⟩
    case row => exact ⟨fun e => by simp [Fence.inRound, Fence.wide] at e, rowsRound h⟩
  | halt v w' =>
    cases v <;> simp only [Oper.upon] at h <;> simp only [Oper.uponIn]
    exact h
theorem anyRound {r n : Nat} {P : Program} {md : Region.Mode} {ops : Array Oper} {Q : Exit → Act → World → Prop} (hd : ∀ o ∈ ops.toList, notDefer o = true) : ∀ (fuel : Nat) (listed : Array Bool) (a : Act) (w : World),
    wpAny P md ops (NOr Q) fuel listed a w → wpAnyIn (Fence.wide.inRound r) n P md ops (NOr Q) fuel listed a w
  | 0, _, _, _, h => h
  | fuel + 1, listed, a, w, h => ⟨h.1, fun i hi => by
    have hh := h.2 i hi
    unfold wpOp at hh
    unfold wpOpIn
    cases ho : ops[i]? with
    | none => simp only [ho] at hh ⊢; exact anyRound hd fuel _ _ _ hh
    | some o =>
      simp only [ho] at hh ⊢
      split
      · rename_i hw
        rw [if_pos hw] at hh
        rcases hh with hh | ⟨_, hh⟩
        · exact Oper.wpIn_mono (fun a w q => anyRound hd fuel _ _ _ q) (operRound (hd o (List.mem_of_getElem? (by rw [Array.getElem?_toList]; exact ho))) hh)
        · exact (NOr.lets hh).elim
      · rename_i hw
        rw [if_neg hw] at hh
        exact ⟨fun _ _ => trivial, anyRound hd fuel _ _ _ hh⟩⟩
/-- An operation that comes up now. -/
theorem opH {P : Program} {ops : Array Oper} {Q : Exit → Act → World → Prop} {i : Nat} {o : Oper} {K : Act → World → Prop} {a : Act} {w : World} (ho : ops[i]? = some o)
    (h : ∀ K' : Act → World → Prop, (∀ a w, K a w → K' a w) → if Region.wanted o (yielded ops a.tmps) = true then Oper.wp P o a w K' Q else K' (a.put o.dst undef) w) : wpOp P ops Q i K a w := by
  unfold wpOp
  simp only [ho]
  have := h K (fun _ _ q => q)
  split
  · rename_i hw
    rw [if_pos hw] at this
    exact .inl this
  · rename_i hw
    rw [if_neg hw] at this
    exact this
end Go.Proofs.YtpffldfpabglbaaGreatDoor
end

/- with: the head that has a request. -/
section
namespace Go.Proofs.YtpffldfpabglbaaGreatDoor
open Go.RowKit Go.Sort Go.Shelf
set_option linter.unusedVariables false      -- a contract need not use every name
attribute [local go_sem] Oper.semAt_some

abbrev hpH (x : Hp) : Value := .agg #[.int .i64 x.h.t, .int .i64 x.h.r, .slice x.a x.h.q.length x.c, .int .i64 x.h.W]
/-- What the search holds between two rounds. -/
structure WiI (w : World) (id : Int) (S0 S : Nat → Prop) (pre : List Hp) (A : World) : Prop where
  nw : Nw w A
  box : A.cell? ⟨w.heap.size, 0, none⟩ = some (.int .i64 id)
  res : ∃ u0 u1 u2 u3, A.heap[w.heap.size + 1]? = some (.cells #[u0, u1, u2, u3] 63 (0, 0))
  nb : ¬ S w.heap.size
  nr : ¬ S (w.heap.size + 1)
  sub : ∀ k, S k → S0 k ∨ w.heap.size + 2 ≤ k
  no : ∀ x ∈ pre, fnd x.h.q id = none
theorem WiI.step {w A B : World} {id : Int} {n₀ : Nat} {S0 S S' : Nat → Prop} {pre : List Hp} (h : WiI w id S0 S pre A) (hn : w.heap.size + 2 ≤ n₀) (hS0 : ∀ k, S0 k → k < w.heap.size) (k : Ch' n₀ (fun k => S k ∧ ¬ S0 k) A B) (h2 : ∀ k, S' k → S k ∨ A.heap.size ≤ k) : WiI w id S0 S' pre B := by
  obtain ⟨u0, u1, u2, u3, hr⟩ := h.res
  have hsz := h.nw.sz
  have hrl := hlt hr
  have e := chSame k h.box (fun q => h.nb q.1)
  refine ⟨chNw k h.nw (by omega) (fun i q => by have := (h.sub i q.1).resolve_left q.2; omega), (World.cell?_of_block e).trans h.box, ⟨u0, u1, u2, u3, k.cells hr (fun q => h.nr q.1)⟩, fun e => ?_, fun e => ?_, fun i e => ?_, h.no⟩
  · rcases h2 _ e with q | q
    · exact h.nb q
    · omega
  · rcases h2 _ e with q | q
    · exact h.nr q
    · omega
  · rcases h2 _ e with q | q
    · exact h.sub i q
    · exact .inr (by omega)
end Go.Proofs.YtpffldfpabglbaaGreatDoor
end

/- A stable sort's merge in place: plain facts on lists. Of no program. -/
section
namespace Go.Proofs.YtpffldfpabglbaaGreatDoor
set_option linter.unusedVariables false

/-- A comparison that orders the members of a set strictly, any two of them. -/
structure OrdC (c : Int → Int → Int) (M : Int → Prop) : Prop where
  tr : ∀ x y z, M x → M y → M z → c x y < 0 → c y z < 0 → c x z < 0
  tot : ∀ x y, M x → M y → x ≠ y → c x y < 0 ∨ c y x < 0
  asym : ∀ x y, M x → M y → c x y < 0 → ¬ c y x < 0
abbrev Sd (c : Int → Int → Int) (l : List Int) : Prop := l.Pairwise fun x y => c x y < 0
theorem sm_sw_mid (U V Z : List Int) (x y : Int) (p q : Nat) (hp : p = U.length) (hq : q = U.length + 1 + V.length) : ((U ++ x :: (V ++ y :: Z)).set p y).set q x = U ++ y :: (V ++ x :: Z) := by
  subst hp hq
  rw [List.set_append_right _ _ (Nat.le_refl _), Nat.sub_self, List.set_cons_zero, List.set_append_right _ _ (by omega), show U.length + 1 + V.length - U.length = V.length + 1 by omega, List.set_cons_succ,
    List.set_append_right _ _ (Nat.le_refl _), Nat.sub_self, List.set_cons_zero]
theorem sm_at_mid (U : List Int) (x : Int) (Z : List Int) (p : Nat) (hp : p = U.length) : (U ++ x :: Z).getD p 0 = x := by subst hp; simp [List.getD]
theorem sm_at_mid2 (U V Z : List Int) (x y : Int) (q : Nat) (hq : q = U.length + 1 + V.length) : (U ++ x :: (V ++ y :: Z)).getD q 0 = y := by
  have e : U ++ x :: (V ++ y :: Z) = (U ++ x :: V) ++ y :: Z := by simp
  rw [e]
  exact sm_at_mid _ _ _ _ (by simp; omega)
theorem sm_at_app_r (U V : List Int) (i : Nat) : (U ++ V).getD (U.length + i) 0 = V.getD i 0 := by simp [List.getD, List.getElem?_append_right]
theorem sm_at_app_l' (U V : List Int) (i : Nat) (h : i < U.length) : (U ++ V).getD i 0 = U.getD i 0 := by simp [List.getD, List.getElem?_append_left h]
theorem sm_part_at (X : List Int) (i : Nat) (h : i < X.length) : X = X.take i ++ X.getD i 0 :: X.drop (i + 1) := by
  have e : X.getD i 0 = X[i] := by simp [List.getD, h]
  rw [e, List.getElem_cons_drop, List.take_append_drop]
/-- One round of the exchange of two ranges. -/
def swSt (P X R Y Q : List Int) (i : Nat) : List Int := P ++ Y.take i ++ X.drop i ++ R ++ X.take i ++ Y.drop i ++ Q
theorem swSt_zero (P X R Y Q : List Int) : swSt P X R Y Q 0 = P ++ X ++ R ++ Y ++ Q := by simp [swSt]
theorem swSt_all (P X R Y Q : List Int) (h : X.length = Y.length) : swSt P X R Y Q X.length = P ++ Y ++ R ++ X ++ Q := by
  unfold swSt
  rw [List.drop_length, List.take_length, h, List.take_length, List.drop_length]
  simp
theorem swSt_step (P X R Y Q : List Int) (h : X.length = Y.length) (i : Nat) (hi : i < X.length) :
    ∃ x y U V Z, swSt P X R Y Q i = U ++ x :: (V ++ y :: Z) ∧ swSt P X R Y Q (i + 1) = U ++ y :: (V ++ x :: Z) ∧ U.length = P.length + i ∧ U.length + 1 + V.length = P.length + X.length + R.length + i := by
  have hy : i < Y.length := by omega
  obtain ⟨x, hx⟩ : ∃ x, X[i] = x := ⟨_, rfl⟩
  obtain ⟨y, hyy⟩ : ∃ y, Y[i] = y := ⟨_, rfl⟩
  have d1 : X.drop i = x :: X.drop (i + 1) := by rw [← hx]; exact (List.getElem_cons_drop hi).symm
  have d2 : Y.drop i = y :: Y.drop (i + 1) := by rw [← hyy]; exact (List.getElem_cons_drop hy).symm
  have t1 : X.take (i + 1) = X.take i ++ [x] := by rw [← hx]; exact List.take_succ_eq_append_getElem hi
  have t2 : Y.take (i + 1) = Y.take i ++ [y] := by rw [← hyy]; exact List.take_succ_eq_append_getElem hy
  refine ⟨x, y, P ++ Y.take i, X.drop (i + 1) ++ R ++ X.take i, Y.drop (i + 1) ++ Q, ?_, ?_, ?_, ?_⟩
  · unfold swSt; rw [d1, d2]; simp
  · unfold swSt; rw [t1, t2]; simp
  · simp; omega
  · simp; omega
/-! ### Sorted parts -/
theorem sm_sd_app {c : Int → Int → Int} {l m : List Int} (h1 : Sd c l) (h2 : Sd c m) (h : ∀ x ∈ l, ∀ y ∈ m, c x y < 0) : Sd c (l ++ m) := List.pairwise_append.2 ⟨h1, h2, h⟩
theorem sm_sd_at {c : Int → Int → Int} {l : List Int} (h : Sd c l) {i j : Nat} (hij : i < j) (hj : j < l.length) : c (l.getD i 0) (l.getD j 0) < 0 := by
  have := List.pairwise_iff_getElem.1 h i j (Nat.lt_trans hij hj) hj hij
  simpa [List.getD, hj, Nat.lt_trans hij hj] using this
theorem sm_mem_at {l : List Int} {x : Int} (h : x ∈ l) : ∃ i, i < l.length ∧ l.getD i 0 = x := by
  obtain ⟨i, hi, e⟩ := List.getElem_of_mem h
  exact ⟨i, hi, by simp [List.getD, hi, e]⟩
theorem sm_at_mem {l : List Int} {j : Nat} (h : j < l.length) : l.getD j 0 ∈ l := by
  have : l.getD j 0 = l[j] := by simp [List.getD, h]
  rw [this]
  exact List.getElem_mem h
/-- All of one sorted list are ahead of all of another one, if the last one is ahead of the first one. -/
theorem sm_cross {c : Int → Int → Int} {M : Int → Prop} (o : OrdC c M) {l m : List Int} (hl : ∀ x ∈ l, M x) (hm : ∀ x ∈ m, M x) (h1 : Sd c l) (h2 : Sd c m) (h : 0 < l.length → 0 < m.length → c (l.getD (l.length - 1) 0) (m.getD 0 0) < 0) : ∀ x ∈ l, ∀ y ∈ m, c x y < 0 := by
  intro x hx y hy
  obtain ⟨i, hi, rfl⟩ := sm_mem_at hx
  obtain ⟨j, hj, rfl⟩ := sm_mem_at hy
  have h0 := h (by omega) (by omega)
  have a : c (l.getD i 0) (m.getD 0 0) < 0 := by
    by_cases e : i = l.length - 1
    · rw [e]; exact h0
    · exact o.tr _ _ _ (hl _ hx) (hl _ (sm_at_mem (by omega))) (hm _ (sm_at_mem (by omega))) (sm_sd_at h1 (by omega : i < l.length - 1) (by omega)) h0
  by_cases e : j = 0
  · rw [e]; exact a
  · exact o.tr _ _ _ (hl _ hx) (hm _ (sm_at_mem (by omega))) (hm _ hy) a (sm_sd_at h2 (by omega : 0 < j) hj)
theorem sm_take_last (B : List Int) (k : Nat) (h0 : 0 < k) (h : k ≤ B.length) : (B.take k).getD ((B.take k).length - 1) 0 = B.getD (k - 1) 0 := by
  have : (B.take k).length = k := by simp; omega
  rw [this]
  simp [List.getD, show k - 1 < k by omega]
theorem sm_drop_first (B : List Int) (k : Nat) : (B.drop k).getD 0 0 = B.getD k 0 := by simp [List.getD]
theorem sm_take_all {B : List Int} {M : Int → Prop} (h : ∀ x ∈ B, M x) (k : Nat) : ∀ x ∈ B.take k, M x := fun x hx => h x (List.mem_of_mem_take hx)
theorem sm_drop_all {B : List Int} {M : Int → Prop} (h : ∀ x ∈ B, M x) (k : Nat) : ∀ x ∈ B.drop k, M x := fun x hx => h x (List.mem_of_mem_drop hx)
theorem sm_sd_take {c : Int → Int → Int} {B : List Int} (h : Sd c B) (k : Nat) : Sd c (B.take k) := List.Pairwise.sublist (List.take_sublist k B) h
theorem sm_sd_drop {c : Int → Int → Int} {B : List Int} (h : Sd c B) (k : Nat) : Sd c (B.drop k) := List.Pairwise.sublist (List.drop_sublist k B) h
/-- One put into its place. -/
theorem sm_ins_sd {c : Int → Int → Int} {M : Int → Prop} (o : OrdC c M) {B : List Int} {x : Int} (hB : ∀ y ∈ B, M y) (hx : M x) (h : Sd c B) (k : Nat) (hk : k ≤ B.length) (h1 : 0 < k → c (B.getD (k - 1) 0) x < 0) (h2 : k < B.length → c x (B.getD k 0) < 0) : Sd c (B.take k ++ x :: B.drop k) := by
  have a1 : ∀ y ∈ B.take k, ∀ z ∈ [x], c y z < 0 := sm_cross o (sm_take_all hB k) (by intro z hz; simp at hz; rw [hz]; exact hx) (sm_sd_take h k) (by simp [Sd]) (fun q _ => by
    have : 0 < k := by
      rcases Nat.eq_zero_or_pos k with e | e
      · subst e
        simp at q
      · exact e
    rw [sm_take_last B k this hk]
    exact h1 this)
  have a2 : ∀ y ∈ [x], ∀ z ∈ B.drop k, c y z < 0 := sm_cross o (by intro z hz; simp at hz; rw [hz]; exact hx) (sm_drop_all hB k) (by simp [Sd]) (sm_sd_drop h k) (fun _ q => by
    rw [sm_drop_first]
    exact h2 (by simp at q; omega))
  have a3 : ∀ y ∈ B.take k, ∀ z ∈ B.drop k, c y z < 0 := fun y hy z hz => o.tr _ _ _ (sm_take_all hB k y hy) hx (sm_drop_all hB k z hz) (a1 y hy x (by simp)) (a2 x (by simp) z hz)
  refine sm_sd_app (sm_sd_take h k) (List.pairwise_cons.2 ⟨fun z hz => a2 x (by simp) z hz, sm_sd_drop h k⟩) fun y hy z hz => ?_
  rcases List.mem_cons.1 hz with rfl | hz
  · exact a1 y hy _ (by simp)
  · exact a3 y hy z hz
theorem sm_ins_perm' (B : List Int) (x : Int) (k : Nat) : (B.take k ++ x :: B.drop k).Perm (x :: B) := by
  refine List.perm_middle.trans ?_
  rw [List.take_append_drop]
/-- A merge by sm_halves: what the two searches' ends say. -/
theorem sm_halves {c : Int → Int → Int} {M : Int → Prop} (o : OrdC c M) {A B A1 A2 B1 B2 M1 M2 : List Int} (hA : Sd c A) (hB : Sd c B) (mA : ∀ x ∈ A, M x) (mB : ∀ x ∈ B, M x)
    (eA : A = A1 ++ A2) (eB : B = B1 ++ B2) (q1 : 0 < A1.length → 0 < B2.length → c (A1.getD (A1.length - 1) 0) (B2.getD 0 0) < 0) (q2 : 0 < B1.length → 0 < A2.length → c (B1.getD (B1.length - 1) 0) (A2.getD 0 0) < 0)
    (s1 : Sd c M1) (s2 : Sd c M2) (p1 : M1.Perm (A1 ++ B1)) (p2 : M2.Perm (A2 ++ B2)) : Sd c (M1 ++ M2) ∧ (M1 ++ M2).Perm (A ++ B) := by
  subst eA eB
  obtain ⟨a1, a2, a3⟩ := List.pairwise_append.1 hA
  obtain ⟨b1, b2, b3⟩ := List.pairwise_append.1 hB
  have mA1 : ∀ x ∈ A1, M x := fun x hx => mA x (List.mem_append_left _ hx)
  have mA2 : ∀ x ∈ A2, M x := fun x hx => mA x (List.mem_append_right _ hx)
  have mB1 : ∀ x ∈ B1, M x := fun x hx => mB x (List.mem_append_left _ hx)
  have mB2 : ∀ x ∈ B2, M x := fun x hx => mB x (List.mem_append_right _ hx)
  have x1 := sm_cross o mA1 mB2 a1 b2 q1
  have x2 := sm_cross o mB1 mA2 b1 a2 q2
  refine ⟨sm_sd_app s1 s2 fun x hx y hy => ?_, ?_⟩
  · rcases List.mem_append.1 (p1.mem_iff.1 hx) with hx | hx <;> rcases List.mem_append.1 (p2.mem_iff.1 hy) with hy | hy
    · exact a3 x hx y hy
    · exact x1 x hx y hy
    · exact x2 x hx y hy
    · exact b3 x hx y hy
  · refine (p1.append p2).trans ?_
    have e1 : (A1 ++ B1) ++ (A2 ++ B2) = A1 ++ (B1 ++ A2) ++ B2 := by simp
    have e2 : (A1 ++ A2) ++ (B1 ++ B2) = A1 ++ (A2 ++ B1) ++ B2 := by simp
    rw [e1, e2]
    exact (List.Perm.append_left A1 List.perm_append_comm).append_right B2
end Go.Proofs.YtpffldfpabglbaaGreatDoor
end

/- swapRangeCmpFunc and rotateCmpFunc of ints. -/
section
namespace Go.Proofs.YtpffldfpabglbaaGreatDoor
open Go.RowKit
set_option linter.unusedVariables false      -- a contract need not use every name

/-- A row of n numbers, behind one block. -/
abbrev RowN (w : World) (g cap n : Nat) (l : List Int) : Prop := IS w (.slice (some ⟨g, 0, none⟩) n cap) l
theorem RowN.swap {w : World} {g cap n : Nat} {U V Z : List Int} {x y : Int} (h : RowN w g cap n (U ++ x :: (V ++ y :: Z))) (p q : Nat) (hp : p = U.length) (hq : q = U.length + 1 + V.length) :
    RowN ((w.setCell ⟨g, p, none⟩ (.int .i64 y)).setCell ⟨g, q, none⟩ (.int .i64 x)) g cap n (U ++ y :: (V ++ x :: Z)) := by
  have := IS.set (IS.set h p y) q x
  rwa [sm_sw_mid U V Z x y p q hp hq] at this
theorem sm_two_tch (w : World) (g a b : Nat) (va vb : Value) : Tch (fun k => k = g) w ((w.setCell ⟨g, a, none⟩ va).setCell ⟨g, b, none⟩ vb).drew :=
  Tch.drew (Tch.set (p := ⟨g, b, none⟩) (Tch.set (p := ⟨g, a, none⟩) (Tch.refl (fun k => k = g) w) (.inl rfl) va) (.inl rfl) vb)
theorem RowN.drew {w : World} {g cap n : Nat} {l : List Int} (h : RowN w g cap n l) : RowN w.drew g cap n l := h.nw ((Nw.refl w).drewN 1)
set_option maxRecDepth 100000 in
set_option maxHeartbeats 4000000 in
theorem swapRange (f : Value) (gf : Nat) (lb : Array Value) (hf : f = .func (.func gf) #[] lb) (g cap n : Nat) (P X R Y Q : List Int) (w : World) (hn : n ≤ 1000) (h : RowN w g cap n (P ++ X ++ R ++ Y ++ Q)) (hXY : X.length = Y.length) (a b k : Nat) (ha : a = P.length) (hb : b = P.length + X.length + R.length) (hk : k = X.length) :
    Calls Tryz.prog 264 #[.slice (some ⟨g, 0, none⟩) n cap, .int .i64 a, .int .i64 b, .int .i64 k, f] w fun e w' => e = .returned (.tuple #[]) ∧ RowN w' g cap n (P ++ Y ++ R ++ X ++ Q) ∧ Tch (fun k => k = g) w w' := by
  subst hf
  have H := Lib.hid (show RowN w g cap n (swSt P X R Y Q 0) by rw [swSt_zero]; exact h)
  have hl : n = P.length + X.length + R.length + Y.length + Q.length := by
    have := h.nlen
    simp at this
    omega
  have HL := Lib.hid (And.intro hl (And.intro hXY (And.intro ha (And.intro hb hk))))
  have hab : a + k ≤ b ∧ b + k ≤ n := by omega
  clear h hl hXY ha hb hk
  go_enter Tryz.func264, Tryz.ntmps264
  go_wp2
  go_loopw [10] (fun v wr => ∃ i : Nat, v = .int .i64 i ∧ i ≤ k ∧ Hid (RowN wr g cap n (swSt P X R Y Q i) ∧ Tch (fun k => k = g) w wr)) (fun v _ => k - (intOf v).toNat)
  case atStart => exact ⟨0, rfl, Nat.zero_le _, Lib.hid ⟨H.out, Tch.refl _ _⟩⟩
  case round =>
    clear H
    obtain ⟨i, rfl, hi, HI⟩ := hrel
    by_cases hik : i < k
    · obtain ⟨h1, h2, h3, h4, h5⟩ := HL.out
      obtain ⟨x, y, U, V, Z, e1, e2, e3, e4⟩ := swSt_step P X R Y Q h2 i (by omega)
      obtain ⟨p1, hp1⟩ : ∃ p1, a + i = p1 := ⟨_, rfl⟩
      obtain ⟨p2, hp2⟩ : ∃ p2, b + i = p2 := ⟨_, rfl⟩
      have wA : IntKind.i64.wrap ((a : Int) + (i : Int)) = (p1 : Int) := by rw [sum_nat a i (by omega) (by omega), hp1]
      have wB : IntKind.i64.wrap ((b : Int) + (i : Int)) = (p2 : Int) := by rw [sum_nat b i (by omega) (by omega), hp2]
      have hR := HI.out.1
      rw [e1] at hR
      have hS := hR.swap p1 p2 (by omega) (by omega)
      have hl2 := hR.nlen
      have c1 := IS.cell hR p1 (by simp; omega)
      have c2 := IS.cell hR p2 (by simp; omega)
      rw [sm_at_mid U x _ p1 (by omega)] at c1
      rw [sm_at_mid2 U V Z x y p2 (by omega)] at c2
      rw [← e2] at hS
      have HS := Lib.hid (And.intro hS HI.out.2)
      have fz := IS.frozen hR
      have hg := IS.glt hR
      have ne : ¬ p1 = p2 := by omega
      have ne' : ¬ p2 = p1 := by omega
      have b1 : (p1 : Int) < (n : Int) := by omega
      have b2 : (p2 : Int) < (n : Int) := by omega
      have b1' : p1 < n := by omega
      have b2' : p2 < n := by omega
      have hki : (i : Int) < (k : Int) := by omega
      clear h1 h2 h3 h4 h5 e1 e2 e3 e4 hp1 hp2 hR hS hl2 HI
      go_wp2
      go_region
      all_goals
        go_wp2
        go_roundw
        case rel => exact ⟨i + 1, by go_num, by omega, Lib.hid ⟨RowN.drew HS.out.1, HS.out.2.trans (sm_two_tch _ _ _ _ _ _)⟩⟩
        case measure => simp [intOf]; omega
    · obtain rfl : i = k := by omega
      have HE := Lib.hid (show RowN wr g cap n (P ++ Y ++ R ++ X ++ Q) by
        have := HI.out.1
        rwa [HL.out.2.2.2.2, swSt_all P X R Y Q HL.out.2.1] at this)
      have HT := Lib.hid HI.out.2
      clear HI
      go_wp2
      exact bodyPost_end (results_none rfl _ _ _) rfl ⟨rfl, HE.out, HT.out⟩
/-- What is left to turn. -/
def RotI (w : World) (g cap n m : Nat) (T : List Int) (i j : Nat) (wr : World) : Prop := ∃ P A B Q : List Int, P.length + A.length = m ∧ A.length = i ∧ B.length = j ∧ 0 < i ∧ 0 < j ∧ P.length + A.length + B.length + Q.length = n ∧ P ++ B ++ A ++ Q = T ∧ RowN wr g cap n (P ++ A ++ B ++ Q) ∧ Tch (fun k => k = g) w wr
set_option maxRecDepth 100000 in
set_option maxHeartbeats 4000000 in
theorem rotate (f : Value) (gf : Nat) (lb : Array Value) (hf : f = .func (.func gf) #[] lb) (g cap n : Nat) (P A B Q : List Int) (w : World) (hn : n ≤ 1000) (h : RowN w g cap n (P ++ A ++ B ++ Q)) (hA : 0 < A.length) (hB : 0 < B.length) (a m b : Nat) (ha : a = P.length) (hm : m = P.length + A.length) (hb : b = P.length + A.length + B.length) :
    Calls Tryz.prog 263 #[.slice (some ⟨g, 0, none⟩) n cap, .int .i64 a, .int .i64 m, .int .i64 b, f] w fun e w' => e = .returned (.tuple #[]) ∧ RowN w' g cap n (P ++ B ++ A ++ Q) ∧ Tch (fun k => k = g) w w' := by
  subst hf
  obtain ⟨T, hT⟩ : ∃ T, P ++ B ++ A ++ Q = T := ⟨_, rfl⟩
  have hl := h.nlen
  simp at hl
  have H0 := Lib.hid (show RotI w g cap n m T A.length B.length w from ⟨P, A, B, Q, hm.symm, rfl, rfl, hA, hB, by omega, hT, h, Tch.refl _ _⟩)
  obtain ⟨i0, hi0⟩ : ∃ x, A.length = x := ⟨_, rfl⟩
  obtain ⟨j0, hj0⟩ : ∃ x, B.length = x := ⟨_, rfl⟩
  rw [hi0, hj0] at H0
  rw [hT]
  have w1 : IntKind.i64.wrap ((m : Int) - (a : Int)) = (i0 : Int) := sub_nat m a i0 (by omega) (by omega)
  have w2 : IntKind.i64.wrap ((b : Int) - (m : Int)) = (j0 : Int) := sub_nat b m j0 (by omega) (by omega)
  have hm1 : m ≤ 1000 := by omega
  clear h hA hB ha hm hb hl hi0 hj0 hT
  go_enter Tryz.func263, Tryz.ntmps263
  go_wp2
  clear w1 w2
  go_loopw [10, 11] (fun vi vj wr => ∃ i j : Nat, vi = .int .i64 i ∧ vj = .int .i64 j ∧ Hid (RotI w g cap n m T i j wr)) (fun vi vj _ => (intOf vi).toNat + (intOf vj).toNat)
  case atStart => exact ⟨i0, j0, rfl, rfl, H0⟩
  case round =>
    clear H0
    obtain ⟨i, j, rfl, rfl, HI⟩ := hrel
    obtain ⟨P', A', B', Q', e1, e2, e3, hi, hj, e4, e5, hR, hTc⟩ := HI.out
    obtain ⟨p, hp⟩ : ∃ p, m = p + i := ⟨m - i, by omega⟩
    have w3 : IntKind.i64.wrap ((m : Int) - (i : Int)) = (p : Int) := sub_nat m i p (by omega) (by omega)
    by_cases hij : i = j
    · subst hij
      have HS := Lib.hid (swapRange (.func (.func gf) #[] lb) gf lb rfl g cap n P' A' [] B' Q' wr hn (by simpa using hR) (by omega) p m i (by omega) (by simp; omega) (by omega))
      have HT := Lib.hid hTc
      have HE := Lib.hid e5
      clear HI e1 e2 e3 e4 e5 hR hTc hp
      go_wp2_with fail
      refine HS.out.mono ?_
      rintro e w5 ⟨rfl, q1, q2⟩
      have HQ := Lib.hid (And.intro q1 q2)
      clear q1 q2
      go_wp2
      refine bodyPost_end (results_none rfl _ _ _) rfl ⟨rfl, ?_, HT.out.trans HQ.out.2⟩
      have := HQ.out.1
      rw [← HE.out]
      simpa using this
    · have dij : ((i : Int) == (j : Int)) = false := by simp; omega
      by_cases hgt : j < i
      · have dgt : decide ((j : Int) < (i : Int)) = true := by simp; omega
        have w4 : IntKind.i64.wrap ((i : Int) - (j : Int)) = ((i - j : Nat) : Int) := sub_nat i j (i - j) (by omega) (by omega)
        have eA : A' = A'.take j ++ A'.drop j := (List.take_append_drop j A').symm
        have e6 : P' ++ B' ++ A'.take j ++ A'.drop j ++ Q' = T := by rw [List.append_assoc (P' ++ B') (A'.take j), List.take_append_drop]; exact e5
        have lt : (A'.take j).length = j := by simp; omega
        have ld : (A'.drop j).length = i - j := by simp; omega
        have HS := Lib.hid (swapRange (.func (.func gf) #[] lb) gf lb rfl g cap n P' (A'.take j) (A'.drop j) B' Q' wr hn (by rw [eA] at hR; simpa using hR) (by omega) p m j (by omega) (by omega) (by omega))
        have HN := Lib.hid (fun w5 (q1 : RowN w5 g cap n (P' ++ B' ++ A'.drop j ++ A'.take j ++ Q')) (q2 : Tch (fun k => k = g) wr w5) => show RotI w g cap n m T (i - j) j w5 from
          ⟨P' ++ B', A'.drop j, A'.take j, Q', by rw [List.length_append, ld]; omega, ld, lt, by omega, hj, by rw [List.length_append, ld, lt]; omega, e6, q1, hTc.trans q2⟩)
        clear HI e1 e2 e3 e4 e5 hR hTc hp eA lt ld e6
        go_wp2_with fail
        refine HS.out.mono ?_
        rintro e w5 ⟨rfl, q1, q2⟩
        have HQ := Lib.hid (HN.out w5 q1 q2)
        clear q1 q2
        go_wp2
        go_roundw
        case rel => exact ⟨i - j, j, by go_num, rfl, HQ⟩
        case measure => simp [intOf]; omega
      · have dgt : decide ((j : Int) < (i : Int)) = false := by simp; omega
        have w4 : IntKind.i64.wrap ((j : Int) - (i : Int)) = ((j - i : Nat) : Int) := sub_nat j i (j - i) (by omega) (by omega)
        obtain ⟨mj, hmj⟩ : ∃ x, m + j = x := ⟨_, rfl⟩
        obtain ⟨mk, hmk⟩ : ∃ x, mj = i + x := ⟨mj - i, by omega⟩
        have w5 : IntKind.i64.wrap ((m : Int) + (j : Int)) = (mj : Int) := by rw [sum_nat m j (by omega) (by omega), hmj]
        have w6 : IntKind.i64.wrap ((mj : Int) - (i : Int)) = (mk : Int) := sub_nat mj i mk (by omega) hmk
        have eB : B' = B'.take (j - i) ++ B'.drop (j - i) := (List.take_append_drop (j - i) B').symm
        have e6 : P' ++ B'.take (j - i) ++ B'.drop (j - i) ++ (A' ++ Q') = T := by rw [List.append_assoc P' (B'.take (j - i)), List.take_append_drop, ← e5]; simp
        have lt : (B'.take (j - i)).length = j - i := by simp; omega
        have ld : (B'.drop (j - i)).length = i := by simp; omega
        have HS := Lib.hid (swapRange (.func (.func gf) #[] lb) gf lb rfl g cap n P' A' (B'.take (j - i)) (B'.drop (j - i)) Q' wr hn (by rw [eB] at hR; simpa using hR) (by omega) p mk i (by omega) (by omega) (by omega))
        have HN := Lib.hid (fun w5 (q1 : RowN w5 g cap n (P' ++ B'.drop (j - i) ++ B'.take (j - i) ++ A' ++ Q')) (q2 : Tch (fun k => k = g) wr w5) => show RotI w g cap n m T i (j - i) w5 from
          ⟨P', B'.drop (j - i), B'.take (j - i), A' ++ Q', by omega, ld, lt, hi, by omega, by rw [List.length_append, ld, lt]; omega, e6, by simpa using q1, hTc.trans q2⟩)
        clear HI e1 e2 e3 e4 e5 hR hTc hp eB lt ld e6 hmj hmk
        go_wp2_with fail
        refine HS.out.mono ?_
        rintro e w7 ⟨rfl, q1, q2⟩
        have HQ := Lib.hid (HN.out w7 q1 q2)
        clear q1 q2
        go_wp2
        go_roundw
        case rel => exact ⟨i, j - i, rfl, by go_num, HQ⟩
        case measure => simp [intOf]; omega
end Go.Proofs.YtpffldfpabglbaaGreatDoor
end

/- symMergeCmpFunc of ints: one on the left. -/
section
namespace Go.Proofs.YtpffldfpabglbaaGreatDoor
open Go.RowKit
set_option linter.unusedVariables false      -- a contract need not use every name

/-- What a merge leaves. -/
def MPost (w : World) (g cap n : Nat) (c : Int → Int → Int) (P A B Q : List Int) (e : Ending) (w' : World) : Prop := e = .returned (.tuple #[]) ∧ ∃ M, RowN w' g cap n (P ++ M ++ Q) ∧ M.Perm (A ++ B) ∧ Sd c M ∧ Tch (fun k => k = g) w w'
theorem sm_at_row (P A Q : List Int) (a i : Nat) (ha : a = P.length) (h : a ≤ i) (hi : i < a + A.length) : (P ++ A ++ Q).getD i 0 = A.getD (i - a) 0 := by
  subst ha
  obtain ⟨j, rfl⟩ : ∃ j, i = P.length + j := ⟨i - P.length, by omega⟩
  rw [List.append_assoc, sm_at_app_r, sm_at_app_l' _ _ _ (by omega)]
  congr 1
  omega
set_option maxRecDepth 100000 in
set_option maxHeartbeats 4000000 in
theorem symOneG (f : Value) (c : Int → Int → Int) (M : Int → Prop) (o : OrdC c M) (g cap n : Nat) (P B Q : List Int) (x : Int) (w : World) (hn : n ≤ 1000) (h : RowN w g cap n (P ++ x :: B ++ Q)) (mB : ∀ y ∈ B, M y) (mx : M x) (nB : x ∉ B) (sB : Sd c B) (hB : 0 < B.length) (hf : Cmps w f g c M)
    (a m b : Nat) (ha : a = P.length) (hm : m = a + 1) (hb : b = m + B.length) :
    Calls Tryz.prog 259 #[.slice (some ⟨g, 0, none⟩) n cap, .int .i64 a, .int .i64 m, .int .i64 b, f] w (MPost w g cap n c P [x] B Q) := by
  obtain ⟨gf, lb, rfl, eg, hT⟩ := hf
  have hl := h.nlen
  simp at hl
  have H := Lib.hid (And.intro h (And.intro mB (And.intro mx (And.intro nB (And.intro sB hT)))))
  have O := Lib.hid o
  have w1 : IntKind.i64.wrap ((m : Int) - (a : Int)) = 1 := sub_nat m a 1 (by omega) (by omega)
  have HM := Lib.hid (And.intro ha (And.intro hm hb))
  have hbn : b ≤ n := by omega
  have ham : a < m := by omega
  have hmb : m < b := by omega
  clear hT h mB mx nB sB o hl hm ha hb hB
  go_enter Tryz.func259, Tryz.ntmps259
  go_wp2
  go_loopw [10, 11] (fun vi vj wr => ∃ i j : Nat, vi = .int .i64 i ∧ vj = .int .i64 j ∧ m ≤ i ∧ i ≤ j ∧ j ≤ b ∧ Hid ((m < i → c (B.getD (i - m - 1) 0) x < 0) ∧ (j < b → 0 ≤ c (B.getD (j - m) 0) x)) ∧ Nw w wr) (fun vi vj _ => (intOf vj).toNat - (intOf vi).toNat)
  case atStart => exact ⟨m, b, rfl, rfl, Nat.le_refl _, by omega, Nat.le_refl _, Lib.hid ⟨fun q => by omega, fun q => by omega⟩, Nw.refl _⟩
  case round =>
    obtain ⟨i, j, rfl, rfl, hmi, hij, hjb, HB, hN⟩ := hrel
    by_cases hlt : i < j
    · have w2 := sum_nat i j (by omega) (by omega)
      have dlt : decide ((i : Int) < (j : Int)) = true := by rw [decide_eq_true_iff]; omega
      obtain ⟨t, hh⟩ : ∃ t : Nat, ((i : Int) + (j : Int)) / 2 = (t : Int) := ⟨(i + j) / 2, by omega⟩
      have hf1 : i ≤ t := by omega
      have hf2 : t < j := by omega
      have w4 := suc_nat t (t + 1) (by omega) rfl
      go_wp2
      try rw [hh]
      have hi1 : ((t : Nat) : Int) < (n : Int) := by omega
      have hi0 : ((a : Nat) : Int) < (n : Int) := by omega
      have hkn1 : t < n := by omega
      have hkn0 : a < n := by omega
      obtain ⟨y, hy⟩ : ∃ y, B.getD (t - m) 0 = y := ⟨_, rfl⟩
      have hR : RowN wr g cap n (P ++ x :: B ++ Q) := H.out.1.nw hN
      have c1 : wr.cell? ⟨g, t, none⟩ = some (.int .i64 y) := by
        have := hR.cell t (by rw [← hR.nlen]; exact hkn1)
        rwa [sm_at_row P (x :: B) Q a t HM.out.1 (by omega) (by have := HM.out; simp; omega), show t - a = (t - m) + 1 by have := HM.out; omega, List.getD_cons_succ, hy] at this
      have c0 : wr.cell? ⟨g, a, none⟩ = some (.int .i64 x) := by
        have := hR.cell a (by rw [← hR.nlen]; exact hkn0)
        rwa [sm_at_row P (x :: B) Q a a HM.out.1 (Nat.le_refl _) (by simp), Nat.sub_self, List.getD_cons_zero] at this
      have my : M y := by rw [← hy]; exact H.out.2.1 _ (sm_at_mem (by have := HM.out; omega))
      have s1 : ∀ u, Nw wr u → u.cell? ⟨g, t, none⟩ = some (.int .i64 y) := fun u hu => hu.kp c1
      have s0 : ∀ u, Nw wr u → u.cell? ⟨g, a, none⟩ = some (.int .i64 x) := fun u hu => hu.kp c0
      obtain ⟨z, hz⟩ : ∃ z, c y x = z := ⟨_, rfl⟩
      have HC := Lib.hid (fun (w1 : World) (hW : Nw wr w1) => H.out.2.2.2.2.2 y x w1 my H.out.2.2.1 (Tch.nw (hN.trans hW)))
      rw [hz] at HC
      have HZ := Lib.hid (And.intro hy hz)
      have HNn := Lib.hid hN
      have q1 := (Nw.refl wr).drewQ
      obtain ⟨wc, hwc⟩ : ∃ wc, wr.drew = wc := ⟨_, rfl⟩
      clear hR c1 c0 my hy hz hN
      by_cases hz0 : z < 0
      · have dz : decide (z < 0) = true := by simpa using hz0
        clear hz0
        refine region_told [some true, some true, some true, some true, some true, some true, some true, some true, some true, some false, none, some true] (Nw wr) (by kernel_rfl) (by kernel_rfl) (by kernel_rfl) q1 ?_
        rw [hwc] at q1 ⊢
        clear hwc
        repeat (first
          | (refine HW.off ?_)
          | (refine HW.take' ?_; (first | (refine ⟨undef, Or.inr ⟨by rfl, rfl⟩, ?_⟩) | (apply Exists.intro; refine ⟨Or.inl ⟨by rfl, ?_⟩, ?_⟩; (intro x hx; go_simp; first | done | with_reducible rfl))); (try simp only [Act.put, List.setIfInBounds_toArray, List.set_cons_zero, List.set_cons_succ]))
          | (refine HW.go (fun K hK => ?_); go_simp; (first
            | (go_at_fn gf; (with_reducible refine (HC.out _ q1).mono ?_); rintro e wy ⟨rfl, g2⟩; refine hK.out _ _ (q1.trans g2) ?_; intro _; replace q1 := q1.trans g2; clear hK K g2)
            | (refine hK.out _ _ q1 ?_; intro _; clear hK K))))
        refine HW.end_ ?_
        refine NoPanic.normal ?_
        have HQ := Lib.hid q1
        have DZ := Lib.hid dz
        clear s1 s0 q1 dz
        go_wp2
        go_roundw
        case rel =>
          refine ⟨t + 1, j, by go_num, rfl, by omega, by omega, hjb, Lib.hid ⟨fun _ => ?_, HB.out.2⟩, HNn.out.trans HQ.out⟩
          rw [show t + 1 - m - 1 = t - m by omega, HZ.out.1, HZ.out.2]
          exact of_decide_eq_true DZ.out
        case measure => simp [intOf]; omega
      · have dz : decide (z < 0) = false := by simpa using hz0
        clear hz0
        refine region_told [some true, some true, some true, some true, some true, some true, some true, some true, some true, some false, none, some true] (Nw wr) (by kernel_rfl) (by kernel_rfl) (by kernel_rfl) q1 ?_
        rw [hwc] at q1 ⊢
        clear hwc
        repeat (first
          | (refine HW.off ?_)
          | (refine HW.take' ?_; (first | (refine ⟨undef, Or.inr ⟨by rfl, rfl⟩, ?_⟩) | (apply Exists.intro; refine ⟨Or.inl ⟨by rfl, ?_⟩, ?_⟩; (intro x hx; go_simp; first | done | with_reducible rfl))); (try simp only [Act.put, List.setIfInBounds_toArray, List.set_cons_zero, List.set_cons_succ]))
          | (refine HW.go (fun K hK => ?_); go_simp; (first
            | (go_at_fn gf; (with_reducible refine (HC.out _ q1).mono ?_); rintro e wy ⟨rfl, g2⟩; refine hK.out _ _ (q1.trans g2) ?_; intro _; replace q1 := q1.trans g2; clear hK K g2)
            | (refine hK.out _ _ q1 ?_; intro _; clear hK K))))
        refine HW.end_ ?_
        refine NoPanic.normal ?_
        have HQ := Lib.hid q1
        have DZ := Lib.hid dz
        clear s1 s0 q1 dz
        go_wp2
        go_roundw
        case rel =>
          refine ⟨i, t, rfl, by go_num, hmi, hf1, by omega, Lib.hid ⟨HB.out.1, fun _ => ?_⟩, HNn.out.trans HQ.out⟩
          rw [HZ.out.1, HZ.out.2]
          exact Int.not_lt.1 (of_decide_eq_false DZ.out)
        case measure => simp [intOf]; omega
    · obtain rfl : i = j := by omega
      have HNn := Lib.hid hN
      obtain ⟨kk, hkk⟩ : ∃ kk, i = m + kk := ⟨i - m, by omega⟩
      obtain ⟨ii, hii⟩ : ∃ ii, i = ii + 1 := ⟨i - 1, by omega⟩
      have w5 : IntKind.i64.wrap ((i : Int) - 1) = (ii : Int) := one_nat i ii (by omega) hii
      have HK := Lib.hid (And.intro hkk hii)
      have hai : a ≤ ii := by omega
      have hib : ii < b := by omega
      have hmi2 : i ≤ b := by omega
      clear hN hlt hkk hii
      go_wp2
      go_loopw [13] (fun vk wr => ∃ k : Nat, vk = .int .i64 k ∧ a ≤ k ∧ k ≤ ii ∧ Hid (RowN wr g cap n (P ++ (B.take (k - a) ++ x :: B.drop (k - a)) ++ Q) ∧ Tch (fun k => k = g) w wr)) (fun vk _ => ii - (intOf vk).toNat)
      case atStart => exact ⟨a, rfl, Nat.le_refl _, hai, Lib.hid ⟨by rw [Nat.sub_self]; simpa using H.out.1.nw HNn.out, Tch.nw HNn.out⟩⟩
      case round =>
        generalize wr = w7 at *
        obtain ⟨k, rfl, hak, hki, HI⟩ := hrel
        by_cases hlt : k < ii
        · obtain ⟨y, hy⟩ : ∃ y, B.getD (k - a) 0 = y := ⟨_, rfl⟩
          have hkB : k - a < B.length := by have := HM.out; omega
          have eB := sm_part_at B (k - a) hkB
          rw [hy] at eB
          have e1 : P ++ (B.take (k - a) ++ x :: B.drop (k - a)) ++ Q = (P ++ B.take (k - a)) ++ x :: ([] ++ y :: (B.drop (k - a + 1) ++ Q)) := by
            have : B.drop (k - a) = y :: B.drop (k - a + 1) := by
              have hk2 : B[k - a] = y := by rw [← hy]; simp [List.getD, hkB]
              rw [← hk2]; exact (List.getElem_cons_drop hkB).symm
            rw [this]; simp
          have e2 : P ++ (B.take (k + 1 - a) ++ x :: B.drop (k + 1 - a)) ++ Q = (P ++ B.take (k - a)) ++ y :: ([] ++ x :: (B.drop (k - a + 1) ++ Q)) := by
            have : B.take (k - a + 1) = B.take (k - a) ++ [y] := by
              have hk2 : B[k - a] = y := by rw [← hy]; simp [List.getD, hkB]
              rw [← hk2]; exact List.take_succ_eq_append_getElem hkB
            rw [show k + 1 - a = k - a + 1 by omega, this]; simp
          have hR := HI.out.1
          rw [e1] at hR
          have lU : (P ++ B.take (k - a)).length = k := by have := HM.out.1; rw [List.length_append, List.length_take]; omega
          have hS := hR.swap k (k + 1) lU.symm (by rw [lU]; simp)
          rw [← e2] at hS
          have HS := Lib.hid (And.intro hS HI.out.2)
          have c1 := IS.cell hR k (by rw [← hR.nlen]; omega)
          have c2 := IS.cell hR (k + 1) (by rw [← hR.nlen]; omega)
          rw [sm_at_mid _ x _ k lU.symm] at c1
          rw [sm_at_mid2 _ [] _ x y (k + 1) (by rw [lU]; simp)] at c2
          have fz := IS.frozen hR
          have hg := IS.glt hR
          have w6 := suc_nat k (k + 1) (by omega) rfl
          have ne : ¬ k = k + 1 := by omega
          have ne' : ¬ k + 1 = k := by omega
          obtain ⟨k1, hk1⟩ : ∃ k1, k + 1 = k1 := ⟨_, rfl⟩
          rw [hk1] at c2 HS w6 ne ne'
          have b1 : (k : Int) < (n : Int) := by omega
          have b2 : (k1 : Int) < (n : Int) := by omega
          have b1' : k < n := by omega
          have b2' : k1 < n := by omega
          have HK1 := Lib.hid hk1
          have dkl : (k : Int) < (ii : Int) := by omega
          clear eB e1 e2 hR lU hS hy hkB HI hk1
          go_wp2
          go_region
          all_goals
            go_wp2
            go_roundw
            case rel => exact ⟨k + 1, by have := HK1.out; subst this; go_num, by omega, by omega, Lib.hid ⟨by have := HS.out.1; rw [HK1.out]; rw [← HK1.out] at this ⊢; exact RowN.drew this, HS.out.2.trans (sm_two_tch _ _ _ _ _ _)⟩⟩
            case measure => have h1 := HK1.out; simp [intOf]; omega
        · obtain rfl : k = ii := by omega
          have ek : k - a = kk := by have := HM.out; have := HK.out; omega
          have hE : MPost w g cap n c P [x] B Q (.returned (.tuple #[])) w7 := by
            obtain ⟨k1, k2⟩ := HK.out
            obtain ⟨m1, m2, m3⟩ := HM.out
            have hr := HI.out
            rw [ek] at hr
            refine ⟨rfl, _, hr.1, (sm_ins_perm' B x kk).trans (by simp), ?_, hr.2⟩
            refine sm_ins_sd O.out H.out.2.1 H.out.2.2.1 H.out.2.2.2.2.1 kk (by omega) (fun q => ?_) (fun q => ?_)
            · have := HB.out.1 (by omega)
              rwa [show i - m - 1 = kk - 1 by omega] at this
            · have h1 := HB.out.2 (by omega)
              rw [show i - m = kk by omega] at h1
              exact (O.out.tot x (B.getD kk 0) H.out.2.2.1 (H.out.2.1 _ (sm_at_mem q)) (fun e => H.out.2.2.2.1 (e ▸ sm_at_mem q))).resolve_right (Int.not_lt.2 h1)
          have HE := Lib.hid hE
          clear hE HI
          go_wp2
          exact bodyPost_end (results_none rfl _ _ _) rfl HE.out
end Go.Proofs.YtpffldfpabglbaaGreatDoor
end

/- symMergeCmpFunc of ints: one on the right. -/
section
namespace Go.Proofs.YtpffldfpabglbaaGreatDoor
open Go.RowKit
set_option linter.unusedVariables false      -- a contract need not use every name

theorem RowN.swapB {w : World} {g cap n : Nat} {U Z : List Int} {x y : Int} (h : RowN w g cap n (U ++ y :: (x :: Z))) (p q : Nat) (hp : p = U.length) (hq : q = U.length + 1) :
    RowN ((w.setCell ⟨g, q, none⟩ (.int .i64 y)).setCell ⟨g, p, none⟩ (.int .i64 x)) g cap n (U ++ x :: (y :: Z)) := by
  have := IS.set (IS.set h q y) p x
  rw [List.set_comm _ _ (by omega)] at this
  have e := sm_sw_mid U [] Z y x p q hp (by simpa using hq)
  simp only [List.nil_append] at e
  rwa [e] at this
set_option maxRecDepth 100000 in
set_option maxHeartbeats 4000000 in
theorem symLastG (f : Value) (c : Int → Int → Int) (M : Int → Prop) (o : OrdC c M) (g cap n : Nat) (P A Q : List Int) (x : Int) (w : World) (hn : n ≤ 1000) (h : RowN w g cap n (P ++ A ++ x :: Q)) (mA : ∀ y ∈ A, M y) (mx : M x) (nA : x ∉ A) (sA : Sd c A) (hA : 1 < A.length) (hf : Cmps w f g c M)
    (a m b : Nat) (ha : a = P.length) (hm : m = a + A.length) (hb : b = m + 1) :
    Calls Tryz.prog 259 #[.slice (some ⟨g, 0, none⟩) n cap, .int .i64 a, .int .i64 m, .int .i64 b, f] w (MPost w g cap n c P A [x] Q) := by
  obtain ⟨gf, lb, rfl, eg, hT⟩ := hf
  have hl := h.nlen
  simp at hl
  have H := Lib.hid (And.intro h (And.intro mA (And.intro mx (And.intro nA (And.intro sA hT)))))
  have O := Lib.hid o
  obtain ⟨dd, hdd⟩ : ∃ x : Nat, m = a + x := ⟨m - a, by omega⟩
  have w1 : IntKind.i64.wrap ((m : Int) - (a : Int)) = dd := sub_nat m a dd (by omega) hdd
  have d1 : ((dd : Int) == 1) = false := by rw [beq_eq_false_iff_ne]; omega
  have d1' : ¬ dd = 1 := by omega
  have w3 : IntKind.i64.wrap ((b : Int) - (m : Int)) = 1 := sub_nat b m 1 (by omega) (by omega)
  have HM := Lib.hid (And.intro ha (And.intro hm hb))
  have hbn : b ≤ n := by omega
  have ham : a < m := by omega
  have hmb : m < b := by omega
  clear hT h mA mx nA sA o hl hm ha hb hA hdd
  go_enter Tryz.func259, Tryz.ntmps259
  go_wp2
  go_loopw [14, 15] (fun vi vj wr => ∃ i j : Nat, vi = .int .i64 i ∧ vj = .int .i64 j ∧ a ≤ i ∧ i ≤ j ∧ j ≤ m ∧ Hid ((a < i → 0 ≤ c x (A.getD (i - a - 1) 0)) ∧ (j < m → c x (A.getD (j - a) 0) < 0)) ∧ Nw w wr) (fun vi vj _ => (intOf vj).toNat - (intOf vi).toNat)
  case atStart => exact ⟨a, m, rfl, rfl, Nat.le_refl _, by omega, Nat.le_refl _, Lib.hid ⟨fun q => by omega, fun q => by omega⟩, Nw.refl _⟩
  case round =>
    obtain ⟨i, j, rfl, rfl, hmi, hij, hjb, HB, hN⟩ := hrel
    by_cases hlt : i < j
    · have w2 := sum_nat i j (by omega) (by omega)
      have dlt : decide ((i : Int) < (j : Int)) = true := by rw [decide_eq_true_iff]; omega
      obtain ⟨t, hh⟩ : ∃ t : Nat, ((i : Int) + (j : Int)) / 2 = (t : Int) := ⟨(i + j) / 2, by omega⟩
      have hf1 : i ≤ t := by omega
      have hf2 : t < j := by omega
      have w4 := suc_nat t (t + 1) (by omega) rfl
      go_wp2
      try rw [hh]
      have hi1 : ((m : Nat) : Int) < (n : Int) := by omega
      have hi0 : ((t : Nat) : Int) < (n : Int) := by omega
      have hkn1 : m < n := by omega
      have hkn0 : t < n := by omega
      obtain ⟨y, hy⟩ : ∃ y, A.getD (t - a) 0 = y := ⟨_, rfl⟩
      have hR : RowN wr g cap n (P ++ A ++ x :: Q) := H.out.1.nw hN
      have c0 : wr.cell? ⟨g, t, none⟩ = some (.int .i64 y) := by
        have := hR.cell t (by rw [← hR.nlen]; exact hkn0)
        rwa [sm_at_row P A (x :: Q) a t HM.out.1 (by omega) (by have := HM.out; omega), hy] at this
      have c1 : wr.cell? ⟨g, m, none⟩ = some (.int .i64 x) := by
        have := hR.cell m (by rw [← hR.nlen]; exact hkn1)
        rwa [sm_at_mid (P ++ A) x Q m (by have := HM.out; rw [List.length_append]; omega)] at this
      have my : M y := by rw [← hy]; exact H.out.2.1 _ (sm_at_mem (by have := HM.out; omega))
      have s1 : ∀ u, Nw wr u → u.cell? ⟨g, m, none⟩ = some (.int .i64 x) := fun u hu => hu.kp c1
      have s0 : ∀ u, Nw wr u → u.cell? ⟨g, t, none⟩ = some (.int .i64 y) := fun u hu => hu.kp c0
      obtain ⟨z, hz⟩ : ∃ z, c x y = z := ⟨_, rfl⟩
      have HC := Lib.hid (fun (w1 : World) (hW : Nw wr w1) => H.out.2.2.2.2.2 x y w1 H.out.2.2.1 my (Tch.nw (hN.trans hW)))
      rw [hz] at HC
      have HZ := Lib.hid (And.intro hy hz)
      have HNn := Lib.hid hN
      have q1 := (Nw.refl wr).drewQ
      obtain ⟨wc, hwc⟩ : ∃ wc, wr.drew = wc := ⟨_, rfl⟩
      clear hR c1 c0 my hy hz hN
      by_cases hz0 : z < 0
      · have dz : decide (z < 0) = true := by simpa using hz0
        clear hz0
        refine region_told [some true, some true, some true, some true, some true, some true, some true, some true, some true, some false, none, some true, some true] (Nw wr) (by kernel_rfl) (by kernel_rfl) (by kernel_rfl) q1 ?_
        rw [hwc] at q1 ⊢
        clear hwc
        repeat (first
          | (refine HW.off ?_)
          | (refine HW.take' ?_; (first | (refine ⟨undef, Or.inr ⟨by rfl, rfl⟩, ?_⟩) | (apply Exists.intro; refine ⟨Or.inl ⟨by rfl, ?_⟩, ?_⟩; (intro x hx; go_simp; first | done | with_reducible rfl))); (try simp only [Act.put, List.setIfInBounds_toArray, List.set_cons_zero, List.set_cons_succ]))
          | (refine HW.go (fun K hK => ?_); go_simp; (first
            | (go_at_fn gf; (with_reducible refine (HC.out _ q1).mono ?_); rintro e wy ⟨rfl, g2⟩; refine hK.out _ _ (q1.trans g2) ?_; intro _; replace q1 := q1.trans g2; clear hK K g2)
            | (refine hK.out _ _ q1 ?_; intro _; clear hK K))))
        refine HW.end_ ?_
        refine NoPanic.normal ?_
        have HQ := Lib.hid q1
        have DZ := Lib.hid dz
        clear s1 s0 q1 dz
        go_wp2
        go_roundw
        case rel =>
          refine ⟨i, t, rfl, by go_num, hmi, hf1, by omega, Lib.hid ⟨HB.out.1, fun _ => ?_⟩, HNn.out.trans HQ.out⟩
          rw [HZ.out.1, HZ.out.2]
          exact of_decide_eq_true DZ.out
        case measure => simp [intOf]; omega
      · have dz : decide (z < 0) = false := by simpa using hz0
        clear hz0
        refine region_told [some true, some true, some true, some true, some true, some true, some true, some true, some true, some false, none, some true, some true] (Nw wr) (by kernel_rfl) (by kernel_rfl) (by kernel_rfl) q1 ?_
        rw [hwc] at q1 ⊢
        clear hwc
        repeat (first
          | (refine HW.off ?_)
          | (refine HW.take' ?_; (first | (refine ⟨undef, Or.inr ⟨by rfl, rfl⟩, ?_⟩) | (apply Exists.intro; refine ⟨Or.inl ⟨by rfl, ?_⟩, ?_⟩; (intro x hx; go_simp; first | done | with_reducible rfl))); (try simp only [Act.put, List.setIfInBounds_toArray, List.set_cons_zero, List.set_cons_succ]))
          | (refine HW.go (fun K hK => ?_); go_simp; (first
            | (go_at_fn gf; (with_reducible refine (HC.out _ q1).mono ?_); rintro e wy ⟨rfl, g2⟩; refine hK.out _ _ (q1.trans g2) ?_; intro _; replace q1 := q1.trans g2; clear hK K g2)
            | (refine hK.out _ _ q1 ?_; intro _; clear hK K))))
        refine HW.end_ ?_
        refine NoPanic.normal ?_
        have HQ := Lib.hid q1
        have DZ := Lib.hid dz
        clear s1 s0 q1 dz
        go_wp2
        go_roundw
        case rel =>
          refine ⟨t + 1, j, by go_num, rfl, by omega, by omega, hjb, Lib.hid ⟨fun _ => ?_, HB.out.2⟩, HNn.out.trans HQ.out⟩
          rw [show t + 1 - a - 1 = t - a by omega, HZ.out.1, HZ.out.2]
          exact Int.not_lt.1 (of_decide_eq_false DZ.out)
        case measure => simp [intOf]; omega
    · obtain rfl : i = j := by omega
      have HNn := Lib.hid hN
      obtain ⟨kk, hkk⟩ : ∃ kk, i = a + kk := ⟨i - a, by omega⟩
      have HK := Lib.hid hkk
      clear hN hlt hkk
      go_wp2
      go_loopw [17] (fun vk wr => ∃ k : Nat, vk = .int .i64 k ∧ i ≤ k ∧ k ≤ m ∧ Hid (RowN wr g cap n (P ++ (A.take (k - a) ++ x :: A.drop (k - a)) ++ Q) ∧ Tch (fun k => k = g) w wr)) (fun vk _ => (intOf vk).toNat)
      case atStart => exact ⟨m, rfl, by omega, Nat.le_refl _, Lib.hid ⟨by
        have e : m - a = A.length := by have := HM.out; omega
        rw [e, List.take_length, List.drop_length]
        simpa using H.out.1.nw HNn.out, Tch.nw HNn.out⟩⟩
      case round =>
        generalize wr = w7 at *
        obtain ⟨k, rfl, hik, hkm, HI⟩ := hrel
        by_cases hlt : i < k
        · obtain ⟨k0, hk0⟩ : ∃ k0, k = k0 + 1 := ⟨k - 1, by omega⟩
          obtain ⟨y, hy⟩ : ∃ y, A.getD (k0 - a) 0 = y := ⟨_, rfl⟩
          have hkA : k0 - a < A.length := by have := HM.out; omega
          have hk2 : A[k0 - a] = y := by rw [← hy]; simp [List.getD, hkA]
          have e0 : k - a = k0 - a + 1 := by omega
          have e1 : P ++ (A.take (k - a) ++ x :: A.drop (k - a)) ++ Q = (P ++ A.take (k0 - a)) ++ y :: (x :: (A.drop (k - a) ++ Q)) := by
            have : A.take (k0 - a + 1) = A.take (k0 - a) ++ [y] := by rw [← hk2]; exact List.take_succ_eq_append_getElem hkA
            rw [e0, this]; simp
          have e2 : P ++ (A.take (k0 - a) ++ x :: A.drop (k0 - a)) ++ Q = (P ++ A.take (k0 - a)) ++ x :: (y :: (A.drop (k - a) ++ Q)) := by
            have : A.drop (k0 - a) = y :: A.drop (k0 - a + 1) := by rw [← hk2]; exact (List.getElem_cons_drop hkA).symm
            rw [this, e0]; simp
          have hR := HI.out.1
          rw [e1] at hR
          have lU : (P ++ A.take (k0 - a)).length = k0 := by have := HM.out.1; rw [List.length_append, List.length_take]; omega
          have hS := hR.swapB k0 k lU.symm (by rw [lU]; exact hk0)
          rw [← e2] at hS
          have HS := Lib.hid (And.intro hS HI.out.2)
          have c1 := IS.cell hR k0 (by rw [← hR.nlen]; omega)
          have c2 := IS.cell hR k (by rw [← hR.nlen]; omega)
          rw [sm_at_mid _ y _ k0 lU.symm] at c1
          have c3 := sm_at_mid2 (P ++ A.take (k0 - a)) [] (A.drop (k - a) ++ Q) y x k (by rw [lU]; simpa using hk0)
          simp only [List.nil_append] at c3
          rw [c3] at c2
          have fz := IS.frozen hR
          have hg := IS.glt hR
          have w6 : IntKind.i64.wrap ((k : Int) - 1) = (k0 : Int) := one_nat k k0 (by omega) hk0
          have ne : ¬ k = k0 := by omega
          have ne' : ¬ k0 = k := by omega
          have b1 : (k : Int) < (n : Int) := by omega
          have b2 : (k0 : Int) < (n : Int) := by omega
          have b1' : k < n := by omega
          have b2' : k0 < n := by omega
          have dkl : (i : Int) < (k : Int) := by omega
          have hk0i : i ≤ k0 := by omega
          have hk0k : k0 < k := by omega
          clear e0 e1 e2 hR lU hS hy hkA HI c3 hk2 hk0
          go_wp2
          go_region
          all_goals
            go_wp2
            go_roundw
            case rel => exact ⟨k0, by go_num, hk0i, by omega, Lib.hid ⟨RowN.drew HS.out.1, HS.out.2.trans (sm_two_tch _ _ _ _ _ _)⟩⟩
            case measure => simp [intOf]; omega
        · obtain rfl : k = i := by omega
          have ek : k - a = kk := by have := HM.out; have := HK.out; omega
          have hE : MPost w g cap n c P A [x] Q (.returned (.tuple #[])) w7 := by
            have k1 := HK.out
            obtain ⟨m1, m2, m3⟩ := HM.out
            have hr := HI.out
            rw [ek] at hr
            refine ⟨rfl, _, hr.1, (sm_ins_perm' A x kk).trans (List.perm_append_comm (l₁ := [x]) (l₂ := A)), ?_, hr.2⟩
            refine sm_ins_sd O.out H.out.2.1 H.out.2.2.1 H.out.2.2.2.2.1 kk (by omega) (fun q => ?_) (fun q => ?_)
            · have h1 := HB.out.1 (by omega)
              rw [show k - a - 1 = kk - 1 by omega] at h1
              exact (O.out.tot (A.getD (kk - 1) 0) x (H.out.2.1 _ (sm_at_mem (by omega))) H.out.2.2.1 (fun e => H.out.2.2.2.1 (e ▸ sm_at_mem (by omega)))).resolve_right (Int.not_lt.2 h1)
            · have := HB.out.2 (by omega)
              rwa [show k - a = kk by omega] at this
          have HE := Lib.hid hE
          clear hE HI
          go_wp2
          exact bodyPost_end (results_none rfl _ _ _) rfl HE.out
end Go.Proofs.YtpffldfpabglbaaGreatDoor
end
