
/- Park, Unpark, Parked, Token, Drop, Waiting, New. -/
import Derived.Test.YtbgpnjoghfjodaaPkA
namespace Go.Proofs.Ytbgpnjoghfjodaa
open Go.RowKit


theorem is1_at {p : Nat} {ss : List Int} {w : World} (h : Pk w p ss) (t : Int) : Calls Try.prog 29 #[.pointer (some ⟨p, 0, none⟩), .int .i64 t, .int .u16 1] w fun e w' => e = .returned (.bool (isB ss t 1)) ∧ Nw w w' := is_at h t 1 (.inl rfl)
theorem take1_at {p : Nat} {ss : List Int} {w : World} (h : Pk w p ss) (t : Int) : Calls Try.prog 30 #[.pointer (some ⟨p, 0, none⟩), .int .i64 t, .int .u16 1] w fun e w' => e = .returned (.bool (isB ss t 1)) ∧ PkTo w p (takeS ss t 1) w' := take_at h t 1 (.inl rfl)
theorem of1 (i : Nat) (hi : i < 8) (w : World) : Calls Try.prog 31 #[.int .u16 1, .int .i64 i] w fun e w' => e = .returned (.int .u16 (bit 1 i)) ∧ w' = w := of_any 1 i (.inl rfl) hi w
theorem is2_at {p : Nat} {ss : List Int} {w : World} (h : Pk w p ss) (t : Int) : Calls Try.prog 29 #[.pointer (some ⟨p, 0, none⟩), .int .i64 t, .int .u16 2] w fun e w' => e = .returned (.bool (isB ss t 2)) ∧ Nw w w' := is_at h t 2 (.inr rfl)
theorem take2_at {p : Nat} {ss : List Int} {w : World} (h : Pk w p ss) (t : Int) : Calls Try.prog 30 #[.pointer (some ⟨p, 0, none⟩), .int .i64 t, .int .u16 2] w fun e w' => e = .returned (.bool (isB ss t 2)) ∧ PkTo w p (takeS ss t 2) w' := take_at h t 2 (.inr rfl)
theorem of2 (i : Nat) (hi : i < 8) (w : World) : Calls Try.prog 31 #[.int .u16 2, .int .i64 i] w fun e w' => e = .returned (.int .u16 (bit 2 i)) ∧ w' = w := of_any 2 i (.inr rfl) hi w

/-! ### Park -/
theorem park_nil (t : Int) (w : World) : Calls Try.prog 10 #[.pointer none, .int .i64 t] w fun e w' => e = .returned (.tuple #[.bool false, .int .i64 1]) ∧ w = w' := by
  go_enter Try.func10, Try.ntmps10
  go_wp2_with (go_at_call 28; refine (check_nil _ _).mono ?_; rintro e w' ⟨rfl, rfl⟩)
  exact bodyPost_ret (v := .tuple #[.bool false, .int .i64 1]) (by simp [results, Try.results10, go_sem]) rfl ⟨rfl, rfl⟩
theorem PkTo.then {w w1 w2 : World} {p : Nat} {ss ss' : List Int} (h : PkTo w p ss w1) (k : PkTo w1.drew p ss' w2) : PkTo w p ss' w2 := ⟨k.1, (h.2.trans (Tch.nw ((Nw.refl w1).drewN 1))).trans k.2⟩
theorem park_at {p : Nat} {ss : List Int} {w : World} (h : Pk w p ss) (t : Int) : Calls Try.prog 10 #[.pointer (some ⟨p, 0, none⟩), .int .i64 t] w fun e w' => e = .returned (.tuple #[.bool (parkR ss t).1, .int .i64 (parkR ss t).2]) ∧ PkTo w p (parkS ss t) w' := by
  have HC := Lib.hid (check_at h t)
  by_cases q : Okt ss t
  · rw [if_pos q] at HC
    obtain ⟨i, rfl, hi⟩ := q.n
    have hi8 : i < 8 := by have := h.vl.l1; omega
    have H := Lib.hid h
    have HI := Lib.hid (is1_at h i)
    by_cases k1 : st ss i = 1
    · rw [(park_twice q k1).1, (park_twice q k1).2]
      rw [is_yes q k1] at HI
      clear h q k1
      go_enter Try.func10, Try.ntmps10
      go_wp2_with fail
      refine HC.out.mono ?_
      rintro e w0 ⟨rfl, rfl⟩
      go_wp2_with fail
      refine HI.out.mono ?_
      rintro e w1 ⟨rfl, g1⟩
      go_wp2
      exact bodyPost_ret (v := .tuple #[.bool false, .int .i64 4]) (by simp [results, Try.results10, go_sem]) rfl ⟨rfl, PkTo.nw g1 (H.out.nw g1).keep⟩
    · rw [is_no k1] at HI
      have HT := Lib.hid (fun w1 (g : Nw w w1) => take2_at (h.nw g) i)
      by_cases k2 : st ss i = 2
      · rw [(park_tok q k2).1, (park_tok q k2).2]
        rw [is_yes q k2, take_yes q k2] at HT
        clear h q k1 k2
        go_enter Try.func10, Try.ntmps10
        go_wp2_with fail
        refine HC.out.mono ?_
        rintro e w0 ⟨rfl, rfl⟩
        go_wp2_with fail
        refine HI.out.mono ?_
        rintro e w1 ⟨rfl, g1⟩
        have HT1 := Lib.hid (HT.out w1 g1)
        go_wp2_with fail
        refine HT1.out.mono ?_
        rintro e w2 ⟨rfl, g2⟩
        go_wp2
        exact bodyPost_ret (v := .tuple #[.bool true, .int .i64 0]) (by simp [results, Try.results10, go_sem]) rfl ⟨rfl, PkTo.nw g1 g2⟩
      · have k0 : st ss i = 0 := by have := h.vl.bd i hi; omega
        rw [(park_run q k0).1, (park_run q k0).2]
        rw [is_no k2, take_no (is_no k2)] at HT
        have HB := Lib.hid (fun B (hB : Bits B ss) => And.intro (hB.put (s := 1) (.inl rfl) hi hi8 (.inl k0)) (u16_or_nat B (bit 1 i) hB.lt (bit_lt 1 i (.inl rfl) hi8)))
        have HV := Lib.hid (h.vl.set (x := 1) hi (by omega) (by omega))
        have HO := Lib.hid (of1 i hi8)
        clear h q k1 k2 k0 hi hi8
        generalize bit 1 i = M at *
        go_enter Try.func10, Try.ntmps10
        go_wp2_with fail
        refine HC.out.mono ?_
        rintro e w0 ⟨rfl, rfl⟩
        go_wp2_with fail
        refine HI.out.mono ?_
        rintro e wa ⟨rfl, ga⟩
        have HT1 := Lib.hid (HT.out wa ga)
        go_wp2_with fail
        refine HT1.out.mono ?_
        rintro e w1 ⟨rfl, gt⟩
        have H1 := Lib.hid (PkTo.nw ga gt)
        clear HT HT1 HI HC
        skip
        obtain ⟨B, hB, hc⟩ := H1.out.1.sts
        have hf := H1.out.1.fz
        have hl := H1.out.1.lt
        obtain ⟨hB2, ha⟩ := HB.out B hB
        have HP := Lib.hid (H1.out.then ((H1.out.1.nw ((Nw.refl w1).drewN 1)).put _ hB2 HV.out (by simp)))
        change Hid (PkTo w p (ss.set i 1) (w1.drew.setCell _ _)) at HP
        have k0 := HO.out w1.drew
        clear HB hB hB2 H HO
        go_wp2
        refine wp_region_still_tail 9 (by kernel_rfl) (by kernel_rfl) ?_
        simp only [List.take_succ_cons, List.take_zero, List.drop_succ_cons, List.drop_zero]
        iterate 5 still_step
        still_call k0
        repeat still_step
        try refine wpStill_nil ?_
        change wpList _ _ _ _ _ w1.drew
        clear k0
        go_wp2
        exact bodyPost_ret (v := .tuple #[.bool false, .int .i64 0]) (by simp [results, Try.results10, go_sem]) rfl ⟨rfl, HP.out⟩
  · rw [if_neg q] at HC
    rw [(park_bad q).1, (park_bad q).2]
    have H := Lib.hid h
    clear h q
    go_enter Try.func10, Try.ntmps10
    go_wp2_with fail
    refine HC.out.mono ?_
    rintro e w0 ⟨rfl, rfl⟩
    go_wp2
    exact bodyPost_ret (v := .tuple #[.bool false, .int .i64 2]) (by simp [results, Try.results10, go_sem]) rfl ⟨rfl, H.out.keep⟩

/-! ### Unpark -/
theorem unpark_nil (t : Int) (w : World) : Calls Try.prog 11 #[.pointer none, .int .i64 t] w fun e w' => e = .returned (.tuple #[.bool false, .int .i64 1]) ∧ w = w' := by
  go_enter Try.func11, Try.ntmps11
  go_wp2_with (go_at_call 28; refine (check_nil _ _).mono ?_; rintro e w' ⟨rfl, rfl⟩)
  exact bodyPost_ret (v := .tuple #[.bool false, .int .i64 1]) (by simp [results, Try.results11, go_sem]) rfl ⟨rfl, rfl⟩
theorem unpark_at {p : Nat} {ss : List Int} {w : World} (h : Pk w p ss) (t : Int) : Calls Try.prog 11 #[.pointer (some ⟨p, 0, none⟩), .int .i64 t] w fun e w' => e = .returned (.tuple #[.bool (unpR ss t).1, .int .i64 (unpR ss t).2]) ∧ PkTo w p (unpS ss t) w' := by
  have HC := Lib.hid (check_at h t)
  by_cases q : Okt ss t
  · rw [if_pos q] at HC
    obtain ⟨i, rfl, hi⟩ := q.n
    have hi8 : i < 8 := by have := h.vl.l1; omega
    have H := Lib.hid h
    have HT := Lib.hid (take1_at h i)
    by_cases k1 : st ss i = 1
    · rw [(unp_yes q k1).1, (unp_yes q k1).2]
      rw [is_yes q k1, take_yes q k1] at HT
      clear h q k1
      go_enter Try.func11, Try.ntmps11
      go_wp2_with fail
      refine HC.out.mono ?_
      rintro e w0 ⟨rfl, rfl⟩
      go_wp2_with fail
      refine HT.out.mono ?_
      rintro e w2 ⟨rfl, g2⟩
      go_wp2
      exact bodyPost_ret (v := .tuple #[.bool true, .int .i64 0]) (by simp [results, Try.results11, go_sem]) rfl ⟨rfl, g2⟩
    · rw [(unp_no q k1).1, (unp_no q k1).2]
      rw [is_no k1, take_no (is_no k1)] at HT
      have k0 : st ss i = 0 ∨ st ss i = 2 := by have := h.vl.bd i hi; omega
      have HB := Lib.hid (fun B (hB : Bits B ss) => And.intro (hB.put (s := 2) (.inr rfl) hi hi8 k0) (u16_or_nat B (bit 2 i) hB.lt (bit_lt 2 i (.inr rfl) hi8)))
      have HV := Lib.hid (h.vl.set (x := 2) hi (by omega) (by omega))
      have HO := Lib.hid (of2 i hi8)
      clear h q k1 k0 hi hi8
      generalize bit 2 i = M at *
      go_enter Try.func11, Try.ntmps11
      go_wp2_with fail
      refine HC.out.mono ?_
      rintro e w0 ⟨rfl, rfl⟩
      go_wp2_with fail
      refine HT.out.mono ?_
      rintro e w1 ⟨rfl, gt⟩
      have H1 := Lib.hid gt
      clear HT HC gt
      skip
      obtain ⟨B, hB, hc⟩ := H1.out.1.sts
      have hf := H1.out.1.fz
      have hl := H1.out.1.lt
      obtain ⟨hB2, ha⟩ := HB.out B hB
      have HP := Lib.hid (H1.out.then ((H1.out.1.nw ((Nw.refl w1).drewN 1)).put _ hB2 HV.out (by simp)))
      change Hid (PkTo w p (ss.set i 2) (w1.drew.setCell _ _)) at HP
      have k0 := HO.out w1.drew
      clear HB hB hB2 H HO
      go_wp2
      refine wp_region_still_tail 9 (by kernel_rfl) (by kernel_rfl) ?_
      simp only [List.take_succ_cons, List.take_zero, List.drop_succ_cons, List.drop_zero]
      iterate 5 still_step
      still_call k0
      repeat still_step
      try refine wpStill_nil ?_
      change wpList _ _ _ _ _ w1.drew
      clear k0
      go_wp2
      exact bodyPost_ret (v := .tuple #[.bool false, .int .i64 0]) (by simp [results, Try.results11, go_sem]) rfl ⟨rfl, HP.out⟩
  · rw [if_neg q] at HC
    rw [(unp_bad q).1, (unp_bad q).2]
    have H := Lib.hid h
    clear h q
    go_enter Try.func11, Try.ntmps11
    go_wp2_with fail
    refine HC.out.mono ?_
    rintro e w0 ⟨rfl, rfl⟩
    go_wp2
    exact bodyPost_ret (v := .tuple #[.bool false, .int .i64 2]) (by simp [results, Try.results11, go_sem]) rfl ⟨rfl, H.out.keep⟩

/-! ### Parked, Token, Drop -/
theorem parked_nil (t : Int) (w : World) : Calls Try.prog 14 #[.pointer none, .int .i64 t] w fun e w' => e = .returned (.bool false) ∧ Nw w w' := by
  go_enter Try.func14, Try.ntmps14
  go_wp2_with (go_at_call 29; refine (is_nil _ _ _).mono ?_; rintro e w' ⟨rfl, g⟩)
  go_ret
  exact ⟨rfl, g⟩
theorem parked_at {p : Nat} {ss : List Int} {w : World} (h : Pk w p ss) (t : Int) : Calls Try.prog 14 #[.pointer (some ⟨p, 0, none⟩), .int .i64 t] w fun e w' => e = .returned (.bool (isB ss t 1)) ∧ Nw w w' := by
  have HI := Lib.hid (is1_at h t)
  clear h
  generalize isB ss t 1 = b at *
  go_enter Try.func14, Try.ntmps14
  go_wp2_with (go_at_call 29; refine HI.out.mono ?_; rintro e w' ⟨rfl, g⟩)
  go_ret
  exact ⟨rfl, g⟩
theorem token_nil (t : Int) (w : World) : Calls Try.prog 12 #[.pointer none, .int .i64 t] w fun e w' => e = .returned (.bool false) ∧ Nw w w' := by
  go_enter Try.func12, Try.ntmps12
  go_wp2_with (go_at_call 29; refine (is_nil _ _ _).mono ?_; rintro e w' ⟨rfl, g⟩)
  go_ret
  exact ⟨rfl, g⟩
theorem token_at {p : Nat} {ss : List Int} {w : World} (h : Pk w p ss) (t : Int) : Calls Try.prog 12 #[.pointer (some ⟨p, 0, none⟩), .int .i64 t] w fun e w' => e = .returned (.bool (isB ss t 2)) ∧ Nw w w' := by
  have HI := Lib.hid (is2_at h t)
  clear h
  generalize isB ss t 2 = b at *
  go_enter Try.func12, Try.ntmps12
  go_wp2_with (go_at_call 29; refine HI.out.mono ?_; rintro e w' ⟨rfl, g⟩)
  go_ret
  exact ⟨rfl, g⟩
theorem drop_nil (t : Int) (w : World) : Calls Try.prog 13 #[.pointer none, .int .i64 t] w fun e w' => e = .returned (.bool false) ∧ Nw w w' := by
  go_enter Try.func13, Try.ntmps13
  go_wp2_with (go_at_call 30; refine (take_nil _ _ _).mono ?_; rintro e w' ⟨rfl, g⟩)
  go_ret
  exact ⟨rfl, g⟩
theorem drop_at {p : Nat} {ss : List Int} {w : World} (h : Pk w p ss) (t : Int) : Calls Try.prog 13 #[.pointer (some ⟨p, 0, none⟩), .int .i64 t] w fun e w' => e = .returned (.bool (isB ss t 2)) ∧ PkTo w p (takeS ss t 2) w' := by
  have HI := Lib.hid (take2_at h t)
  clear h
  generalize isB ss t 2 = b at *
  go_enter Try.func13, Try.ntmps13
  go_wp2_with (go_at_call 30; refine HI.out.mono ?_; rintro e w' ⟨rfl, g⟩)
  go_ret
  exact ⟨rfl, g⟩

/-! ### Waiting -/
theorem wpList_append_run {P : Program} {w : World} {ops : Array Oper} {rest : List Oper} {o : Oper} {a : Act} {Q : Exit → Act → World → Prop}
    (hgd : Region.wanted o (yielded ops a.tmps) = true) (s x : Operand) (t : TypeId) (hop : o.op = Op.call { callee := Callee.builtin Builtin.append, args := #[s, x], argTypes := #[t, t] })
    (v u v' : Value) (w' : World) (hs : a.eval s = v) (hx : a.eval x = u) (hr : (Builtin.append_ #[t, t] o.type #[v, u]).run P w = .ok v' w') (h : wpList P ops Q rest (a.put o.dst v') w') : wpList P ops Q (o :: rest) a w := by
  refine wpList_step fun _ hK => ?_
  rw [if_pos hgd]
  unfold Oper.wp execOp
  simp only [hop, resolve, invoke, builtin, Sem.run_bind, Sem.run_pure, Result.andThen_ok, List.map_toArray, List.map_cons, List.map_nil, hs, hx, hr]
  exact hK _ _ h
theorem waiting_nil (w : World) : Calls Try.prog 16 #[.pointer none] w fun e w' => e = .returned (.slice none 0 0) ∧ w = w' := by
  go_enter Try.func16, Try.ntmps16
  go_wp2_with (go_at_call 17; refine (len_nil _).mono ?_; rintro e w' ⟨rfl, rfl⟩)
  refine wp_loop_rounds 1 ?_
  repeat (rw [rounds_succ]; go_wp2)
  go_ret
  exact ⟨rfl, rfl⟩
/-- A call that returns a new list of numbers, or nil. -/
def NewIS (w : World) (zs : List Int) (e : Ending) (w' : World) : Prop := ∃ v, e = .returned v ∧ IS w' v zs ∧ (∀ k, v.ownBlock = some k → w.heap.size ≤ k) ∧ Nw w w'
theorem waiting_at {p : Nat} {ss : List Int} {w : World} (h : Pk w p ss) : Calls Try.prog 16 #[.pointer (some ⟨p, 0, none⟩)] w (NewIS w (waitL ss)) := by
  have HL := Lib.hid (len_at h)
  have HH := Lib.hid (fun w' (k : Nw w w') (i : Nat) => is1_at (h.nw k) i)
  have hl := h.vl.l1
  have HI := Lib.hid (fun (k : Nat) (hk : k < ss.length) => (show isB ss k 1 = waitB ss k by
    unfold isB waitB
    simp only [Int.toNat_natCast]
    exact decide_eq_decide.2 ⟨fun e => e.2, fun e => ⟨okt_nat hk, e⟩⟩))
  have HT := Lib.hid (waitT_succ ss)
  have HE := Lib.hid (waitT_len ss)
  have HZ := Lib.hid (show waitT ss 0 = [] from rfl)
  unfold NewIS waitL
  clear h
  generalize ss.length = N at *
  generalize waitT ss = T at *
  go_enter Try.func16, Try.ntmps16
  go_wp2_with (go_at_call 17; refine HL.out.mono ?_; rintro e w' ⟨rfl, rfl⟩)
  go_loopw [3, 7] (fun v i wr => ∃ k : Nat, k ≤ N ∧ i = .int .i64 k ∧ Hid (IS wr v (T k)) ∧ (∀ k, v.ownBlock = some k → w.heap.size ≤ k) ∧ Nw w wr) (fun _ i _ => N - (intOf i).toNat)
  case atStart => exact ⟨0, Nat.zero_le _, rfl, Lib.hid (by rw [HZ.out]; exact IS.nil _), fun k e => by simp [Value.ownBlock] at e, Nw.refl _⟩
  case round =>
    obtain ⟨k, hk, rfl, hI, hv, hG⟩ := hrel
    obtain ⟨ao, cap, rfl, _⟩ := hI.out.box
    by_cases hlt : k < N
    · have hb := HE.out k
      have hs1 := HT.out k
      have HR := Lib.hid (HH.out _ hG k)
      rw [HI.out k hlt] at HR
      have HG := Lib.hid hG
      have Hv := Lib.hid hv
      clear hG hv
      cases hB : waitB ss k with
      | true =>
        rw [hB] at HR hs1
        rw [if_pos rfl] at hs1
        clear hB
        go_wp2_with fail
        refine HR.out.mono ?_
        rintro e w1 ⟨rfl, g1⟩
        obtain ⟨v', w2, hrun, q1, q2, q3, g', cap', rfl⟩ := IS.push w1 _ (T k) k (hI.out.nw g1) (by omega)
        have HP := Lib.hid (And.intro q1 (And.intro q2 q3))
        have HR2 := Lib.hid hrun
        have G1 := Lib.hid g1
        clear q1 q2 q3 hrun g1
        go_wp2_with (at_builtin; refine wpList_append_run (by rfl) (.tmp 13) (.tmp 15) 31 rfl _ _ _ _ rfl rfl HR2.out ?_)
        go_roundw
        case rel =>
          refine ⟨k + 1, by omega, by go_num, Lib.hid (by rw [hs1]; exact HP.out.1), fun k e => (HP.out.2.2 k e).elim (Hv.out k) (fun q => Nat.le_trans (HG.out.trans G1.out).sz q), nw_tch (HG.out.trans G1.out) HP.out.2.1 (fun i e => Hv.out i e)⟩
        case measure => simp [intOf]; omega
      | false =>
        rw [hB] at HR hs1
        rw [if_neg (by simp)] at hs1
        clear hB
        go_wp2_with fail
        refine HR.out.mono ?_
        rintro e w1 ⟨rfl, g1⟩
        have G1 := Lib.hid g1
        clear g1
        go_wp2
        go_roundw
        case rel => exact ⟨k + 1, by omega, by go_num, Lib.hid (by rw [hs1]; exact hI.out.nw G1.out), Hv.out, HG.out.trans G1.out⟩
        case measure => simp [intOf]; omega
    · obtain rfl : k = N := by omega
      go_wp2
      go_ret
      exact ⟨_, rfl, hI.out, hv, hG⟩

/-! ### New -/
def NewP (w : World) (n : Int) (e : Ending) (w' : World) : Prop :=
  (¬ (1 ≤ n ∧ n ≤ 8) → e = .returned (.tuple #[.pointer none, .int .i64 2]) ∧ w = w') ∧
  (1 ≤ n ∧ n ≤ 8 → ∃ p, e = .returned (.tuple #[.pointer (some ⟨p, 0, none⟩), .int .i64 0]) ∧ Pk w' p (List.replicate n.toNat 0) ∧ w.heap.size ≤ p ∧ Nw w w')
theorem NewP.bad {w : World} {n : Int} (h : ¬ (1 ≤ n ∧ n ≤ 8)) : NewP w n (.returned (.tuple #[.pointer none, .int .i64 2])) w := ⟨fun _ => ⟨rfl, rfl⟩, fun k => absurd k h⟩
theorem NewP.good (w : World) (N : Nat) (n0 : 1 ≤ N) (n1 : N ≤ 8) (T : TypeId) : NewP w N (.returned (.tuple #[.pointer (some ⟨w.heap.size, 0, none⟩), .int .i64 0]))
    (w.alloc (.cells #[.pointer (some ⟨w.heap.size, 0, none⟩), .int .i64 N, .int .u16 0] T)) := by
  refine ⟨fun h => absurd (by omega) h, fun _ => ⟨_, rfl, ⟨by simp [go_sem], by simp [go_sem], ⟨0, bits_new _, by simp [go_sem]⟩, by simp [go_sem], by simp, ?_⟩, Nat.le_refl _, (Nw.refl w).alloc _⟩⟩
  exact vl_new N n0 n1
theorem new_any (n : Int) (w : World) : Calls Try.prog 9 #[.int .i64 n] w (NewP w n) := by
  by_cases q : 1 ≤ n ∧ n ≤ 8
  · obtain ⟨N, rfl⟩ := Int.eq_ofNat_of_zero_le (show 0 ≤ n by omega)
    have n0 : 1 ≤ N := by omega
    have n1 : N ≤ 8 := by omega
    have HN := Lib.hid (NewP.good w N n0 n1 49)
    have d1 : decide ((N : Int) < 1) = false := by simp; omega
    have d2 : decide ((8 : Int) < (N : Int)) = false := by simp; omega
    clear q
    go_enter Try.func9, Try.ntmps9
    go_wp2
    exact bodyPost_ret (v := .tuple #[.pointer (some ⟨w.heap.size, 0, none⟩), .int .i64 0]) (by simp [results, Try.results9, go_sem]) rfl HN.out
  · have HQ := Lib.hid q
    by_cases d : n < 1
    · clear q
      go_enter Try.func9, Try.ntmps9
      go_wp2
      exact bodyPost_ret (v := .tuple #[.pointer none, .int .i64 2]) (by simp [results, Try.results9, go_sem]) rfl (NewP.bad HQ.out)
    · have d2 : (8 : Int) < n := by omega
      clear q
      go_enter Try.func9, Try.ntmps9
      go_wp2
      exact bodyPost_ret (v := .tuple #[.pointer none, .int .i64 2]) (by simp [results, Try.results9, go_sem]) rfl (NewP.bad HQ.out)
end Go.Proofs.Ytbgpnjoghfjodaa
