/- Texts merged: BdZ, TbP, TbQ, TbH, TbR, TbM, TbN, BkY, PoR, BkZ, PoRE -/
import Derived.Test.YtpffldfpabglbaaGreatDoorTableApartB18

/- The kit's Same of requests, SameHeads of equal heads. -/
section
namespace Go.Proofs.YtpffldfpabglbaaGreatDoor
open Go.RowKit Go.Shelf
set_option linter.unusedVariables false      -- a contract need not use every name

theorem HdsAt.nw {w w' : World} {o : Nat} {v : Value} {hs : List Hq} (h : HdsAt w o v hs) (g : Nw w w') : HdsAt w' o v hs := by
  obtain ⟨lm, h1, h2, h3⟩ := h
  exact ⟨lm, onw h1 g, h2, fun x hx => (h3 x hx).nw g⟩
/-- How heads read, wherever they lie. -/
def HmRd (w : World) (v : Value) (lm : List Hm) : Prop := Rd 4 hmrow w v lm ∧ ∀ x ∈ lm, RqAt w (hmV x) x.h.q ∧ x.h.q.length ≤ 1000
theorem HdsAt.rd {w : World} {o : Nat} {v : Value} {hs : List Hq} (h : HdsAt w o v hs) : ∃ lm, HmRd w v lm ∧ lm.map Hm.h = hs := by
  obtain ⟨lm, h1, h2, h3⟩ := h
  exact ⟨lm, ⟨Own.rd elemHm.len h1, fun x hx => ⟨(h3 x hx).rd, (h3 x hx).len⟩⟩, h2⟩
end Go.Proofs.YtpffldfpabglbaaGreatDoor
end

/- The developers' table: made, with, Stripe. -/
section
namespace Go.Proofs.YtpffldfpabglbaaGreatDoor
open Go.RowKit Go.Shelf
set_option linter.unusedVariables false      -- a contract need not use every name

theorem infoTb : (Tryz.prog.info? 89).isSome = true := by kernel_rfl
theorem teql_self (a : Addr) (w : World) : Sem.run Tryz.prog (binOp .eql 26 (.pointer (some a)) (.pointer (some a))) w = .ok (.bool true) w := by
  obtain ⟨j, hj⟩ := Option.isSome_iff_exists.1 infoTb
  exact run_eql_ptr_same w a Tryz.underlying26 hj
theorem tmade_yes (o : Nat) (w : World) (h : w.cell? ⟨o, 0, none⟩ = some (.pointer (some ⟨o, 0, none⟩))) : Calls Tryz.prog 67 #[.pointer (some ⟨o, 0, none⟩)] w fun e w' => e = .returned (.bool true) ∧ w = w' := by
  have he := teql_self
  go_enter Tryz.func67, Tryz.ntmps67
  go_wp2
  go_ret
  exact ⟨rfl, rfl⟩
/-- What Stripe and others read. -/
def TSt (o bb cp nn : Nat) (y : World) : Prop := y.cell? ⟨o, 0, none⟩ = some (ptN o) ∧ y.cell? ⟨o, 6, none⟩ = some (.slice (some ⟨bb, 0, none⟩) nn cp)
section
variable {W : World} {o n : Nat} {C : Cps} {bb cp hb po : Nat} {ds : List DB} {hv : List (Int × Nat)} {L : List Bool} {F : Nat → Prop}
theorem TbM.st (h : TbM W o n C bb cp hb po ds hv L F) : TSt o bb cp ds.length W := ⟨h.c0, h.c6⟩
end
set_option maxRecDepth 10000 in
set_option maxHeartbeats 1000000 in
theorem stripe_d {W : World} {o bb cp nn : Nat} (h : TSt o bb cp nn W) (t r : Int) :
    Calls Tryz.prog 20 #[.pointer (some ⟨o, 0, none⟩), .agg #[.int .i64 t, .int .i64 r]] W fun e W' => e = .returned (.int .i64 (ofS t r nn)) ∧ Nw W W' := by
  obtain ⟨z, hz⟩ : ∃ z, W.alloc (.cells #[.int .i64 t, .int .i64 r] 34) = z := ⟨_, rfl⟩
  have g1 : Nw W z := by rw [← hz]; exact (Nw.refl W).alloc _
  have hal := allocAt W (.cells #[.int .i64 t, .int .i64 r] 34)
  rw [hz] at hal
  have HZ := Lib.hid hz
  have HG := Lib.hid g1
  have HMd := Lib.hid (tmade_yes o z (g1.kp h.1))
  have HC := Lib.hid (And.intro (g1.kp h.2) (And.intro hal (World.block_lt_of_cell? _ _ (g1.kp h.2))))
  clear hz g1 hal h
  go_enter Tryz.func20, Tryz.ntmps20
  go_wp2_with fail
  rw [HZ.out]
  generalize W.heap.size = pb at *
  refine HMd.out.mono ?_
  rintro e z' ⟨rfl, rfl⟩
  go_upto_region 3 with fail
  have hne : Nonempty (Wd (fun y => Nw z y)) := ⟨⟨_, Nw.refl _⟩⟩
  have C1 := fun (d : Wd (fun y => Nw z y)) => d.h.kp HC.out.1
  have C2 := fun (d : Wd (fun y => Nw z y)) => (hcell (j := 0) (d.h.at' HC.out.2.1)).trans rfl
  have C3 := fun (d : Wd (fun y => Nw z y)) => (hcell (j := 1) (d.h.at' HC.out.2.1)).trans rfl
  go_wp2_with fail
  refine region_in (fun y => Nw z y) (by kernel_rfl) (by kernel_rfl) (Nw.refl z).dr ?_
  repeat (first | go_big_quiet_step ((exact quietN (fun a b h g => h.trans g) (of_any t r nn _))) | quiet_step ((exact quietN (fun a b h g => h.trans g) (of_any t r nn _))))
  refine wpQuiet_nil ?_
  intro d
  have HD := Lib.hid (HG.out.trans d.h)
  clear C1 C2 C3 hne
  revert HD
  generalize d.w = z3
  intro HD
  go_wp2
  go_ret
  exact ⟨rfl, HD.out⟩
/-! ### with -/
section
variable {W : World} {o n : Nat} {C : Cps} {bb cp hb po : Nat} {ds : List DB} {hv : List (Int × Nat)} {L : List Bool} {F : Nat → Prop}
theorem hss_at {ds : List DB} {i : Nat} (hi : i < ds.length) (hi' : i < (hssD ds).length) : (hssD ds)[i] = hsP ds[i].l := by
  have := hssD_get hi
  rw [List.getElem?_eq_getElem hi'] at this
  exact Option.some.inj this
theorem hss_len (ds : List DB) : (hssD ds).length = ds.length := by unfold hssD; rw [List.length_map]
end
end Go.Proofs.YtpffldfpabglbaaGreatDoor
end

/- The developers' table: what a call comes to; Ask. -/
section
namespace Go.Proofs.YtpffldfpabglbaaGreatDoor
open Go.RowKit Go.Shelf
set_option linter.unusedVariables false      -- a contract need not use every name

section
variable {W W1 W2 W' : World} {o S n N k : Nat} {C : Cps} {bb cp hb po : Nat} {ds ds' : List DB} {hv hv' : List (Int × Nat)} {L L' : List Bool} {F F' : Nat → Prop}
theorem tab_fin (hm1 : TbM W1 o n C bb cp hb po ds' hv L' F') (hsub : ∀ b, TbJ o bb hb ds' F' b → TbJ o bb hb ds F b ∨ W.heap.size ≤ b) (ht : Tch (TbJ o bb hb ds F) W W1) (p : hv.Perm (hvT ds')) {hss : List (List Hq)} (e : hssD ds' = hss) (ok : TbOk S n N k hss L') : TabTo W o S n N k C hss L' (TbJ o bb hb ds F) W1 :=
  ⟨_, ⟨bb, cp, hb, po, ds', hv, F', hm1, p, e, rfl, ok⟩, hsub, ht⟩
theorem tab_turn (hm1 : TbM W1 o n C bb cp hb po ds' hv L' F') (hsub : ∀ b, TbJ o bb hb ds' F' b → TbJ o bb hb ds F b ∨ W.heap.size ≤ b) (ht : Tch (TbJ o bb hb ds F) W W1) (m : MapI W2 hb hv') (g : W1.mapTurned W2 hb) (p : hv'.Perm (hvT ds')) {hss : List (List Hq)} (e : hssD ds' = hss) (ok : TbOk S n N k hss L') : TabTo W o S n N k C hss L' (TbJ o bb hb ds F) W2 := by
  obtain ⟨h2, t2⟩ := hm1.turn m g
  exact ⟨_, ⟨bb, cp, hb, po, ds', hv', F', h2, p, e, rfl, ok⟩, hsub, ht.trans' t2 fun b hb e => (hsub b e).elim id (fun q => by omega)⟩
theorem db_inv (ok : TbOk S n N k (hssD ds) L) {i : Nat} (hi : i < ds.length) : BInv n k (hsP ds[i].l) (tOth (hssD ds) i) L := DtB.inv ok.inv hi
theorem hss_hsAt {i : Nat} (hi : i < ds.length) : hsAt (hssD ds) i = hsP ds[i].l := by
  have hi' : i < (hssD ds).length := by rw [hss_len]; exact hi
  rw [hsAt_get hi', hss_at hi hi']
theorem set_inv {i : Nat} (hi : i < ds.length) {l' : List Hp} {k' : Nat} (ok : TbOk S n N k' ((hssD ds).set i (hsP l')) L') : BInv n k' (hsP l') (tOth (hssD ds) i) L' := by
  have hi' : i < ((hssD ds).set i (hsP l')).length := by rw [List.length_set, hss_len]; exact hi
  have b := ok.inv.get hi'
  rw [List.getElem_set_self, tOth_set] at b
  exact b
end
/-- What Ask reads while the bucket is asked. -/
theorem fit_fre {L : List Bool} (h : L.length ≤ 128) : Fit (fre L : Int) := by
  have := fre_le L
  unfold Fit
  omega
theorem hv_fre {S n N k : Nat} {ds : List DB} {hv : List (Int × Nat)} {L : List Bool} (p : hv.Perm (hvT ds)) (ok : TbOk S n N k (hssD ds) L) : ∀ x ∈ hv, x.1 ≠ (fre L : Int) := fun x hx e => by
  have h1 : x.1 ∈ tIds (hssD ds) := by
    rw [← hv_ids]
    exact List.mem_map.2 ⟨x, p.mem_iff.1 hx, rfl⟩
  have h2 := ok.inv.mem.1 h1
  rw [e, fre_has] at h2
  cases h2
theorem hv_le {S n N k : Nat} {ds : List DB} {hv : List (Int × Nat)} {L : List Bool} (p : hv.Perm (hvT ds)) (ok : TbOk S n N k (hssD ds) L) (h : L.length ≤ 128) : hv.length < 1000 := by
  rw [p.length_eq, hv_len, ok.inv.ids.length_eq]
  have : (castL (lnt L)).length = liv L := by simp [castL, liv_lnt]
  rw [this]
  have : liv L ≤ L.length := List.countP_le_length
  omega
theorem lvl_wf {t r : Int} (h : lvl t r ≠ -1) : wfN (t, r) := by
  have : -1 ≤ t ∧ t ≤ 99 ∧ -1 ≤ r ∧ r ≤ 99 := by
    unfold lvl at h
    split at h
    · omega
    · split at h <;> first | omega | (exact absurd rfl h)
  exact ⟨WalkArith.wf_i64 (by omega), WalkArith.wf_i64 (by omega)⟩
theorem ofS_lvl {t r n : Int} (h : ofS t r n ≠ -1) : lvl t r ≠ -1 := fun e => h (ofS_bad t r n e)
def AskS (o bb cp nn s B pb : Nat) (t r : Int) (y : World) : Prop := y.cell? ⟨o, 6, none⟩ = some (.slice (some ⟨bb, 0, none⟩) nn cp) ∧ y.cell? ⟨bb, s, none⟩ = some (ptN B) ∧ y.cell? ⟨pb, 0, none⟩ = some (.int .i64 t) ∧ y.cell? ⟨pb, 1, none⟩ = some (.int .i64 r)
set_option maxRecDepth 20000 in
set_option maxHeartbeats 4000000 in
theorem ask_t {W : World} {o S n N k : Nat} {C : Cps} {hss : List (List Hq)} {L : List Bool} {J : Nat → Prop} (h : Tab W o S n N k C hss L J) (hk : k ≤ 800) (hn : n ≤ 64) (hS : S ≤ 16) (t r txn m : Int) :
    Calls Tryz.prog 34 #[.pointer (some ⟨o, 0, none⟩), .agg #[.int .i64 t, .int .i64 r], .int .i64 txn, .int .i64 m] W fun e W' => e = .returned (.tuple #[.int .i64 (askTR n hss L t r txn m).1, .bool (askTR n hss L t r txn m).2.1, .int .i64 (askTR n hss L t r txn m).2.2]) ∧ TabTo W o S n N (k + 1) C (askTS n hss L t r txn m).1 (askTS n hss L t r txn m).2 J W' := by
  have hTo := fun (W' : World) (g : Nw W W') => h.to g (k + 1) (Nat.le_succ k)
  obtain ⟨bb, cp, hb, po, ds, hv, F, hm, hp, rfl, rfl, ok⟩ := h
  have okA := ok.ask hS (by omega) t r txn m
  obtain ⟨z, hz⟩ : ∃ z, W.alloc (.cells #[.int .i64 t, .int .i64 r] 34) = z := ⟨_, rfl⟩
  have g1 : Nw W z := by rw [← hz]; exact (Nw.refl W).alloc _
  have hal := allocAt W (.cells #[.int .i64 t, .int .i64 r] 34)
  rw [hz] at hal
  have HZ := Lib.hid hz
  have HMd := Lib.hid (tmade_yes o z (g1.kp hm.c0))
  have HSt := Lib.hid (stripe_d (hm.nw g1).st t r)
  have hal0 := hal
  obtain ⟨pb, hpb⟩ : ∃ pb, W.heap.size = pb := ⟨_, rfl⟩
  rw [hpb] at hal
  have c0 := hcell (j := 0) hal
  have c1 := hcell (j := 1) hal
  have cl := hlt hal
  have HPb := Lib.hid hpb
  have hSl : (hssD ds).length = ds.length := hss_len ds
  unfold askTR askTS at *
  rw [hSl] at okA ⊢
  have hrg := ofS_range t r ds.length
  by_cases hbad : ofS t r ds.length = -1
  · rw [hbad] at HSt
    simp only [hbad, if_true] at okA ⊢
    have HT := Lib.hid hTo
    have HG := Lib.hid g1
    clear hz g1 hal hal0 hrg okA hTo hm hp ok hpb
    go_enter Tryz.func34, Tryz.ntmps34
    go_wp2_with fail
    rw [HZ.out, HPb.out]
    refine HMd.out.mono ?_
    rintro e z' ⟨rfl, rfl⟩
    go_wp2_with fail
    refine HSt.out.mono ?_
    rintro e z2 ⟨rfl, g2⟩
    have HT2 := Lib.hid (HT.out z2 (HG.out.trans g2))
    clear g2 HT HG
    go_wp2
    exact bodyPost_ret (v := .tuple #[.int .i64 0, .bool false, .int .i64 2]) (by simp [results, Tryz.results34, go_sem, *]) rfl ⟨rfl, HT2.out⟩
  · simp only [hbad, if_false] at okA ⊢
    have hlv := lvl_wf (ofS_lvl hbad)
    obtain ⟨s, hs⟩ : ∃ s : Nat, ofS t r ds.length = s := ⟨(ofS t r ds.length).toNat, by omega⟩
    have hi : s < ds.length := by omega
    rw [hs] at HSt
    simp only [hs, Int.toNat_natCast, hss_hsAt hi] at okA ⊢
    have d1 : ((s : Int) == -1) = false := by rw [beq_eq_false_iff_ne]; omega
    have d2 : (s : Int) < (ds.length : Int) := by omega
    have HM := Lib.hid (And.intro hm (And.intro hp (And.intro ok (And.intro hi (And.intro hlv okA)))))
    have HG := Lib.hid (And.intro g1 hal0)
    clear hz g1 hal hal0 hrg okA hTo hm hp ok hpb hbad hs hlv
    go_enter Tryz.func34, Tryz.ntmps34
    go_wp2_with fail
    rw [HZ.out, HPb.out]
    refine HMd.out.mono ?_
    rintro e z' ⟨rfl, rfl⟩
    go_wp2_with fail
    refine HSt.out.mono ?_
    rintro e z2 ⟨rfl, g2⟩
    have HG2 := Lib.hid (HG.out.1.trans g2)
    have hb2 := g2.at' HG.out.2
    rw [HPb.out] at hb2
    have c0 := hcell (j := 0) hb2
    have c1 := hcell (j := 1) hb2
    have cl := hlt hb2
    have c6 := HG2.out.kp HM.out.1.c6
    have cr := HG2.out.kp (HM.out.1.row s HM.out.2.2.2.1)
    have HA := Lib.hid (ask_d ((HM.out.1.nw HG2.out.dr).db.db _ (List.getElem_mem HM.out.2.2.2.1)) (db_inv HM.out.2.2.1 HM.out.2.2.2.1) hk hn t r txn m HM.out.2.2.2.2.1)
    have c7 := HG2.out.kp HM.out.1.c7
    clear g2 HG HSt HMd
    go_wp2_with fail
    obtain ⟨B, hB⟩ : ∃ B, ds[s].o = B := ⟨_, rfl⟩
    rw [hB] at cr HA
    have hS0 : AskS o bb cp ds.length s B pb t r z2.drew := ⟨c6, cr, c0, c1⟩
    have q1 : ∀ x, AskS o bb cp ds.length s B pb t r x → x.cell? ⟨o, 6, none⟩ = some (.slice (some ⟨bb, 0, none⟩) ds.length cp) := fun x h => h.1
    have q2 : ∀ x, AskS o bb cp ds.length s B pb t r x → x.cell? ⟨bb, s, none⟩ = some (ptN B) := fun x h => h.2.1
    have q3 : ∀ x, AskS o bb cp ds.length s B pb t r x → x.cell? ⟨pb, 0, none⟩ = some (.int .i64 t) := fun x h => h.2.2.1
    have q4 : ∀ x, AskS o bb cp ds.length s B pb t r x → x.cell? ⟨pb, 1, none⟩ = some (.int .i64 r) := fun x h => h.2.2.2
    have HBx := Lib.hid (And.intro hB hb2)
    clear c0 c1 c6 cr c7 cl hB hb2
    refine region_told [some true, some true, some true, some true, some true, some true, some true, some true, some true, some true, some false, none, some true, some true, some true, some true, some true, some true, some true] (AskS o bb cp ds.length s B pb t r) (by kernel_rfl) (by kernel_rfl) (by kernel_rfl) hS0 ?_
    clear hS0
    iterate 10 (refine HW.take' ?_; (apply Exists.intro; refine ⟨Or.inl ⟨by rfl, ?_⟩, ?_⟩; (intro x hx; go_simp; first | done | with_reducible rfl)); (try simp only [Act.put, List.setIfInBounds_toArray, List.set_cons_zero, List.set_cons_succ]))
    refine HW.off ?_
    refine HW.go (fun K hK => ?_)
    go_simp
    go_at_call 89
    refine HA.out.mono ?_
    rintro e w3 ⟨rfl, l', hl', d⟩
    rw [← HBx.out.1] at d
    have hz2 : W.heap.size ≤ z2.drew.heap.size := HG2.out.dr.sz
    obtain ⟨F', hm1, hs1, ht1⟩ := (HM.out.1.nw HG2.out.dr).call hi d
    have hpn : ¬ TbJ o bb hb ds F pb := fun e => by have := HM.out.1.lt _ e; have := HPb.out; omega
    have hb3 := (ht1.block pb (hlt HBx.out.2) hpn).trans HBx.out.2
    have hS3 : AskS o bb cp ds.length s B pb t r w3 := by
      have e1 := hm1.c6
      have e2 := hm1.row s (by rw [List.length_set]; exact hi)
      rw [List.length_set] at e1
      rw [List.getElem_set_self] at e2
      simp only [HBx.out.1] at e2
      exact ⟨e1, e2, hcell (j := 0) hb3, hcell (j := 1) hb3⟩
    have HX := Lib.hid (show (∀ b, TbJ o bb hb (ds.set s ⟨ds[s].o, ds[s].mb, l'⟩) F' b → TbJ o bb hb ds F b ∨ W.heap.size ≤ b) ∧ Tch (TbJ o bb hb ds F) W w3 from ⟨fun b e => (hs1 b e).imp id (fun q => Nat.le_trans hz2 q), (Tch.nw HG2.out.dr).trans ht1⟩)
    have HM1 := Lib.hid hm1
    have HBx2 : Hid (ds[s].o = B) := HBx.out.1
    refine hK.out _ _ hS3 ?_
    intro _
    clear hK K d hm1 hs1 ht1 hpn hb3 HA HBx hz2 q1 q2 q3 q4
    (try simp only [Act.put, List.setIfInBounds_toArray, List.set_cons_zero, List.set_cons_succ])
    have okA := HM.out.2.2.2.2.2
    have he3 : hssD (ds.set s ⟨ds[s].o, ds[s].mb, l'⟩) = (hssD ds).set s (hsP l') := hssD_set ds s _
    by_cases he : askBE n (hsP ds[s].l) L t r txn m = 0
    · obtain ⟨_, hfl, _⟩ := ask_can (db_inv HM.out.2.2.1 hi) he
      have eS : (askBS n (hsP ds[s].l) L t r txn m).2 = tkL L := by unfold askBS; rw [if_pos he]
      have eR : askBR n (hsP ds[s].l) L t r txn m = ((fre L : Int), (askQ (hdB (hsP ds[s].l) t r).W (hdB (hsP ds[s].l) t r).q (fre L) txn m).2.2, 0) := by unfold askBR; rw [if_pos he]
      have HeR := Lib.hid eR
      rw [eR]
      revert HeR
      generalize (askQ (hdB (hsP ds[s].l) t r).W (hdB (hsP ds[s].l) t r).q (fre L) txn m).2.2 = G
      intro HeR
      have hpt : (allIds (hsP l')).Perm ((fre L : Int) :: allIds (hsP ds[s].l)) := by
        have q := set_inv (ds := ds) (l' := l') hi (by rw [hl']; exact okA)
        rw [eS] at q
        exact ids_take (db_inv HM.out.2.2.1 hi) hfl q
      have hls : L.length ≤ 128 := HM.out.1.db.pol.sz
      have HTk := Lib.hid (And.intro hpt (And.intro (hv_fre HM.out.2.1 HM.out.2.2.1) (And.intro (hv_le HM.out.2.1 HM.out.2.2.1 hls) (fit_fre hls))))
      generalize (fre L : Int) = fi at *
      clear eR hfl hpt hls
      simp only
      iterate 7 (refine HW.take' ?_; (apply Exists.intro; refine ⟨Or.inl ⟨by rfl, ?_⟩, ?_⟩; (intro x hx; go_simp; first | done | with_reducible rfl)); (try simp only [Act.put, List.setIfInBounds_toArray, List.set_cons_zero, List.set_cons_succ]))
      refine HW.end_ ?_
      refine NoPanic.normal ?_
      have c7 := (HM1.out.nw (Nw.refl _).dr).c7
      have c6 := (HM1.out.nw (Nw.refl _).dr).c6
      have cr := hS3.2.1
      obtain ⟨w4, hrun, hm4, htn⟩ := (HM1.out.nw (Nw.refl _).dr).map.put HTk.out.2.2.1 HTk.out.2.2.2 B HTk.out.2.1
      rw [List.length_set] at c6
      have HU := Lib.hid hrun
      have HR := Lib.hid (tab_turn (HM1.out.nw (Nw.refl _).dr) HX.out.1 (HX.out.2.trans (Tch.nw (Nw.refl _).dr)) hm4 htn (((HM.out.2.1.cons _).trans (by rw [← HBx2.out]; exact (hv_take hi HTk.out.1).symm))) (he3.trans (by rw [hl'])) okA)
      clear hS3 HM1 HX hm4 htn hrun HTk okA he3 hl'
      go_wp2_with fail
      refine wp_region_still_tail 12 (by kernel_rfl) (by kernel_rfl) ?_
      simp only [List.take_succ_cons, List.take_zero, List.drop_succ_cons, List.drop_zero]
      iterate 12 still_step
      try refine wpStill_nil ?_
      change wpList _ _ _ _ _ w3.drew
      go_wp2_with (refine mapUpd_run rfl (.tmp 40) (.tmp 41) (.tmp 48) 86 rfl _ _ _ _ rfl rfl rfl HU.out ?_)
      exact bodyPost_ret (v := .tuple #[.int .i64 fi, .bool G, .int .i64 0]) (by simp [results, Tryz.results34, go_sem, *]) rfl ⟨by rw [HeR.out], HR.out⟩
    · obtain ⟨eS, eR, _⟩ := ask_rej he
      have HR := Lib.hid (show TabTo W o S n N (k + 1) C ((hssD ds).set s (askBS n (hsP ds[s].l) L t r txn m).1) (askBS n (hsP ds[s].l) L t r txn m).2 (TbJ o bb hb ds F) w3 from
        tab_fin HM1.out HX.out.1 HX.out.2 (HM.out.2.1.trans (hv_same hi (by
          have q := set_inv (ds := ds) (l' := l') hi (by rw [hl']; exact okA)
          rw [eS] at q
          exact ids_same (db_inv HM.out.2.2.1 hi) q)).symm) (he3.trans (by rw [hl'])) okA)
      obtain ⟨E, hE⟩ : ∃ E, askBE n (hsP ds[s].l) L t r txn m = E := ⟨_, rfl⟩
      rw [hE] at he eR
      have HeR := Lib.hid eR
      rw [eR]
      have dE : (E == 0) = false := by simpa using he
      clear hS3 HM1 HX okA he3 hl' eR hE he eS
      simp only
      iterate 7 (refine HW.take' ?_; (apply Exists.intro; refine ⟨Or.inl ⟨by rfl, ?_⟩, ?_⟩; (intro x hx; go_simp; first | done | with_reducible rfl)); (try simp only [Act.put, List.setIfInBounds_toArray, List.set_cons_zero, List.set_cons_succ]))
      refine HW.end_ ?_
      refine NoPanic.normal ?_
      go_wp2
      exact bodyPost_ret (v := .tuple #[.int .i64 0, .bool false, .int .i64 E]) (by simp [results, Tryz.results34, go_sem, *]) rfl ⟨by rw [HeR.out], HR.out⟩
end Go.Proofs.YtpffldfpabglbaaGreatDoor
end

/- Plain facts of buckets: what a request that leaves leaves behind. Of no program. -/
section
namespace Go.Proofs.YtpffldfpabglbaaGreatDoor
set_option linter.unusedVariables false

end Go.Proofs.YtpffldfpabglbaaGreatDoor
end

/- The developers' table: Leave, Abandon, Upgrade, Hand. -/
section
namespace Go.Proofs.YtpffldfpabglbaaGreatDoor
open Go.RowKit Go.Shelf
set_option linter.unusedVariables false      -- a contract need not use every name

/-- How the numbers turn: as before, or one is given back. -/
def IdsR (hs hs' : List Hq) (L L' : List Bool) (id E : Int) : Prop := ((E ≠ 0 ∨ hsL L' id = true) → (allIds hs').Perm (allIds hs)) ∧ (E = 0 → hsL L' id = false → (allIds hs).Perm (id :: allIds hs') ∧ Fit id)
theorem IdsR.same {hs hs' : List Hq} {L L' : List Bool} {id E : Int} (p : (allIds hs').Perm (allIds hs)) (h : E = 0 → hsL L' id = true) : IdsR hs hs' L L' id E := ⟨fun _ => p, fun e q => by rw [h e] at q; cases q⟩
section
variable {most k k' : Nat} {hs hs' : List Hq} {X : List Int} {L L' : List Bool}
end
section
variable {W : World} {o S n N k : Nat} {C : Cps} {hss : List (List Hq)} {L : List Bool} {J : Nat → Prop}
end
end Go.Proofs.YtpffldfpabglbaaGreatDoor
end

/- SortFunc on a row of structs of the call's own, of any type: a permutation, in order. -/
section
namespace Go.Proofs.YtpffldfpabglbaaGreatDoor
open Go.RowKit Go.Sort Go.Shelf
set_option linter.unusedVariables false      -- a contract need not use every name

theorem holdsA {w : World} {g : Nat} {cur F : Array Value} {e : TypeId} (hb : w.heap[g]? = some (.cells cur e (0, 0))) (ht : cur.toList.take F.size = F.toList) : Holds id w g 0 F := by
  intro j hj
  refine ⟨?_, by simp [World.frozen?, hb]⟩
  have h1 : (cur.toList.take F.size)[j]? = F.toList[j]? := by rw [ht]
  rw [List.getElem?_take_of_lt hj] at h1
  simp only [World.cell?, hb, Nat.zero_add]
  simp only [Option.isSome_none, Bool.false_eq_true, if_false]
  rw [← Array.getElem?_toList, h1]
  simp [hj]
theorem heapA {w : World} {g n : Nat} {os : Array Obj} {cur : Array Value} {e : TypeId} {fr : Nat × Nat} (F : Array Value) (hb : w.heap[g]? = some (.cells cur e fr)) :
    (grow (putRow id (Sort.ahead w n) g 0 F) os).heap[g]? = some (.cells (putCells id 0 F cur) e fr) := by
  have hg : g < w.heap.size := (Array.getElem?_eq_some_iff.1 hb).1
  rw [heap_grow_old _ _ (by simpa using hg)]
  simp [putRow, mapBlock, Sort.ahead, Array.getElem?_modify, hb, onCells]
theorem tchA {w : World} {g n : Nat} {os : Array Obj} (F : Array Value) : Tch (fun b => b = g) w (grow (putRow id (Sort.ahead w n) g 0 F) os) := by
  refine ⟨rfl, rfl, rfl, by simp, fun k hk hne => ?_⟩
  rw [heap_grow_old _ _ (by simpa using hk)]
  have : g ≠ k := fun e => hne e.symm
  simp [putRow, mapBlock, Sort.ahead, Array.getElem?_modify, this]
theorem takeA (cur F : Array Value) (h : F.size ≤ cur.size) : (putCells id 0 F cur).toList.take F.size = F.toList := by
  apply List.ext_getElem?
  intro j
  by_cases hj : j < F.size
  · rw [List.getElem?_take_of_lt hj, Array.getElem?_toList]
    simp [putCells, hj, show j < cur.size by omega]
  · rw [List.getElem?_take_eq_none (by omega), List.getElem?_eq_none (by simp; omega)]
theorem flatA {α : Type} [Inhabited α] {sz : Nat} {row : α → List Value} (hz : 0 < sz) (hl : ∀ a, (row a).length = sz) (ss : List α) : flatK row sz ss.toArray = ⟨rowsOf row ss⟩ := by
  have hlen : (rowsOf row ss).length = ss.length * sz := rows_len hl ss
  apply Array.ext
  · rw [size_flatK]; simp [hlen]
  · intro t h1 h2
    rw [size_flatK] at h1
    have h1' : t < ss.length * sz := by simpa using h1
    have hd : t / sz < ss.length := Nat.div_lt_of_lt_mul (by rwa [Nat.mul_comm])
    have hm : t % sz < sz := Nat.mod_lt _ hz
    have h3 := rows_at' hl ss (t / sz) (t % sz) hd hm
    rw [show t / sz * sz + t % sz = t by rw [Nat.mul_comm]; exact Nat.div_add_mod t sz] at h3
    have e1 := get_flatK row sz ss.toArray t h1
    rw [getElem!_pos _ t (by rw [size_flatK]; exact h1)] at e1
    rw [e1, getElem!_pos ss.toArray (t / sz) (by simpa using hd)]
    have e2 : (⟨rowsOf row ss⟩ : Array Value)[t]? = (row ss[t / sz])[t % sz]? := by
      rw [← h3]; simp
    rw [Array.getElem?_eq_getElem h2] at e2
    simp only [List.getElem_toArray]
    rw [getElem!_pos _ _ (by rw [hl]; exact hm)]
    rw [List.getElem?_eq_getElem (by rw [hl]; exact hm)] at e2
    exact (Option.some.inj e2).symm
theorem permA {α : Type} [Inhabited α] {d d' : Array α} (h : PermIn 0 d.size d d') : d'.toList.Perm d.toList := by
  obtain ⟨h1, _, h3⟩ := h
  have e1 : d'.extract 0 d.size = d' := by rw [← h1]; exact Array.extract_size
  have e2 : d.extract 0 d.size = d := Array.extract_size
  rwa [e1, e2] at h3
theorem sortedA {α : Type} [Inhabited α] {lt : α → α → Bool} {d' : Array α} {n : Nat} (hn : d'.size = n) (h : SortedIn lt 0 n d') : d'.toList.Pairwise fun a b => lt b a = false := by
  rw [List.pairwise_iff_getElem]
  intro i j hi hj hij
  have := h i j (Nat.zero_le _) hij (by rw [← hn]; simpa using hj)
  have hi' : i < d'.size := by simpa using hi
  have hj' : j < d'.size := by simpa using hj
  rw [getElem!_pos d' i hi', getElem!_pos d' j hj'] at this
  simpa using this
theorem sort_rows {α : Type} [Inhabited α] {ST T : TypeId} {sz bytes : Nat} {row : α → List Value} (E : Elem Tryz.prog ST T sz bytes row) {ρ : Ren} (L : SlLaysF0.n6 Tryz.prog ρ) (aE : ∀ w, (isAgg (ρ.t 24)).run Tryz.prog w = .ok true w) (zE : ∀ w, (Go.sizeOf (ρ.t 24)).run Tryz.prog w = .ok sz w)
    (cf : α → α → Int) (hO : SWO (ltOf cf)) (fn : Nat) (eg : ∀ args w, (callFunc fn args).run Tryz.prog w = .ok (.enter fn args) w)
    (hc : ∀ x y W, Calls Tryz.prog fn #[.agg (row x).toArray, .agg (row y).toArray] W fun e w' => e = .returned (.int .i64 (cf x y)) ∧ GG W w')
    (g0 g cap : Nat) (ss : List α) (w : World) (h : Own T sz row w g0 (.slice (some ⟨g, 0, none⟩) ss.length cap) ss) (hsm : ss.length ≤ 100000) :
    Calls Tryz.prog (ρ.f 6) #[.slice (some ⟨g, 0, none⟩) ss.length cap, .func (.func fn) #[] #[]] w fun e w' => e = .returned (.tuple #[]) ∧ ∃ l : List α, l.Perm ss ∧ (l.Pairwise fun a b => ltOf cf b a = false) ∧ Own T sz row w' g0 (.slice (some ⟨g, 0, none⟩) l.length cap) l ∧ Tch (fun b => b = g) w w' := by
  obtain ⟨hx, hr⟩ := h
  rcases hr with ⟨h0, _⟩ | ⟨g', cap', cur, h1, h2, h3, h4, h5, h6, h7⟩
  · simp at h0
  · simp only [Value.slice.injEq, Option.some.injEq, Addr.mk.injEq, and_true, true_and] at h1
    obtain ⟨rfl, rfl⟩ := h1
    have hF : (⟨rowsOf row ss⟩ : Array Value).size = ss.length * sz := rows_len E.len ss
    have hH : HoldsK row sz w g 0 ss.toArray := by
      unfold HoldsK
      rw [flatA E.pos E.len]
      exact holdsA h3 (by rw [hF]; exact h7)
    have hcl : CmpLays Tryz.prog fn #[] row sz cf g 0 ss.toArray.size w := fun _ _ _ _ x y => hc x y _
    refine Calls.mono (AnyQ.slices_SortFunc L sz aE zE row E.len E.one cf hO fn #[] g 0 cap ss.toArray w eg hcl hH (hlt h3) (by simp; omega)) ?_
    rintro e w' ⟨rfl, d', n, os, hp, hs, rfl⟩
    have hsz : d'.size = ss.length := by have := hp.1; simpa using this
    have hp2 := permA hp
    refine ⟨rfl, d'.toList, by simpa using hp2, sortedA (by simpa using hsz) hs, ?_, ?_⟩
    · have hl : d'.toList.length = ss.length := by simpa using hsz
      have hz : (⟨rowsOf row d'.toList⟩ : Array Value).size = ss.length * sz := by rw [← hl]; exact rows_len E.len _
      unfold sortWorldK putRowK
      have ef : flatK row sz d' = ⟨rowsOf row d'.toList⟩ := by
        have := flatA E.pos E.len d'.toList
        rwa [Array.toArray_toList] at this
      rw [ef]
      unfold Own
      rw [hl]
      refine ⟨by show (rowsOf row d'.toList).length = _; exact hz, .inr ⟨g, cap, _, rfl, h2, heapA _ h3, h4, h5, by simp [putCells, h6], ?_⟩⟩
      have := takeA cur ⟨rowsOf row d'.toList⟩ (by rw [hz, h6]; exact Nat.mul_le_mul_right sz h4)
      rw [hz] at this
      exact this
    · exact tchA _
end Go.Proofs.YtpffldfpabglbaaGreatDoor
end

/- What is held: rows of it, its order; the sorted heads. -/
section
namespace Go.Proofs.YtpffldfpabglbaaGreatDoor
open Go.RowKit Go.Sort
set_option linter.unusedVariables false

instance : Inhabited Hm := ⟨⟨⟨0, 0, 0, []⟩, none, 0⟩⟩
instance : Inhabited Hl := ⟨⟨0, 0, 0, 0⟩⟩
def hlrow (e : Hl) : List Value := [.int .i64 e.x, .int .i64 e.t, .int .i64 e.r, .int .i64 e.m]
theorem elemHl : Elem Tryz.prog 45 44 4 32 hlrow where
  und := Tryz.underlying45
  inf := by
    have h : (Tryz.prog.info? 44).map (fun i => (i.zero.map fun z => z.cells.size, i.size, i.bytes)) = some (some 4, 4, 32) := by kernel_rfl
    cases e : Tryz.prog.info? 44 with
    | none => rw [e] at h; cases h
    | some i =>
      rw [e] at h
      simp only [Option.map_some, Option.some.injEq, Prod.mk.injEq] at h
      obtain ⟨h1, h2, h3⟩ := h
      cases ez : i.zero with
      | none => rw [ez] at h1; cases h1
      | some z => rw [ez] at h1; exact ⟨i, z, rfl, ez, h2, h3, Option.some.inj h1⟩
  pos := by decide
  byt := by decide
  len := fun _ => rfl
  one := fun a u hu => by
    simp only [hlrow, List.mem_cons, List.not_mem_nil, or_false] at hu
    rcases hu with rfl | rfl | rfl | rfl <;> rfl
abbrev HlOwn (w : World) (g0 : Nat) (v : Value) (l : List Hl) : Prop := Own 44 4 hlrow w g0 v l
def cmpM (a b : Hm) : Int := cmpN (nmH a.h) (nmH b.h)
def cmpHl (a b : Hl) : Int := orP (cP a.x b.x) (cmpN (a.t, a.r) (b.t, b.r))
theorem cmpM_swo : SWO (ltOf cmpM) where
  irrefl x := cmpN_swo.irrefl _
  trans x y z h1 h2 := cmpN_swo.trans _ _ _ h1 h2
  ntrans x y z h1 h2 := cmpN_swo.ntrans _ _ _ h1 h2
instance (a b : Hl) : Decidable (hlL a b) := by unfold hlL; infer_instance
theorem cmpL_lt (a b : Hl) : ltOf cmpHl a b = decide (hlL a b) := by
  have hN := cmpN_lt (a.t, a.r) (b.t, b.r)
  unfold ltOf at hN
  have q : (cmpN (a.t, a.r) (b.t, b.r) < 0) ↔ nlt (a.t, a.r) (b.t, b.r) := by simpa using hN
  unfold ltOf cmpHl
  rw [decide_eq_decide]
  unfold hlL
  rcases Int.lt_trichotomy a.x b.x with h | h | h
  · rw [cP_lt _ _ h]
    exact ⟨fun _ => .inl h, fun _ => show (-1 : Int) < 0 by decide⟩
  · rw [h, cP_eq]
    show cmpN (a.t, a.r) (b.t, b.r) < 0 ↔ _
    rw [q]
    exact ⟨fun e => .inr ⟨rfl, e⟩, fun e => e.elim (fun e => absurd e (Int.lt_irrefl _)) (fun e => e.2)⟩
  · rw [cP_gt _ _ h]
    exact ⟨fun e => absurd e (show ¬ (1 : Int) < 0 by decide), fun e => e.elim (fun e => by omega) (fun e => by omega)⟩
theorem cmpL_swo : SWO (ltOf cmpHl) where
  irrefl x := by rw [cmpL_lt]; simpa using hlt_irr x
  trans x y z h1 h2 := by rw [cmpL_lt] at *; simp only [decide_eq_true_eq] at *; exact hlt_tr h1 h2
  ntrans x y z h1 h2 := by
    rw [cmpL_lt] at *
    simp only [decide_eq_false_iff_not] at *
    unfold hlL nlt at *
    simp only at *
    omega
/-- Heads in order, no two of one name. -/
theorem srtM_of {l : List Hm} (hp : l.Pairwise fun a b => ltOf cmpM b a = false) (hn : ApartN (l.map Hm.h)) : SrtH (l.map Hm.h) := by
  unfold ApartN at hn
  unfold SrtH
  rw [List.pairwise_map] at hn ⊢
  refine (hp.and hn).imp fun {a b} h => ?_
  obtain ⟨h1, h2⟩ := h
  have h3 : ltOf cmpN (nmH b.h) (nmH a.h) = false := h1
  rw [cmpN_lt] at h3
  rcases nlt_tot (nmH a.h) (nmH b.h) with q | q | q
  · exact q
  · exact absurd q h2
  · simp [q] at h3
theorem apart_perm {a b : List Hq} (h : ApartN a) (p : a.Perm b) : ApartN b := (p.pairwise_iff (fun {x y} (e : nmH x ≠ nmH y) => e.symm)).1 h
/-- The snapshot: all heads, sorted. -/
theorem snap_of {hss : List (List Hq)} (h : ApartN hss.flatten) {l l' : List Hm} (e : l.map Hm.h = hss.flatten) (p : l'.Perm l) (hp : l'.Pairwise fun a b => ltOf cmpM b a = false) : l'.map Hm.h = snapT hss := by
  have p2 : (l'.map Hm.h).Perm hss.flatten := by rw [← e]; exact p.map _
  exact snap_eq h (srtM_of hp (apart_perm h p2.symm)) p2
/-- What is held, in order, each once. -/
theorem srtL_of {l : List Hl} (hp : l.Pairwise fun a b => ltOf cmpHl b a = false) (hn : l.Pairwise fun a b => ¬ (a.x = b.x ∧ a.t = b.t ∧ a.r = b.r)) : l.Pairwise hlL := by
  refine (hp.and hn).imp fun {a b} h => ?_
  obtain ⟨h1, h2⟩ := h
  rw [cmpL_lt] at h1
  have h3 : ¬ hlL b a := by simpa using h1
  unfold hlL nlt at *
  simp only at *
  omega
theorem ent_part {s : List Hq} (h : SrtH s) (ok : ∀ h ∈ s, Ok h.W h.q) : (entT s).Pairwise fun a b => ¬ (a.x = b.x ∧ a.t = b.t ∧ a.r = b.r) := by
  unfold entT
  rw [List.pairwise_flatMap]
  refine ⟨fun a ha => ?_, h.imp fun {a b} q u hu v hv e => ?_⟩
  · rw [List.pairwise_map]
    refine List.Pairwise.filter _ ?_
    exact (ok a ha).pr.imp fun {x y} q e => q.txn e.1
  · obtain ⟨_, _, rfl⟩ := List.mem_map.1 hu
    obtain ⟨_, _, rfl⟩ := List.mem_map.1 hv
    have h1 := e.2.1
    have h2 := e.2.2
    unfold nlt nmH at q
    simp only at h1 h2 q
    omega
theorem part_symm {a b : Hl} (h : ¬ (a.x = b.x ∧ a.t = b.t ∧ a.r = b.r)) : ¬ (b.x = a.x ∧ b.t = a.t ∧ b.r = a.r) := fun e => h ⟨e.1.symm, e.2.1.symm, e.2.2.symm⟩
theorem ent_permT {a b : List Hq} (p : a.Perm b) : (entT a).Perm (entT b) := p.flatMap_right _
/-- Holds: those of one transaction. -/
theorem hds_mem {s : List Hq} (ok : ∀ h ∈ s, Ok h.W h.q) {txn : Int} {e : Hl} : e ∈ hdsT s txn ↔ e ∈ entT s ∧ e.x = txn := by
  unfold entT hdsT
  simp only [List.mem_flatMap, List.mem_map, List.mem_filter, Bool.not_eq_true', beq_eq_false_iff_ne]
  constructor
  · rintro ⟨h, ⟨hh, hm⟩, rfl⟩
    obtain ⟨r, hr, h1, h2⟩ := mdT_some hm
    exact ⟨⟨h, hh, r, ⟨hr, by rw [h2]; exact hm⟩, by rw [h1, h2]⟩, rfl⟩
  · rintro ⟨⟨h, hh, r, ⟨hr, hm⟩, rfl⟩, rfl⟩
    have e := mdT_of (ok h hh) hr
    exact ⟨h, ⟨hh, by rw [e]; exact hm⟩, by rw [e]⟩
theorem hds_perm {s : List Hq} (h : SrtH s) (ok : ∀ h ∈ s, Ok h.W h.q) (txn : Int) : (hdsT s txn).Perm ((entT s).filter fun e => e.x == txn) :=
  (List.perm_ext_iff_of_nodup ((hds_srt h txn).imp fun {a b} q e => by subst e; exact hlt_irr _ q) ((ent_nodup h ok).filter _)).2 fun e => by
    rw [hds_mem ok, List.mem_filter, beq_iff_eq]
theorem hds_of {s u : List Hq} (h : SrtH s) (ok : ∀ h ∈ s, Ok h.W h.q) (p : u.Perm s) (txn : Int) {l : List Hl} (pl : l.Perm ((entT u).filter fun e => e.x == txn)) (hp : l.Pairwise fun a b => ltOf cmpHl b a = false) : l = hdsT s txn := by
  have p2 : l.Perm ((entT s).filter fun e => e.x == txn) := pl.trans ((ent_permT p).filter _)
  have hsrt := srtL_of hp ((p2.pairwise_iff (fun {a b} q => part_symm q)).2 ((ent_part h ok).filter _))
  exact List.Perm.eq_of_pairwise (le := hlL) (fun x y _ _ h1 h2 => absurd (hlt_tr h1 h2) (hlt_irr _)) hsrt (hds_srt h txn) (p2.trans (hds_perm h ok txn).symm)
/-- Which requests are told. -/
def entF (f : Rq → Bool) (s : List Hq) : List Hl := s.flatMap fun h => (h.q.filter fun r => !(r.md == 0) && f r).map fun r => ⟨r.txn, h.t, h.r, r.md⟩
theorem entF_all (s : List Hq) : entF (fun _ => true) s = entT s := by unfold entF entT; simp
theorem entF_txn (s : List Hq) (txn : Int) : entF (fun r => r.txn == txn) s = (entT s).filter fun e => e.x == txn := by
  unfold entF entT
  rw [List.filter_flatMap]
  congr 1
  funext h
  rw [List.filter_map, List.filter_filter]
  congr 1
  refine List.filter_congr fun r _ => ?_
  simp [Bool.and_comm]
end Go.Proofs.YtpffldfpabglbaaGreatDoor
end

/- The document's own bucket: end (a head behind a call is scanned, and removed if it is empty). -/
section
namespace Go.Proofs.YtpffldfpabglbaaGreatDoor
open Go.RowKit
set_option linter.unusedVariables false      -- a contract need not use every name

end Go.Proofs.YtpffldfpabglbaaGreatDoor
end

/- The document's own pool. -/
section
namespace Go.Proofs.YtpffldfpabglbaaGreatDoor
open Go.RowKit
set_option linter.unusedVariables false

/-- The document's own pool in memory: a row of truths. -/
structure Rp (W : World) (o g : Nat) (L : List Bool) : Prop where
  p0 : W.cell? ⟨o, 0, none⟩ = some (.slice (some ⟨g, 0, none⟩) L.length L.length)
  cs : ∀ i, i < L.length → W.cell? ⟨g, i, none⟩ = some (.bool (L.getD i false)) ∧ W.frozen? ⟨g, i, none⟩ = false
  ol : o < W.heap.size
  gl : g < W.heap.size
  og : g ≠ o
  sz : L.length ≤ 128
theorem Rp.tch {S : Nat → Prop} {W W' : World} {o g : Nat} {L : List Bool} (h : Rp W o g L) (k : Tch S W W') (ho : ¬ S o) (hg : ¬ S g) : Rp W' o g L :=
  ⟨(k.cell h.ol ho).trans h.p0, fun i hi => ⟨(k.cell h.gl hg).trans (h.cs i hi).1, (k.froz h.gl hg).trans (h.cs i hi).2⟩, Nat.lt_of_lt_of_le h.ol k.size, Nat.lt_of_lt_of_le h.gl k.size, h.og, h.sz⟩
theorem Rp.nw {W W' : World} {o g : Nat} {L : List Bool} (h : Rp W o g L) (k : Nw W W') : Rp W' o g L := h.tch (Tch.nw (S := fun _ => False) k) (fun e => e) (fun e => e)
def RpTo (W : World) (o g : Nat) (L : List Bool) (W' : World) : Prop := Rp W' o g L ∧ Tch (fun k => k = g) W W'
theorem Rp.keep {W : World} {o g : Nat} {L : List Bool} (h : Rp W o g L) : RpTo W o g L W := ⟨h, Tch.refl _ W⟩
theorem Rp.put {W : World} {o g : Nat} {L : List Bool} (h : Rp W o g L) {i : Nat} (b : Bool) (hi : i < L.length) : RpTo W o g (L.set i b) (W.setCell ⟨g, i, none⟩ (.bool b)) := by
  have t := setCell_at W ⟨g, i, none⟩ (.bool b)
  refine ⟨⟨by rw [List.length_set]; exact (t.cell h.ol (fun e => h.og e.symm)).trans h.p0, fun j hj => ?_, by simpa using h.ol, by simpa using h.gl, h.og, by rw [List.length_set]; exact h.sz⟩, t⟩
  rw [List.length_set] at hj
  refine ⟨?_, by rw [World.frozen?_setCell]; exact (h.cs j hj).2⟩
  by_cases q : i = j
  · subst q
    rw [getD_at (by simpa using hj), List.getElem_set_self]
    exact World.cell?_setCell_same _ _ _ (h.cs _ hj).1
  · rw [getD_at (by simpa using hj), List.getElem_set_ne q, ← getD_at hj]
    exact (World.cell?_setCell_other _ _ _ _ (fun r => q (congrArg Addr.off r))).trans (h.cs j hj).1

end Go.Proofs.YtpffldfpabglbaaGreatDoor
end

/- The document's own bucket: Leave. -/
section
namespace Go.Proofs.YtpffldfpabglbaaGreatDoor
open Go.RowKit
set_option linter.unusedVariables false      -- a contract need not use every name

end Go.Proofs.YtpffldfpabglbaaGreatDoor
end

/- The document's own pool: Each, Live. -/
section
namespace Go.Proofs.YtpffldfpabglbaaGreatDoor
open Go.RowKit
set_option linter.unusedVariables false

end Go.Proofs.YtpffldfpabglbaaGreatDoor
end
