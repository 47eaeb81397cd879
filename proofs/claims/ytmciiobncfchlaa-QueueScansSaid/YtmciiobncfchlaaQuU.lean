
/- The document's own queue: Scan. -/
import Derived.Test.YtmciiobncfchlaaQuQ
import Derived.Test.YtmciiobncfchlaaInts
namespace Go.Proofs.Ytmciiobncfchlaa
open Go.RowKit
set_option linter.unusedVariables false      -- a contract need not use every name

def lenV : Value → Nat
  | .slice _ n _ => n
  | _ => 0
theorem is_len {w : World} {v : Value} {l : List Int} (h : IS w v l) : lenV v = l.length := by
  rcases h.form with ⟨rfl, rfl⟩ | ⟨g, cap, rfl⟩ <;> rfl
/-- Between two grants. -/
structure ScI (w : World) (t r W : Int) (a1 : Option Addr) (n1 k1 : Nat) (g0 pb rb : Nat) (q : List Rq) (u : Value) (ids : List Int) (q' : List Rq) (x : World) : Prop where
  isr : IS x u ids
  new : ∀ g, u.ownBlock = some g → w.heap.size ≤ g
  own : RqOwn x g0 (.slice a1 n1 k1) q'
  len : q'.length = n1
  st : Steps q ids q'
  pb : x.heap[pb]? = some (.cells #[.int .i64 t, .int .i64 r, .slice a1 n1 k1, .int .i64 W] 27 (0, 0))
  rb : x.heap[rb]? = some (.cells #[.int .i64 0, .int .i64 0, .slice none 0 0, .int .i64 0] 27 (0, 0))
  nw : Nw w x
theorem ScI.nx {w : World} {t r W : Int} {a1 : Option Addr} {n1 k1 g0 pb rb : Nat} {q : List Rq} {u : Value} {ids : List Int} {q' : List Rq} {x y : World} (h : ScI w t r W a1 n1 k1 g0 pb rb q u ids q' x) (g : Nw x y) : ScI w t r W a1 n1 k1 g0 pb rb q u ids q' y :=
  ⟨h.isr.nw g, h.new, onw h.own g, h.len, h.st, g.at' h.pb, g.at' h.rb, h.nw.trans g⟩
theorem not_fit {q : List Rq} {m : Int} {W : Int} (h : Ok W q) {k : Nat} (hk : k < q.length) (hf : ¬ fitI q m (k : Int)) : ∃ o ∈ q, o.id ≠ q[k].id ∧ o.md ≠ 0 ∧ cpI o.md m = false := by
  refine Classical.byContradiction fun hn => hf fun j hj ne hm => ?_
  cases e : cpI q[j].md m with
  | true => rfl
  | false => exact absurd ⟨q[j], List.getElem_mem hj, id_ne h hj hk (by omega), hm, e⟩ hn
theorem is_fit {q : List Rq} {m : Int} {k : Nat} (hk : k < q.length) (hf : fitI q m (k : Int)) : ∀ o ∈ q, o.id ≠ q[k].id → o.md ≠ 0 → cpI o.md m = true := by
  intro o ho ne hm
  obtain ⟨j, hj, rfl⟩ := List.getElem_of_mem ho
  exact hf j hj (fun e => ne (by have : j = k := by omega
                                 subst this; rfl)) hm
theorem heap_st {w : World} {B : Nat} {o : Option Obj} {p : Addr} (h : w.heap[B]? = o) (hp : p.block ≠ B) (u : Value) : (w.setCell p u).heap[B]? = o := by
  rw [← h]
  exact Below.heap_setCell _ _ _ _ (by first | exact hp | exact hp.symm)
theorem own_st' {w : World} {g0 e size n : Nat} {v : Value} {xs : List Value} {p : Addr} (h : w.ownsRow g0 e size v n xs) (hp : ∀ g, v.ownBlock = some g → g ≠ p.block) (u : Value) : (w.setCell p u).ownsRow g0 e size v n xs :=
  okeep h (sgrown w p u) (fun g hg q => hp g hg (Option.some.inj q).symm)
theorem is_ne {w : World} {u : Value} {l : List Int} {B : Nat} {c : Array Value} {T : TypeId} {fr : Nat × Nat} (h : IS w u l) (hb : w.heap[B]? = some (.cells c T fr)) (hT : T ≠ 3) : ∀ g, u.ownBlock = some g → g ≠ B := by
  rintro g hg rfl
  obtain ⟨c', hc⟩ := oheap h hg
  rw [hb] at hc
  injection hc with hc
  injection hc with _ e _
  exact hT e
theorem ScI.grt {w : World} {t r W : Int} {g n1 k1 g0 pb rb i j : Nat} {q : List Rq} {u a b : Value} {ids : List Int} {q' : List Rq} {x : World} (h : ScI w t r W (some ⟨g, 0, none⟩) n1 k1 g0 pb rb q u ids q' x) (hu : ∀ g', u.ownBlock = some g' → g' ≠ g) (hp : g ≠ pb) (hr : g ≠ rb) (hw : w.heap.size ≤ g) :
    IS ((x.drew.setCell ⟨g, i, none⟩ a).setCell ⟨g, j, none⟩ b) u ids ∧ ((x.drew.setCell ⟨g, i, none⟩ a).setCell ⟨g, j, none⟩ b).heap[pb]? = some (.cells #[.int .i64 t, .int .i64 r, .slice (some ⟨g, 0, none⟩) n1 k1, .int .i64 W] 27 (0, 0)) ∧
      ((x.drew.setCell ⟨g, i, none⟩ a).setCell ⟨g, j, none⟩ b).heap[rb]? = some (.cells #[.int .i64 0, .int .i64 0, .slice none 0 0, .int .i64 0] 27 (0, 0)) ∧ Nw w ((x.drew.setCell ⟨g, i, none⟩ a).setCell ⟨g, j, none⟩ b) :=
  ⟨own_st' (own_st' (h.isr.nw (Nw.refl _).dr) (p := ⟨g, i, none⟩) hu a) (p := ⟨g, j, none⟩) hu b, heap_st (heap_st (w := x.drew) h.pb (p := ⟨g, i, none⟩) hp a) (p := ⟨g, j, none⟩) hp b, heap_st (heap_st (w := x.drew) h.rb (p := ⟨g, i, none⟩) hr a) (p := ⟨g, j, none⟩) hr b,
    (h.nw.dr.st (p := ⟨g, i, none⟩) hw a).st (p := ⟨g, j, none⟩) hw b⟩
theorem own_tch {w w' : World} {g0 e size n : Nat} {u v : Value} {xs : List Value} (ho : w.ownsRow g0 e size v n xs) (hg : Tch (fun k => u.ownBlock = some k) w w') (hne : ∀ g, v.ownBlock = some g → u.ownBlock ≠ some g) : w'.ownsRow g0 e size v n xs :=
  okeep ho (row := u.ownBlock) ⟨hg.os, hg.tape, hg.output, hg.size, fun k hk hn => hg.block k hk (fun e => hn e.symm)⟩ hne
theorem ScI.push {w : World} {t r W : Int} {g n1 k1 g0 pb rb : Nat} {q : List Rq} {u u' : Value} {ids : List Int} {c : Int} {q' : List Rq} {y y1 : World} (hi : IS y u ids) (hn : ∀ g, u.ownBlock = some g → w.heap.size ≤ g) (ho : RqOwn y g0 (.slice (some ⟨g, 0, none⟩) n1 k1) q') (hl : q'.length = n1) (st : Steps q (ids ++ [c]) q')
    (hp : y.heap[pb]? = some (.cells #[.int .i64 t, .int .i64 r, .slice (some ⟨g, 0, none⟩) n1 k1, .int .i64 W] 27 (0, 0))) (hr : y.heap[rb]? = some (.cells #[.int .i64 0, .int .i64 0, .slice none 0 0, .int .i64 0] 27 (0, 0))) (nw : Nw w y)
    (i1 : IS y1 u' (ids ++ [c])) (tch : Tch (fun k => u.ownBlock = some k) y y1) (hb : ∀ k, u'.ownBlock = some k → u.ownBlock = some k ∨ y.heap.size ≤ k) (hug : ∀ g', u.ownBlock = some g' → g' ≠ g) : ScI w t r W (some ⟨g, 0, none⟩) n1 k1 g0 pb rb q u' (ids ++ [c]) q' y1 :=
  ⟨i1, fun k e => (hb k e).elim (hn k) (fun q => Nat.le_trans nw.sz q), own_tch ho tch (fun g2 e e2 => hug g2 e2 (Option.some.inj e).symm), hl, st, (tch.block pb (hlt hp) (fun e => is_ne hi hp (by decide) pb e rfl)).trans hp, (tch.block rb (hlt hr) (fun e => is_ne hi hr (by decide) rb e rfl)).trans hr, nw_tch nw tch hn⟩
theorem fill_is {a : World} {rb : Nat} {v : Value} {l : List Int} (h : IS a v l) (hb : ∀ g, v.ownBlock = some g → g ≠ rb) (u0 u1 u2 u3 : Value) : IS ((((a.setCell ⟨rb, 0, none⟩ u0).setCell ⟨rb, 1, none⟩ u1).setCell ⟨rb, 2, none⟩ u2).setCell ⟨rb, 3, none⟩ u3) v l :=
  own_st' (own_st' (own_st' (own_st' h (p := ⟨rb, 0, none⟩) hb u0) (p := ⟨rb, 1, none⟩) hb u1) (p := ⟨rb, 2, none⟩) hb u2) (p := ⟨rb, 3, none⟩) hb u3
set_option maxRecDepth 100000 in
set_option maxHeartbeats 16000000 in
theorem r9scan (t r W : Int) (v : Value) (q : List Rq) (w : World) (hl : q.length ≤ 1000) (hok : Ok W q) (h : RqAt w v q) :
    Calls Try.prog 28 #[hdV t r v W] w fun e w' => ∃ v' vi, e = .returned (.tuple #[hdV t r v' W, vi]) ∧ Nw w w' ∧ RqAt w' v' (scanQ q).2 ∧ capOk v' ∧ IS w' vi (scanQ q).1 := by
  have HOk := Lib.hid hok
  clear hok
  have HCp := Lib.hid (fun (w1 : World) (g : Nw w w1) => r9copied t r W v q w1 hl (h.nw g))
  unfold hdV at HCp
  unfold hdV
  obtain ⟨a, c, rfl, h⟩ := h
  clear h
  have HX := Lib.hid (two_boxes w (.cells #[.int .i64 t, .int .i64 r, .slice a q.length c, .int .i64 W] 27) (.cells #[.int .i64 0, .int .i64 0, .slice none 0 0, .int .i64 0] 27))
  go_enter Try.func28, Try.ntmps28
  go_wp2_with fail
  refine (HCp.out _ HX.out.2.2.1).mono ?_
  rintro e w1 ⟨v1, rfl, g1, hO⟩
  rw [HX.out.2.2.2] at hO
  obtain ⟨a1, k1, hv1⟩ := (RqOwn.rd hO).form
  subst hv1
  have hq1 := g1.at' HX.out.2.1
  have hN1 := HX.out.2.2.1.trans g1
  have hal := allocAt w1 (.cells #[.int .i64 t, .int .i64 r, .slice a1 q.length k1, .int .i64 W] 27)
  have hNa : Nw w1 (w1.alloc (.cells #[.int .i64 t, .int .i64 r, .slice a1 q.length k1, .int .i64 W] 27)) := (Nw.refl w1).alloc _
  have hs1 := g1.sz
  rw [HX.out.2.2.2] at hs1
  obtain ⟨pb, hpb⟩ : ∃ pb, w1.heap.size = pb := ⟨_, rfl⟩
  rw [hpb] at hal
  have hne : ∀ g, (Value.slice a1 q.length k1).ownBlock = some g → g ≠ pb := fun g hg e => by have := olt hO hg; omega
  have hI : ScI w t r W a1 q.length k1 (w.heap.size + 1 + 1) pb (w.heap.size + 1) q (.slice none 0 0) [] q (w1.alloc (.cells #[.int .i64 t, .int .i64 r, .slice a1 q.length k1, .int .i64 W] 27)) := ⟨IS.nil _, fun g hg => by simp [Value.ownBlock] at hg, onw hO hNa, rfl, .refl, hal, hNa.at' hq1, hN1.trans hNa⟩
  have HPn := Lib.hid (And.intro hne (show w.heap.size + 1 + 1 ≤ pb by omega))
  have HPb := Lib.hid hpb
  clear hne hpb hs1 g1 hq1 hN1 hal hNa hO HX HCp
  go_wp2
  rw [HPb.out]
  clear HPb
  generalize w1.alloc (.cells #[.int .i64 t, .int .i64 r, .slice a1 q.length k1, .int .i64 W] 27) = z at *
  clear w1
  go_loopw [5] (fun u wr => ∃ ids q', ScI w t r W a1 q.length k1 (w.heap.size + 1 + 1) pb (w.heap.size + 1) q u ids q' wr) (fun u _ => wtg q - lenV u)
  case atStart => exact ⟨[], q, hI⟩
  case round =>
    clear hI
    obtain ⟨ids, q2, hS⟩ := hrel
    have hok2 := hS.st.ok HOk.out
    have hl2 : q2.length ≤ 1000 := by rw [hS.len]; exact hl
    have hal := hS.pb
    have p0 := hcell (j := 0) hal
    have p1 := hcell (j := 1) hal
    have p2 := hcell (j := 2) hal
    have p3 := hcell (j := 3) hal
    have hpl := hlt hal
    have HU := Lib.hid (r9upgrading t r W (.slice a1 q.length k1) q2 wr hl2 hS.own.rd)
    have HWa := Lib.hid (fun (w1 : World) (g : Nw wr w1) => r9waiting t r W (.slice a1 q.length k1) q2 w1 hl2 (hS.own.rd.nw g))
    have HF := Lib.hid (fun (mm but : Int) (w1 : World) (g : Nw wr w1) => r9fits t r W mm but (.slice a1 q.length k1) q2 w1 hl2 (hS.own.rd.nw g))
    unfold hdV at HU HWa HF
    have HS := Lib.hid hS
    have HO2 := Lib.hid hok2
    have hul := is_len hS.isr
    have hwt := hS.st.wtg HOk.out
    have HM := Lib.hid (And.intro hul hwt)
    clear hS hok2 hal hul hwt
    go_wp2_with fail
    refine HU.out.mono ?_
    rintro e w5 ⟨j, rfl, g5, hj⟩
    have HG5 := Lib.hid g5
    have hal5 := g5.at' HS.out.pb
    clear p0 p1 p2 p3 hpl g5
    have p0 := hcell (j := 0) hal5
    have p1 := hcell (j := 1) hal5
    have p2 := hcell (j := 2) hal5
    have p3 := hcell (j := 3) hal5
    have hpl := hlt hal5
    clear hal5
    rcases hj with ⟨rfl, hno⟩ | ⟨k, rfl, _, hk, hu, hmin⟩
    rotate_left
    · skip
      have hmin2 := fun a ha u => hmin a (by rw [List.take_length]; exact ha) u
      have HYes := Lib.hid (fun hf => cand_up HO2.out (List.getElem_mem hk) hu hmin2 hf)
      have HNo := Lib.hid (fun hf => done_up HO2.out (List.getElem_mem hk) hu hmin2 hf)
      clear hmin hmin2 hu HU HWa
      have hSz := HS.out.nx HG5.out
      rcases oform hSz.own with ⟨e, _⟩ | ⟨g, cap, e⟩
      · exfalso; have := hSz.len; simp only [Value.slice.injEq] at e; omega
      simp only [Value.slice.injEq] at e
      obtain ⟨rfl, e2, rfl⟩ := e
      clear e2
      have hnl := hSz.len
      have hki : (k : Int) < (q.length : Int) := by omega
      have hk0 : decide ((k : Int) < 0) = false := by simp
      have HCl := Lib.hid (fun (x : World) (gx : Nw w5 x) => own_cell (onw hSz.own gx) hnl.symm k hk)
      have HFi := Lib.hid (fun (f : ¬ fitI q2 q2[k].wt (k : Int)) => not_fit HO2.out hk f)
      have HFy := Lib.hid (fun (f : fitI q2 q2[k].wt (k : Int)) => is_fit hk f)
      have HSz := Lib.hid hSz
      have HUp := Lib.hid (fun (x : World) (h : RqOwn x (w.heap.size + 1 + 1) (.slice (some ⟨g, 0, none⟩) q.length k1) q2) => own_upd (own_upd h hnl.symm k hk 2 (by decide) (.int .i64 q2[k].wt) ⟨q2[k].id, q2[k].txn, q2[k].wt, q2[k].wt, q2[k].sn⟩ rfl) (by rw [List.length_set]; exact hnl.symm) k (by rw [List.length_set]; exact hk) 4 (by decide) (.int .i64 0) (grtR q2[k]) (by rw [List.getElem_set_self]; rfl))
      simp only [List.set_set] at HUp
      have HSt := Lib.hid (fun hc => HS.out.st.snoc (List.getElem_mem hk) hc)
      have HCh := Lib.hid (chg_set HO2.out grtR k hk)
      have HHk := Lib.hid hk
      generalize q2[k] = R at *
      obtain ⟨b0, b1, b2, b3, b4⟩ := R
      have hal := hSz.pb
      clear hSz hk p0 p1 p2 p3 hpl
      go_wp2_with fail
      obtain ⟨S, hSe⟩ : ∃ S, S = Nw w5 := ⟨_, rfl⟩
      have hS0 : Hs S w5.drew := by subst hSe; exact (Nw.refl _).dr
      have t0 : ∀ x, Hs S x → x.cell? ⟨pb, 0, none⟩ = some (.int .i64 t) := fun x h => by subst hSe; exact Nw.kp h (hcell hal)
      have t1 : ∀ x, Hs S x → x.cell? ⟨pb, 1, none⟩ = some (.int .i64 r) := fun x h => by subst hSe; exact Nw.kp h (hcell hal)
      have t2 : ∀ x, Hs S x → x.cell? ⟨pb, 2, none⟩ = some (.slice (some ⟨g, 0, none⟩) q.length k1) := fun x h => by subst hSe; exact Nw.kp h (hcell hal)
      have t3 : ∀ x, Hs S x → x.cell? ⟨pb, 3, none⟩ = some (.int .i64 W) := fun x h => by subst hSe; exact Nw.kp h (hcell hal)
      have t4 : ∀ x, Hs S x → x.cell? ⟨g, k * 5 + 3, none⟩ = some (.int .i64 b3) := fun x h => by subst hSe; exact HCl.out x h 3 _ rfl
      have HN := Lib.hid (show ∀ a b, Hs S a → Nw a b → Hs S b from fun a b h g => by subst hSe; exact Nw.trans h g)
      have HV := Lib.hid (show ∀ a, Hs S a → Nw w5 a from fun a h => by subst hSe; exact h)
      clear hSe hal
      refine region_plan (.take (.take (.take (.take (.take (.take (.take (.take (.take (.take (.take (.off (.go1 (.take (.take .fin))))))))))))))) (Hs S) (by kernel_rfl) (by kernel_rfl) (by kernel_rfl) hS0 ?_
      iterate 11 (refine HP.take' ?_; (first | (refine ⟨undef, Or.inr ⟨by rfl, rfl⟩, ?_⟩) | (apply Exists.intro; refine ⟨Or.inl ⟨by rfl, ?_⟩, ?_⟩; (intro x hx'; go_simp; first | done | with_reducible rfl))); (try simp only [Act.put, List.setIfInBounds_toArray, List.set_cons_zero, List.set_cons_succ]))
      refine HP.off ?_
      refine HP.go1 (fun KK hKK => ?_)
      go_simp
      refine (HF.out b3 (k : Int) _ ((HG5.out).trans (HV.out _ hS0))).mono ?_
      rintro e y1 ⟨f, rfl, gf, hff⟩
      have hS1 := HN.out _ _ hS0 gf
      refine hKK.out _ _ hS1 ?_
      intro _
      clear hKK KK
      (try simp only [Act.put, List.setIfInBounds_toArray, List.set_cons_zero, List.set_cons_succ])
      cases f
      · iterate 2 (refine HP.take' ?_; (first | (refine ⟨undef, Or.inr ⟨by rfl, rfl⟩, ?_⟩) | (apply Exists.intro; refine ⟨Or.inl ⟨by rfl, ?_⟩, ?_⟩; (intro x hx'; go_simp; first | done | with_reducible rfl))); (try simp only [Act.put, List.setIfInBounds_toArray, List.set_cons_zero, List.set_cons_succ]))
        refine HP.end_ ?_
        refine NoPanic.normal ?_
        have HD := Lib.hid (HNo.out (HFi.out (fun e => by have := hff.2 e; cases this)))
        have HY1 := Lib.hid ((HG5.out).trans (HV.out _ hS1))
        clear hff hS0 hS1 t0 t1 t2 t3 t4 HN HV gf HSt HCh HUp HCl HFi HFy HSz
        have hsc := (HS.out.st.scan HOk.out HD.out)
        have hSn := HS.out.nx HY1.out
        have hq := hSn.rb
        have hal := hSn.pb
        have p0 := hcell (j := 0) hal
        have p1 := hcell (j := 1) hal
        have p2 := hcell (j := 2) hal
        have p3 := hcell (j := 3) hal
        have d0 := hcell (j := 0) hq
        have d1 := hcell (j := 1) hq
        have d2 := hcell (j := 2) hq
        have d3 := hcell (j := 3) hq
        have fz := fun k => hfz (j := k) hq
        have hpl := hlt hal
        have HSn := Lib.hid hSn
        have HSc := Lib.hid hsc
        have HNe := Lib.hid (is_ne hSn.isr hq (by decide))
        obtain ⟨ua, uc, hu5, _⟩ := hSn.isr.box
        obtain ⟨ul, hul⟩ : ∃ n, ids.length = n := ⟨_, rfl⟩
        rw [hul] at hu5
        subst hu5
        clear hsc hSn hq hal hul HD HYes HNo HF HM HO2
        go_wp2
        refine bodyPost_ret (v := .tuple #[.agg #[.int .i64 t, .int .i64 r, .slice (some ⟨g, 0, none⟩) q.length k1, .int .i64 W], .slice ua ul uc]) (by simp [results, Try.results28, go_sem, *]) rfl ⟨_, _, rfl, fill_nw HSn.out.nw (Nat.le_succ _) _ _ _ _, ?_, ?_, ?_⟩
        · rw [HSc.out]; exact RqOwn.rd (fill_own HSn.out.own (by omega) _ _ _ _)
        · exact RqOwn.cap HSn.out.own
        · rw [HSc.out]; exact fill_is HSn.out.isr HNe.out _ _ _ _
      · iterate 2 (refine HP.take' ?_; (first | (refine ⟨undef, Or.inr ⟨by rfl, rfl⟩, ?_⟩) | (apply Exists.intro; refine ⟨Or.inl ⟨by rfl, ?_⟩, ?_⟩; (intro x hx'; go_simp; first | done | with_reducible rfl))); (try simp only [Act.put, List.setIfInBounds_toArray, List.set_cons_zero, List.set_cons_succ]))
        refine HP.end_ ?_
        refine NoPanic.normal ?_
        have HD := Lib.hid (HYes.out (HFy.out (hff.1 rfl)))
        have HY1 := Lib.hid (HV.out _ hS1)
        clear hff hS0 hS1 t0 t1 t2 t3 t4 HN HV gf HFi HFy HYes HNo HF
        have hy := HSz.out.nx HY1.out
        have hg1 := oge hy.own (g := g) rfl
        obtain ⟨cr, hcr⟩ := oheap hy.own (g := g) rfl
        have HIg := Lib.hid (is_ne hy.isr hcr (by decide))
        clear hcr
        have hpg : g ≠ pb := HPn.out.1 g rfl
        have hpc : ∀ j, y1.cell? ⟨pb, j, none⟩ = _ := fun j => hcell (j := j) hy.pb
        have p2 := hpc 2
        have r2 := HCl.out _ HY1.out 2 _ rfl
        have r3 := HCl.out _ HY1.out 3 _ rfl
        have r4 := HCl.out _ HY1.out 4 _ rfl
        have rz := own_frz hy.own (by exact hy.len.symm)
        have HU := Lib.hid (HUp.out _ (onw hy.own (Nw.refl _).dr))
        have HY := Lib.hid hy
        have HG := Lib.hid (And.intro hg1 hpg)
        have n3 : ¬ (pb = g) := fun e => hpg e.symm
        have n4 : ¬ (g = pb) := hpg
        clear hpc hy HCl HUp HSz hg1 hpg
        go_wp2_with fail
        obtain ⟨y0, hy0⟩ : ∃ y0, y1.drew = y0 := ⟨_, rfl⟩
        obtain ⟨S, hSe⟩ : ∃ S : World → Prop, S = fun x => x = y0 ∨ x = y0.setCell ⟨g, k * 5 + 2, none⟩ (.int .i64 b3) ∨ x = (y0.setCell ⟨g, k * 5 + 2, none⟩ (.int .i64 b3)).setCell ⟨g, k * 5 + 4, none⟩ (.int .i64 0) := ⟨_, rfl⟩
        have s2 : y0.cell? ⟨pb, 2, none⟩ = some (.slice (some ⟨g, 0, none⟩) q.length k1) := by subst hy0; exact p2
        have s4 : y0.cell? ⟨g, k * 5 + 2, none⟩ = some (.int .i64 b2) := by subst hy0; exact r2
        have s5 : y0.cell? ⟨g, k * 5 + 3, none⟩ = some (.int .i64 b3) := by subst hy0; exact r3
        have s6 : y0.cell? ⟨g, k * 5 + 4, none⟩ = some (.int .i64 b4) := by subst hy0; exact r4
        have s7 : ∀ j, y0.frozen? ⟨g, j, none⟩ = false := by subst hy0; exact rz
        have t2 : ∀ x, Hs S x → x.cell? ⟨pb, 2, none⟩ = some (.slice (some ⟨g, 0, none⟩) q.length k1) := fun x h => by subst hSe; rcases h with rfl | rfl | rfl <;> simp [go_sem, s2]
        have t4 : ∀ x, Hs S x → x.cell? ⟨g, k * 5 + 3, none⟩ = some (.int .i64 b3) := fun x h => by subst hSe; rcases h with rfl | rfl | rfl <;> simp [go_sem, s5]
        have hS0 : Hs S y1.drew := by rw [hy0, hSe]; exact .inl rfl
        have hS1 : Hs S (y0.setCell ⟨g, k * 5 + 2, none⟩ (.int .i64 b3)) := by rw [hSe]; exact .inr (.inl rfl)
        have hS2 : Hs S ((y0.setCell ⟨g, k * 5 + 2, none⟩ (.int .i64 b3)).setCell ⟨g, k * 5 + 4, none⟩ (.int .i64 0)) := by rw [hSe]; exact .inr (.inr rfl)
        clear hSe
        refine region_plan (.take (.take (.take (.take (.take (.take (.take (.take (.take (.take (.take (.take (.take (.take (.off (.go1 (.take (.take (.off (.go1 .fin)))))))))))))))))))) (Hs S) (by kernel_rfl) (by kernel_rfl) (by kernel_rfl) hS0 ?_
        rw [hy0]
        iterate 14 (refine HP.take' ?_; (first | (refine ⟨undef, Or.inr ⟨by rfl, rfl⟩, ?_⟩) | (apply Exists.intro; refine ⟨Or.inl ⟨by rfl, ?_⟩, ?_⟩; (intro x hx'; go_simp; first | done | with_reducible rfl))); (try simp only [Act.put, List.setIfInBounds_toArray, List.set_cons_zero, List.set_cons_succ]))
        refine HP.off ?_
        refine HP.go1 (fun KK hKK => ?_)
        go_simp
        refine hKK.out _ _ hS1 ?_
        intro _
        clear hKK KK
        (try simp only [Act.put, List.setIfInBounds_toArray, List.set_cons_zero, List.set_cons_succ])
        iterate 2 (refine HP.take' ?_; (first | (refine ⟨undef, Or.inr ⟨by rfl, rfl⟩, ?_⟩) | (apply Exists.intro; refine ⟨Or.inl ⟨by rfl, ?_⟩, ?_⟩; (intro x hx'; go_simp; first | done | with_reducible rfl))); (try simp only [Act.put, List.setIfInBounds_toArray, List.set_cons_zero, List.set_cons_succ]))
        refine HP.off ?_
        refine HP.go1 (fun KK hKK => ?_)
        go_simp
        refine hKK.out _ _ hS2 ?_
        intro _
        clear hKK KK
        (try simp only [Act.put, List.setIfInBounds_toArray, List.set_cons_zero, List.set_cons_succ])
        refine HP.end_ ?_
        refine NoPanic.normal ?_
        subst hy0
        clear hS0 hS1 hS2 t2 t4 s2 s4 s5 s6 s7 p2 r2 r3 r4 rz n3 n4
        have hgg := HG.out.1
        have hgr := HY.out.grt (i := k * 5 + 2) (j := k * 5 + 4) (a := .int .i64 b3) (b := .int .i64 0) HIg.out HG.out.2 (by omega) (by omega)
        have hcl := own_cell HU.out (by rw [List.length_set]; exact hnl.symm) k (by rw [List.length_set]; exact HHk.out) 0 (.int .i64 b0) (by rw [List.getElem_set_self]; rfl)
        simp only [Nat.add_zero] at hcl
        generalize (y1.drew.setCell ⟨g, k * 5 + 2, none⟩ (.int .i64 b3)).setCell ⟨g, k * 5 + 4, none⟩ (.int .i64 0) = y at *
        have p2 : y.cell? ⟨pb, 2, none⟩ = some (.slice (some ⟨g, 0, none⟩) q.length k1) := hcell hgr.2.1
        have hSt := HSt.out HD.out
        rw [HCh.out] at hSt
        have hw := hSt.wtg HOk.out
        rw [List.length_append] at hw
        simp only [List.length_singleton] at hw
        have hwl : wtg q ≤ q.length := List.countP_le_length
        obtain ⟨ao, co, hu5, _⟩ := hgr.1.box
        subst hu5
        obtain ⟨v3, y3, hrun, q1, qt, qb, g3, cap3, hv3⟩ := IS.push y _ ids b0 hgr.1 (by omega)
        subst hv3
        have hS3 := ScI.push hgr.1 HY.out.new HU.out (by rw [List.length_set]; exact hnl) hSt hgr.2.1 hgr.2.2.1 hgr.2.2.2 q1 qt qb HIg.out
        have HS3 := Lib.hid hS3
        have HR2 := Lib.hid hrun
        have HW := Lib.hid (And.intro HM.out.1 hw)
        clear hS3 hrun hw hwl hSt hgr q1 qt qb hgg HY HIg HG HU HD HSt HCh HM
        go_wp2_with (at_builtin; (refine wpl_app (by rfl) (.tmp 47) (.tmp 54) 36 rfl _ _ _ _ rfl rfl HR2.out ?_))
        go_roundw
        case rel => exact ⟨_, _, HS3.out⟩
        case measure => have := HW.out.1; have := HW.out.2; simp [lenV]; omega
    have hno2 := fun a ha => hno a (by rw [List.take_length]; exact ha)
    go_wp2_with fail
    refine (HWa.out _ HG5.out).mono ?_
    rintro e w6 ⟨jw, rfl, g6, hjw⟩
    have HG6 := Lib.hid (HG5.out.trans g6)
    have hal6 := HG6.out.at' HS.out.pb
    clear p0 p1 p2 p3 hpl g6
    have p0 := hcell (j := 0) hal6
    have p1 := hcell (j := 1) hal6
    have p2 := hcell (j := 2) hal6
    have p3 := hcell (j := 3) hal6
    have hpl := hlt hal6
    clear hal6
    rcases hjw with ⟨rfl, hz⟩ | ⟨k, rfl, hk, hz, hfi⟩
    rotate_left
    · skip
      have HYes := Lib.hid (fun hf => cand_wa HO2.out hk hz hfi hno2 hf)
      have HNo := Lib.hid (fun hf => done_wa HO2.out hk hz hfi hno2 hf)
      clear hno hno2 hz hfi HU HWa
      have hSz := HS.out.nx HG6.out
      rcases oform hSz.own with ⟨e, _⟩ | ⟨g, cap, e⟩
      · exfalso; have := hSz.len; simp only [Value.slice.injEq] at e; omega
      simp only [Value.slice.injEq] at e
      obtain ⟨rfl, e2, rfl⟩ := e
      clear e2
      have hnl := hSz.len
      have hki : (k : Int) < (q.length : Int) := by omega
      have hk0 : decide ((k : Int) < 0) = false := by simp
      have HCl := Lib.hid (fun (x : World) (gx : Nw w6 x) => own_cell (onw hSz.own gx) hnl.symm k hk)
      have HFi := Lib.hid (fun (f : ¬ fitI q2 q2[k].wt (k : Int)) => not_fit HO2.out hk f)
      have HFy := Lib.hid (fun (f : fitI q2 q2[k].wt (k : Int)) => is_fit hk f)
      have HSz := Lib.hid hSz
      have HUp := Lib.hid (fun (x : World) (h : RqOwn x (w.heap.size + 1 + 1) (.slice (some ⟨g, 0, none⟩) q.length k1) q2) => own_upd (own_upd h hnl.symm k hk 2 (by decide) (.int .i64 q2[k].wt) ⟨q2[k].id, q2[k].txn, q2[k].wt, q2[k].wt, q2[k].sn⟩ rfl) (by rw [List.length_set]; exact hnl.symm) k (by rw [List.length_set]; exact hk) 4 (by decide) (.int .i64 0) (grtR q2[k]) (by rw [List.getElem_set_self]; rfl))
      simp only [List.set_set] at HUp
      have HSt := Lib.hid (fun hc => HS.out.st.snoc (List.getElem_mem hk) hc)
      have HCh := Lib.hid (chg_set HO2.out grtR k hk)
      have HHk := Lib.hid hk
      generalize q2[k] = R at *
      obtain ⟨b0, b1, b2, b3, b4⟩ := R
      have hal := hSz.pb
      clear hSz hk p0 p1 p2 p3 hpl
      go_wp2_with fail
      obtain ⟨S, hSe⟩ : ∃ S, S = Nw w6 := ⟨_, rfl⟩
      have hS0 : Hs S w6.drew := by subst hSe; exact (Nw.refl _).dr
      have t0 : ∀ x, Hs S x → x.cell? ⟨pb, 0, none⟩ = some (.int .i64 t) := fun x h => by subst hSe; exact Nw.kp h (hcell hal)
      have t1 : ∀ x, Hs S x → x.cell? ⟨pb, 1, none⟩ = some (.int .i64 r) := fun x h => by subst hSe; exact Nw.kp h (hcell hal)
      have t2 : ∀ x, Hs S x → x.cell? ⟨pb, 2, none⟩ = some (.slice (some ⟨g, 0, none⟩) q.length k1) := fun x h => by subst hSe; exact Nw.kp h (hcell hal)
      have t3 : ∀ x, Hs S x → x.cell? ⟨pb, 3, none⟩ = some (.int .i64 W) := fun x h => by subst hSe; exact Nw.kp h (hcell hal)
      have t4 : ∀ x, Hs S x → x.cell? ⟨g, k * 5 + 3, none⟩ = some (.int .i64 b3) := fun x h => by subst hSe; exact HCl.out x h 3 _ rfl
      have HN := Lib.hid (show ∀ a b, Hs S a → Nw a b → Hs S b from fun a b h g => by subst hSe; exact Nw.trans h g)
      have HV := Lib.hid (show ∀ a, Hs S a → Nw w6 a from fun a h => by subst hSe; exact h)
      clear hSe hal
      refine region_plan (.take (.take (.take (.take (.take (.take (.take (.take (.take (.take (.take (.off (.go1 (.take (.take .fin))))))))))))))) (Hs S) (by kernel_rfl) (by kernel_rfl) (by kernel_rfl) hS0 ?_
      iterate 11 (refine HP.take' ?_; (first | (refine ⟨undef, Or.inr ⟨by rfl, rfl⟩, ?_⟩) | (apply Exists.intro; refine ⟨Or.inl ⟨by rfl, ?_⟩, ?_⟩; (intro x hx'; go_simp; first | done | with_reducible rfl))); (try simp only [Act.put, List.setIfInBounds_toArray, List.set_cons_zero, List.set_cons_succ]))
      refine HP.off ?_
      refine HP.go1 (fun KK hKK => ?_)
      go_simp
      refine (HF.out b3 (k : Int) _ ((HG6.out).trans (HV.out _ hS0))).mono ?_
      rintro e y1 ⟨f, rfl, gf, hff⟩
      have hS1 := HN.out _ _ hS0 gf
      refine hKK.out _ _ hS1 ?_
      intro _
      clear hKK KK
      (try simp only [Act.put, List.setIfInBounds_toArray, List.set_cons_zero, List.set_cons_succ])
      cases f
      · iterate 2 (refine HP.take' ?_; (first | (refine ⟨undef, Or.inr ⟨by rfl, rfl⟩, ?_⟩) | (apply Exists.intro; refine ⟨Or.inl ⟨by rfl, ?_⟩, ?_⟩; (intro x hx'; go_simp; first | done | with_reducible rfl))); (try simp only [Act.put, List.setIfInBounds_toArray, List.set_cons_zero, List.set_cons_succ]))
        refine HP.end_ ?_
        refine NoPanic.normal ?_
        have HD := Lib.hid (HNo.out (HFi.out (fun e => by have := hff.2 e; cases this)))
        have HY1 := Lib.hid ((HG6.out).trans (HV.out _ hS1))
        clear hff hS0 hS1 t0 t1 t2 t3 t4 HN HV gf HSt HCh HUp HCl HFi HFy HSz
        have hsc := (HS.out.st.scan HOk.out HD.out)
        have hSn := HS.out.nx HY1.out
        have hq := hSn.rb
        have hal := hSn.pb
        have p0 := hcell (j := 0) hal
        have p1 := hcell (j := 1) hal
        have p2 := hcell (j := 2) hal
        have p3 := hcell (j := 3) hal
        have d0 := hcell (j := 0) hq
        have d1 := hcell (j := 1) hq
        have d2 := hcell (j := 2) hq
        have d3 := hcell (j := 3) hq
        have fz := fun k => hfz (j := k) hq
        have hpl := hlt hal
        have HSn := Lib.hid hSn
        have HSc := Lib.hid hsc
        have HNe := Lib.hid (is_ne hSn.isr hq (by decide))
        obtain ⟨ua, uc, hu5, _⟩ := hSn.isr.box
        obtain ⟨ul, hul⟩ : ∃ n, ids.length = n := ⟨_, rfl⟩
        rw [hul] at hu5
        subst hu5
        clear hsc hSn hq hal hul HD HYes HNo HF HM HO2
        go_wp2
        refine bodyPost_ret (v := .tuple #[.agg #[.int .i64 t, .int .i64 r, .slice (some ⟨g, 0, none⟩) q.length k1, .int .i64 W], .slice ua ul uc]) (by simp [results, Try.results28, go_sem, *]) rfl ⟨_, _, rfl, fill_nw HSn.out.nw (Nat.le_succ _) _ _ _ _, ?_, ?_, ?_⟩
        · rw [HSc.out]; exact RqOwn.rd (fill_own HSn.out.own (by omega) _ _ _ _)
        · exact RqOwn.cap HSn.out.own
        · rw [HSc.out]; exact fill_is HSn.out.isr HNe.out _ _ _ _
      · iterate 2 (refine HP.take' ?_; (first | (refine ⟨undef, Or.inr ⟨by rfl, rfl⟩, ?_⟩) | (apply Exists.intro; refine ⟨Or.inl ⟨by rfl, ?_⟩, ?_⟩; (intro x hx'; go_simp; first | done | with_reducible rfl))); (try simp only [Act.put, List.setIfInBounds_toArray, List.set_cons_zero, List.set_cons_succ]))
        refine HP.end_ ?_
        refine NoPanic.normal ?_
        have HD := Lib.hid (HYes.out (HFy.out (hff.1 rfl)))
        have HY1 := Lib.hid (HV.out _ hS1)
        clear hff hS0 hS1 t0 t1 t2 t3 t4 HN HV gf HFi HFy HYes HNo HF
        have hy := HSz.out.nx HY1.out
        have hg1 := oge hy.own (g := g) rfl
        obtain ⟨cr, hcr⟩ := oheap hy.own (g := g) rfl
        have HIg := Lib.hid (is_ne hy.isr hcr (by decide))
        clear hcr
        have hpg : g ≠ pb := HPn.out.1 g rfl
        have hpc : ∀ j, y1.cell? ⟨pb, j, none⟩ = _ := fun j => hcell (j := j) hy.pb
        have p2 := hpc 2
        have r2 := HCl.out _ HY1.out 2 _ rfl
        have r3 := HCl.out _ HY1.out 3 _ rfl
        have r4 := HCl.out _ HY1.out 4 _ rfl
        have rz := own_frz hy.own (by exact hy.len.symm)
        have HU := Lib.hid (HUp.out _ (onw hy.own (Nw.refl _).dr))
        have HY := Lib.hid hy
        have HG := Lib.hid (And.intro hg1 hpg)
        have n3 : ¬ (pb = g) := fun e => hpg e.symm
        have n4 : ¬ (g = pb) := hpg
        clear hpc hy HCl HUp HSz hg1 hpg
        go_wp2_with fail
        obtain ⟨y0, hy0⟩ : ∃ y0, y1.drew = y0 := ⟨_, rfl⟩
        obtain ⟨S, hSe⟩ : ∃ S : World → Prop, S = fun x => x = y0 ∨ x = y0.setCell ⟨g, k * 5 + 2, none⟩ (.int .i64 b3) ∨ x = (y0.setCell ⟨g, k * 5 + 2, none⟩ (.int .i64 b3)).setCell ⟨g, k * 5 + 4, none⟩ (.int .i64 0) := ⟨_, rfl⟩
        have s2 : y0.cell? ⟨pb, 2, none⟩ = some (.slice (some ⟨g, 0, none⟩) q.length k1) := by subst hy0; exact p2
        have s4 : y0.cell? ⟨g, k * 5 + 2, none⟩ = some (.int .i64 b2) := by subst hy0; exact r2
        have s5 : y0.cell? ⟨g, k * 5 + 3, none⟩ = some (.int .i64 b3) := by subst hy0; exact r3
        have s6 : y0.cell? ⟨g, k * 5 + 4, none⟩ = some (.int .i64 b4) := by subst hy0; exact r4
        have s7 : ∀ j, y0.frozen? ⟨g, j, none⟩ = false := by subst hy0; exact rz
        have t2 : ∀ x, Hs S x → x.cell? ⟨pb, 2, none⟩ = some (.slice (some ⟨g, 0, none⟩) q.length k1) := fun x h => by subst hSe; rcases h with rfl | rfl | rfl <;> simp [go_sem, s2]
        have t4 : ∀ x, Hs S x → x.cell? ⟨g, k * 5 + 3, none⟩ = some (.int .i64 b3) := fun x h => by subst hSe; rcases h with rfl | rfl | rfl <;> simp [go_sem, s5]
        have hS0 : Hs S y1.drew := by rw [hy0, hSe]; exact .inl rfl
        have hS1 : Hs S (y0.setCell ⟨g, k * 5 + 2, none⟩ (.int .i64 b3)) := by rw [hSe]; exact .inr (.inl rfl)
        have hS2 : Hs S ((y0.setCell ⟨g, k * 5 + 2, none⟩ (.int .i64 b3)).setCell ⟨g, k * 5 + 4, none⟩ (.int .i64 0)) := by rw [hSe]; exact .inr (.inr rfl)
        clear hSe
        refine region_plan (.take (.take (.take (.take (.take (.take (.take (.take (.take (.take (.take (.take (.take (.take (.off (.go1 (.take (.take (.off (.go1 .fin)))))))))))))))))))) (Hs S) (by kernel_rfl) (by kernel_rfl) (by kernel_rfl) hS0 ?_
        rw [hy0]
        iterate 14 (refine HP.take' ?_; (first | (refine ⟨undef, Or.inr ⟨by rfl, rfl⟩, ?_⟩) | (apply Exists.intro; refine ⟨Or.inl ⟨by rfl, ?_⟩, ?_⟩; (intro x hx'; go_simp; first | done | with_reducible rfl))); (try simp only [Act.put, List.setIfInBounds_toArray, List.set_cons_zero, List.set_cons_succ]))
        refine HP.off ?_
        refine HP.go1 (fun KK hKK => ?_)
        go_simp
        refine hKK.out _ _ hS1 ?_
        intro _
        clear hKK KK
        (try simp only [Act.put, List.setIfInBounds_toArray, List.set_cons_zero, List.set_cons_succ])
        iterate 2 (refine HP.take' ?_; (first | (refine ⟨undef, Or.inr ⟨by rfl, rfl⟩, ?_⟩) | (apply Exists.intro; refine ⟨Or.inl ⟨by rfl, ?_⟩, ?_⟩; (intro x hx'; go_simp; first | done | with_reducible rfl))); (try simp only [Act.put, List.setIfInBounds_toArray, List.set_cons_zero, List.set_cons_succ]))
        refine HP.off ?_
        refine HP.go1 (fun KK hKK => ?_)
        go_simp
        refine hKK.out _ _ hS2 ?_
        intro _
        clear hKK KK
        (try simp only [Act.put, List.setIfInBounds_toArray, List.set_cons_zero, List.set_cons_succ])
        refine HP.end_ ?_
        refine NoPanic.normal ?_
        subst hy0
        clear hS0 hS1 hS2 t2 t4 s2 s4 s5 s6 s7 p2 r2 r3 r4 rz n3 n4
        have hgg := HG.out.1
        have hgr := HY.out.grt (i := k * 5 + 2) (j := k * 5 + 4) (a := .int .i64 b3) (b := .int .i64 0) HIg.out HG.out.2 (by omega) (by omega)
        have hcl := own_cell HU.out (by rw [List.length_set]; exact hnl.symm) k (by rw [List.length_set]; exact HHk.out) 0 (.int .i64 b0) (by rw [List.getElem_set_self]; rfl)
        simp only [Nat.add_zero] at hcl
        generalize (y1.drew.setCell ⟨g, k * 5 + 2, none⟩ (.int .i64 b3)).setCell ⟨g, k * 5 + 4, none⟩ (.int .i64 0) = y at *
        have p2 : y.cell? ⟨pb, 2, none⟩ = some (.slice (some ⟨g, 0, none⟩) q.length k1) := hcell hgr.2.1
        have hSt := HSt.out HD.out
        rw [HCh.out] at hSt
        have hw := hSt.wtg HOk.out
        rw [List.length_append] at hw
        simp only [List.length_singleton] at hw
        have hwl : wtg q ≤ q.length := List.countP_le_length
        obtain ⟨ao, co, hu5, _⟩ := hgr.1.box
        subst hu5
        obtain ⟨v3, y3, hrun, q1, qt, qb, g3, cap3, hv3⟩ := IS.push y _ ids b0 hgr.1 (by omega)
        subst hv3
        have hS3 := ScI.push hgr.1 HY.out.new HU.out (by rw [List.length_set]; exact hnl) hSt hgr.2.1 hgr.2.2.1 hgr.2.2.2 q1 qt qb HIg.out
        have HS3 := Lib.hid hS3
        have HR2 := Lib.hid hrun
        have HW := Lib.hid (And.intro HM.out.1 hw)
        clear hS3 hrun hw hwl hSt hgr q1 qt qb hgg HY HIg HG HU HD HSt HCh HM
        go_wp2_with (at_builtin; (refine wpl_app (by rfl) (.tmp 47) (.tmp 54) 36 rfl _ _ _ _ rfl rfl HR2.out ?_))
        go_roundw
        case rel => exact ⟨_, _, HS3.out⟩
        case measure => have := HW.out.1; have := HW.out.2; simp [lenV]; omega
    have HD := Lib.hid (done_none hno2 hz)
    clear hz hno hno2 HU HWa
    go_wp2_with fail
    obtain ⟨S, hSe⟩ : ∃ S, S = Nw w6 := ⟨_, rfl⟩
    have hS0 : Hs S w6.drew := by subst hSe; exact (Nw.refl _).dr
    have HV := Lib.hid (show ∀ a, Hs S a → Nw w6 a from fun a h => by subst hSe; exact h)
    clear hSe
    refine region_plan (.take (.take (.take (.take (.take (.take (.take (.take (.take (.take (.take (.off (.go1 (.take (.take .fin))))))))))))))) (Hs S) (by kernel_rfl) (by kernel_rfl) (by kernel_rfl) hS0 ?_
    iterate 11 (refine HP.take' ?_; (first | (refine ⟨undef, Or.inr ⟨by rfl, rfl⟩, ?_⟩) | (apply Exists.intro; refine ⟨Or.inl ⟨by rfl, ?_⟩, ?_⟩; (intro x hx'; go_simp; first | done | with_reducible rfl))); (try simp only [Act.put, List.setIfInBounds_toArray, List.set_cons_zero, List.set_cons_succ]))
    refine HP.off ?_
    refine HP.go1 (fun KK hKK => ?_)
    go_simp
    refine hKK.out _ _ hS0 ?_
    intro _
    clear hKK KK
    (try simp only [Act.put, List.setIfInBounds_toArray, List.set_cons_zero, List.set_cons_succ])
    iterate 2 (refine HP.take' ?_; (first | (refine ⟨undef, Or.inr ⟨by rfl, rfl⟩, ?_⟩) | (apply Exists.intro; refine ⟨Or.inl ⟨by rfl, ?_⟩, ?_⟩; (intro x hx'; go_simp; first | done | with_reducible rfl))); (try simp only [Act.put, List.setIfInBounds_toArray, List.set_cons_zero, List.set_cons_succ]))
    refine HP.end_ ?_
    refine NoPanic.normal ?_
    have HY1 := Lib.hid HG6.out.dr
    clear hS0 HV HG6 HG5 p0 p1 p2 p3 hpl
    generalize w6.drew = y1 at *
    have hsc := (HS.out.st.scan HOk.out HD.out)
    have hSn := HS.out.nx HY1.out
    have hq := hSn.rb
    have hal := hSn.pb
    have p0 := hcell (j := 0) hal
    have p1 := hcell (j := 1) hal
    have p2 := hcell (j := 2) hal
    have p3 := hcell (j := 3) hal
    have d0 := hcell (j := 0) hq
    have d1 := hcell (j := 1) hq
    have d2 := hcell (j := 2) hq
    have d3 := hcell (j := 3) hq
    have fz := fun k => hfz (j := k) hq
    have hpl := hlt hal
    have HSn := Lib.hid hSn
    have HSc := Lib.hid hsc
    have HNe := Lib.hid (is_ne hSn.isr hq (by decide))
    obtain ⟨ua, uc, hu5, _⟩ := hSn.isr.box
    obtain ⟨ul, hul⟩ : ∃ n, ids.length = n := ⟨_, rfl⟩
    rw [hul] at hu5
    subst hu5
    clear hsc hSn hq hal hul HD HF HM HO2
    go_wp2
    refine bodyPost_ret (v := .tuple #[.agg #[.int .i64 t, .int .i64 r, .slice a1 q.length k1, .int .i64 W], .slice ua ul uc]) (by simp [results, Try.results28, go_sem, *]) rfl ⟨_, _, rfl, fill_nw HSn.out.nw (Nat.le_succ _) _ _ _ _, ?_, ?_, ?_⟩
    · rw [HSc.out]; exact RqOwn.rd (fill_own HSn.out.own (by omega) _ _ _ _)
    · exact RqOwn.cap HSn.out.own
    · rw [HSc.out]; exact fill_is HSn.out.isr HNe.out _ _ _ _
end Go.Proofs.Ytmciiobncfchlaa
