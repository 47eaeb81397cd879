/- Texts merged: BkY, BkZ, BkZK, BkZL, BkZM -/
import Derived.Test.YtodnlelnpidliaaGreatBucketScriptB28
import Derived.Deep.CutRange

/- The document's own bucket: end (a head behind a call is scanned, and removed if it is empty). -/
section
namespace Go.Proofs.YtodnlelnpidliaaGreat
open Go.RowKit
set_option linter.unusedVariables false      -- a contract need not use every name

theorem hown_pre {w : World} {g0 g n cap : Nat} {l : List Hm} (h : HmOwn w g0 (.slice (some ⟨g, 0, none⟩) n cap) l) (hn : n = l.length) {i : Nat} (hi : i ≤ n) : HmOwn w g0 (.slice (some ⟨g, 0, none⟩) i cap) (l.take i) := by
  subst hn
  have := own_pre h hi
  unfold HmOwn Own
  rw [List.length_take, Nat.min_eq_left hi, ← rows_take (sz := 4) (row := hmrow) elemHm.len i l hi]
  exact this
theorem hpart_at {w : World} {b c k : Nat} {l : List Hm} (h : RdC 4 hmrow w b 0 l) (hk : k ≤ l.length) (hc : l.length ≤ c) :
    ∀ j u, (rowsOf hmrow (l.drop k))[j]? = some u → w.cell? ((if c = k then (⟨b, 0, none⟩ : Addr) else ⟨b, k * 4, none⟩).add j) = some u := by
  by_cases e : c = k
  · intro j u hu
    have : l.drop k = [] := List.drop_eq_nil_of_le (by omega)
    rw [this] at hu
    simp [rowsOf] at hu
  · rw [if_neg e]
    have hp := h.part k (l.length - k)
    rw [List.take_of_length_le (by simp), Nat.zero_add] at hp
    exact hp.flat elemHm.len (by decide)
theorem hown_rdc {w : World} {g0 g cap : Nat} {l : List Hm} (h : HmOwn w g0 (.slice (some ⟨g, 0, none⟩) l.length cap) l) : RdC 4 hmrow w g 0 l := by
  have hrd := Own.rd elemHm.len h
  obtain ⟨a, c, e, ⟨e2, e3⟩ | ⟨b, o', e2, hc⟩⟩ := hrd
  · subst e2
    exact ⟨olt h rfl, fun i hi => by simp at hi⟩
  · subst e2
    cases e
    exact hc
/-- Four cells of a box are stored. -/
theorem box_put {w : World} {B : Nat} {T : TypeId} {fr : Nat × Nat} {a0 a1 a2 a3 : Value} (h : w.heap[B]? = some (.cells #[a0, a1, a2, a3] T fr)) (u0 u1 u2 u3 : Value) :
    ((((w.setCell ⟨B, 0, none⟩ u0).setCell ⟨B, 1, none⟩ u1).setCell ⟨B, 2, none⟩ u2).setCell ⟨B, 3, none⟩ u3).heap[B]? = some (.cells #[u0, u1, u2, u3] T fr) := by
  have := hset (j := 3) u3 (hset (j := 2) u2 (hset (j := 1) u1 (hset (j := 0) u0 h)))
  simpa using this
theorem box_tch (w : World) (B : Nat) (u0 u1 u2 u3 : Value) : Tch (fun b => b = B) w ((((w.setCell ⟨B, 0, none⟩ u0).setCell ⟨B, 1, none⟩ u1).setCell ⟨B, 2, none⟩ u2).setCell ⟨B, 3, none⟩ u3) :=
  ((((Tch.refl (fun b => b = B) w).set (p := ⟨B, 0, none⟩) (.inl rfl) _).set (p := ⟨B, 1, none⟩) (.inl rfl) _).set (p := ⟨B, 2, none⟩) (.inl rfl) _).set (p := ⟨B, 3, none⟩) (.inl rfl) _
set_option maxRecDepth 20000 in
set_option maxHeartbeats 1000000 in
theorem rb_end {w : World} {o po : Nat} {most : Int} {v : Value} {l : List Hm} (h : Rb w o po most v l) (s : SrtH (hsOf l)) {k : Nat} (hk : k < l.length) (X : Hm) (hX : HmOk w o v.ownBlock X) (hnm : nmH X.h = nmH l[k].h) (hok : Ok X.h.W X.h.q) (pg : Nat) :
    Calls Tryz.prog 77 #[.pointer (some ⟨o, 0, none⟩), .int .i64 k, .agg #[.int .i64 X.h.t, .int .i64 X.h.r, .slice X.a X.h.q.length X.c, .int .i64 X.h.W]] w fun e w' => ∃ vi, e = .returned vi ∧ IS w' vi (scanQ X.h.q).1 ∧ ∃ v' l', hsOf l' = endS (hsOf l) X.h ∧ RbTo w o po pg most v l w' v' l' := by
  obtain ⟨a, c, rfl, hf⟩ := h.form
  rcases hf with ⟨_, e, _⟩ | ⟨g, rfl, hog, hgl⟩
  · subst e; simp at hk
  have HXx := Lib.hid hX
  obtain ⟨⟨Xt, Xr, XW, q⟩, qa, qc⟩ := X
  simp only at hok ⊢
  have H := Lib.hid h
  have HS := Lib.hid s
  have HO := Lib.hid hok
  have HNm := Lib.hid hnm
  have hol := h.ol
  have hl1 := h.len
  have hki : (k : Int) < (l.length : Int) := by omega
  have hal := allocAt w (.cells #[.int .i64 Xt, .int .i64 Xr, .slice qa q.length qc, .int .i64 XW] 56)
  have hN : Nw w (w.alloc (.cells #[.int .i64 Xt, .int .i64 Xr, .slice qa q.length qc, .int .i64 XW] 56)) := (Nw.refl w).alloc _
  have HC := Lib.hid (fun w2 (g2 : Nw w w2) => r9scanN Xt Xr XW (.slice qa q.length qc) q w2 hX.len hok (hX.rd.nw g2))
  have hlq : q.length ≤ 1000 := hX.len
  have hsl : (scanQ q).2.length = q.length := scan_len hok
  have hso : Ok XW (scanQ q).2 := scan_ok hok
  clear h s hok hX hnm
  unfold hdV at HC
  go_enter Tryz.func77, Tryz.ntmps77
  go_wp2_with fail
  generalize hz : w.alloc (.cells #[.int .i64 Xt, .int .i64 Xr, .slice qa q.length qc, .int .i64 XW] 56) = z at *
  clear hz
  obtain ⟨pb, hpb⟩ : ∃ pb, w.heap.size = pb := ⟨_, rfl⟩
  rw [hpb] at hal
  try rw [hpb]
  refine (HC.out _ hN).mono ?_
  rintro e w1 ⟨v1, vi, rfl, g1, hrd, ⟨hcap, hnew⟩, his, hin⟩
  obtain ⟨a2, n2, hv1⟩ := hrd.form
  rw [hsl] at hv1
  subst hv1
  have HSl := Lib.hid hsl
  have hal1 := g1.at' hal
  have HN1 := Lib.hid (hN.trans g1)
  have hzp : pb < z.heap.size := hlt hal
  have hpl := hlt hal1
  have HW := Lib.hid (H.out.nw HN1.out)
  have hgp : ¬ (pb = g) := by omega
  have hgp2 : ¬ (g = pb) := by omega
  have hop : ¬ (pb = o) := by omega
  have hop2 : ¬ (o = pb) := by omega
  have p0 : w1.cell? ⟨pb, 0, none⟩ = some (.int .i64 Xt) := hcell hal1
  have p1 : w1.cell? ⟨pb, 1, none⟩ = some (.int .i64 Xr) := hcell hal1
  have p2 : w1.cell? ⟨pb, 2, none⟩ = some (.slice qa q.length qc) := hcell hal1
  have p3 : w1.cell? ⟨pb, 3, none⟩ = some (.int .i64 XW) := hcell hal1
  have pz := fun j => hfz (j := j) hal1
  have hb2 := box_put hal1 (.int .i64 Xt) (.int .i64 Xr) (.slice a2 q.length n2) (.int .i64 XW)
  have ht2 := box_tch w1 pb (.int .i64 Xt) (.int .i64 Xr) (.slice a2 q.length n2) (.int .i64 XW)
  simp only
  clear hsl
  go_wp2_with fail
  generalize ((((w1.setCell ⟨pb, 0, none⟩ (.int .i64 Xt)).setCell ⟨pb, 1, none⟩ (.int .i64 Xr)).setCell ⟨pb, 2, none⟩ (.slice a2 q.length n2)).setCell ⟨pb, 3, none⟩ (.int .i64 XW)) = y2 at *
  have hNy : Nw w y2 := nw_tch HN1.out ht2 (fun i e => by omega)
  have hrd2 : RqAt y2 (.slice a2 q.length n2) (scanQ q).2 := rq_tch hrd ht2 (fun a n c e e2 => by have := hnew a n c e; omega)
  have his2 : IS y2 vi (scanQ q).1 := own_tchS his ht2 (fun g hg e => by have := hin g hg; omega)
  have hin2 : ∀ g', vi.ownBlock = some g' → pb < g' := fun g' hg => Nat.lt_of_lt_of_le hzp (hin g' hg)
  have hnew2 : newV w.heap.size (.slice a2 q.length n2) := fun a n c e => by have := hnew a n c e; omega
  have hlb := hlt hb2
  have hb2' := hb2
  clear p0 p1 p2 p3 pz
  have p0 : y2.cell? ⟨pb, 0, none⟩ = some (.int .i64 Xt) := hcell hb2
  have p1 : y2.cell? ⟨pb, 1, none⟩ = some (.int .i64 Xr) := hcell hb2
  have p2 : y2.cell? ⟨pb, 2, none⟩ = some (.slice a2 q.length n2) := hcell hb2
  have p3 : y2.cell? ⟨pb, 3, none⟩ = some (.int .i64 XW) := hcell hb2
  have HV := Lib.hid (H.out.nw hNy)
  have hgl2 : g < y2.heap.size := Nat.lt_of_lt_of_le hgl hNy.sz
  have hol2 := HV.out.ol
  have c2 := HV.out.c2
  obtain ⟨f0, f1, f2, f3⟩ := HV.out.at_ k hk
  have fz : ∀ j, y2.frozen? ⟨g, j, none⟩ = false := fun j => World.ownsRow.frozenAt HV.out.own j
  have HQ := Lib.hid (H.out.put_to hNy pg k hk ⟨⟨Xt, Xr, XW, (scanQ q).2⟩, a2, n2⟩ (H.out.got hNy ⟨Xt, Xr, XW, (scanQ q).2⟩ (by rw [HSl.out]; exact hrd2) (by rw [HSl.out]; exact hcap) (by rw [HSl.out]; exact hnew2) (by show (scanQ q).2.length ≤ 1000; rw [HSl.out]; exact hlq)) (by unfold hmV; rw [HSl.out]; exact hnew2))
  have hput := put_set HS.out hk (x := ⟨⟨Xt, Xr, XW, (scanQ q).2⟩, a2, n2⟩) HNm.out
  have HI := Lib.hid (And.intro his2 hin2)
  simp only [HSl.out] at HQ
  clear hb2 ht2 his hin hcap hnew hrd hrd2 hnew2 his2 hin2 hal hal1 hN HC g1
  by_cases hq : q.length = 0
  · have hE : endS (hsOf l) ⟨Xt, Xr, XW, q⟩ = hsOf (l.take k ++ l.drop (k + 1)) := by
      unfold endS
      rw [if_pos (show (scH ⟨Xt, Xr, XW, q⟩).q = [] from List.length_eq_zero_iff.1 (HSl.out.trans hq)), show nmH (⟨Xt, Xr, XW, q⟩ : Hq) = nmH l[k].h from HNm.out]
      exact del_set HS.out hk
    have HE := Lib.hid hE
    have hqd : ((q.length : Int) == 0) = true := by simpa using hq
    have ht3 : Tch (fun b => b = g) y2 ((((y2.setCell ⟨g, k * 4, none⟩ (.int .i64 Xt)).setCell ⟨g, k * 4 + 1, none⟩ (.int .i64 Xr)).setCell ⟨g, k * 4 + 2, none⟩ (.slice a2 q.length n2)).setCell ⟨g, k * 4 + 3, none⟩ (.int .i64 XW)) := ((((Tch.refl (fun b => b = g) y2).set (p := ⟨g, k * 4, none⟩) (.inl rfl) _).set (p := ⟨g, k * 4 + 1, none⟩) (.inl rfl) _).set (p := ⟨g, k * 4 + 2, none⟩) (.inl rfl) _).set (p := ⟨g, k * 4 + 3, none⟩) (.inl rfl) _
    have hb3 := (ht3.block pb hlb hgp).trans hb2'
    have his3 := own_tchS HI.out.1 ht3 (fun g' hg e => by have := HI.out.2 g' hg; omega)
    have HQ0 := Lib.hid hq
    clear hE hput hq
    have ng1 : ¬ (g = o) := by omega
    obtain ⟨y0, hy0⟩ : ∃ y0, y2.drew = y0 := ⟨_, rfl⟩
    obtain ⟨S, hSe⟩ : ∃ S : World → Prop, S = fun x => x = y0 ∨ x = ((((y0.setCell ⟨g, k * 4, none⟩ (.int .i64 Xt)).setCell ⟨g, k * 4 + 1, none⟩ (.int .i64 Xr)).setCell ⟨g, k * 4 + 2, none⟩ (.slice a2 q.length n2)).setCell ⟨g, k * 4 + 3, none⟩ (.int .i64 XW)) := ⟨_, rfl⟩
    have s0 : y0.cell? ⟨o, 2, none⟩ = some (.slice (some ⟨g, 0, none⟩) l.length c) := by subst hy0; exact c2
    have t0 : ∀ x, Hs S x → x.cell? ⟨o, 2, none⟩ = some (.slice (some ⟨g, 0, none⟩) l.length c) := fun x h => by subst hSe; rcases h with rfl | rfl <;> simp [go_sem, s0]
    have s1 : y0.cell? ⟨pb, 0, none⟩ = some (.int .i64 Xt) := by subst hy0; exact p0
    have t1 : ∀ x, Hs S x → x.cell? ⟨pb, 0, none⟩ = some (.int .i64 Xt) := fun x h => by subst hSe; rcases h with rfl | rfl <;> simp [go_sem, s1]
    have s2 : y0.cell? ⟨pb, 1, none⟩ = some (.int .i64 Xr) := by subst hy0; exact p1
    have t2 : ∀ x, Hs S x → x.cell? ⟨pb, 1, none⟩ = some (.int .i64 Xr) := fun x h => by subst hSe; rcases h with rfl | rfl <;> simp [go_sem, s2]
    have s3 : y0.cell? ⟨pb, 2, none⟩ = some (.slice a2 q.length n2) := by subst hy0; exact p2
    have t3 : ∀ x, Hs S x → x.cell? ⟨pb, 2, none⟩ = some (.slice a2 q.length n2) := fun x h => by subst hSe; rcases h with rfl | rfl <;> simp [go_sem, s3]
    have s4 : y0.cell? ⟨pb, 3, none⟩ = some (.int .i64 XW) := by subst hy0; exact p3
    have t4 : ∀ x, Hs S x → x.cell? ⟨pb, 3, none⟩ = some (.int .i64 XW) := fun x h => by subst hSe; rcases h with rfl | rfl <;> simp [go_sem, s4]
    have f0' : y0.cell? ⟨g, k * 4, none⟩ = some (.int .i64 l[k].h.t) := by subst hy0; exact f0
    have f1' : y0.cell? ⟨g, k * 4 + 1, none⟩ = some (.int .i64 l[k].h.r) := by subst hy0; exact f1
    have f2' : y0.cell? ⟨g, k * 4 + 2, none⟩ = some (.slice l[k].a l[k].h.q.length l[k].c) := by subst hy0; exact f2
    have f3' : y0.cell? ⟨g, k * 4 + 3, none⟩ = some (.int .i64 l[k].h.W) := by subst hy0; exact f3
    have fz' : ∀ j, y0.frozen? ⟨g, j, none⟩ = false := by subst hy0; exact fz
    have hS0 : Hs S y2.drew := by rw [hy0, hSe]; exact .inl rfl
    have hS1 : Hs S ((((y0.setCell ⟨g, k * 4, none⟩ (.int .i64 Xt)).setCell ⟨g, k * 4 + 1, none⟩ (.int .i64 Xr)).setCell ⟨g, k * 4 + 2, none⟩ (.slice a2 q.length n2)).setCell ⟨g, k * 4 + 3, none⟩ (.int .i64 XW)) := by rw [hSe]; exact .inr rfl
    clear hSe
    refine region_plan (.take (.take (.take (.take (.take (.take (.take (.off (.go1 .fin))))))))) (Hs S) (by kernel_rfl) (by kernel_rfl) (by kernel_rfl) hS0 ?_
    rw [hy0]
    iterate 7 (refine HP.take' ?_; (first | (refine ⟨undef, Or.inr ⟨by rfl, rfl⟩, ?_⟩) | (apply Exists.intro; refine ⟨Or.inl ⟨by rfl, ?_⟩, ?_⟩; (intro x hx'; go_simp; first | done | with_reducible rfl))); (try simp only [Act.put, List.setIfInBounds_toArray, List.set_cons_zero, List.set_cons_succ]))
    refine HP.off ?_
    refine HP.go1 (fun KK hKK => ?_)
    go_simp
    refine hKK.out _ _ hS1 ?_
    intro _
    clear hKK KK
    (try simp only [Act.put, List.setIfInBounds_toArray, List.set_cons_zero, List.set_cons_succ])
    refine HP.end_ ?_
    refine NoPanic.normal ?_
    have hz3 : ((((y2.setCell ⟨g, k * 4, none⟩ (.int .i64 Xt)).setCell ⟨g, k * 4 + 1, none⟩ (.int .i64 Xr)).setCell ⟨g, k * 4 + 2, none⟩ (.slice a2 q.length n2)).setCell ⟨g, k * 4 + 3, none⟩ (.int .i64 XW)).drew = ((((y0.setCell ⟨g, k * 4, none⟩ (.int .i64 Xt)).setCell ⟨g, k * 4 + 1, none⟩ (.int .i64 Xr)).setCell ⟨g, k * 4 + 2, none⟩ (.slice a2 q.length n2)).setCell ⟨g, k * 4 + 3, none⟩ (.int .i64 XW)) := by subst hy0; rfl
    rw [← hz3]
    clear hz3 hS0 hS1 t0 t1 t2 t3 t4 s0 s1 s2 s3 s4 f0' f1' f2' f3' fz' hy0
    have hQt := HQ.out.tch
    clear c2 f0 f1 f2 f3 p0 p1 p2 p3 fz hb2' HV HW
    generalize ((((y2.setCell ⟨g, k * 4, none⟩ (.int .i64 Xt)).setCell ⟨g, k * 4 + 1, none⟩ (.int .i64 Xr)).setCell ⟨g, k * 4 + 2, none⟩ (.slice a2 q.length n2)).setCell ⟨g, k * 4 + 3, none⟩ (.int .i64 XW)) = y3 at *
    obtain ⟨z3, hz3⟩ : ∃ z, y3.drew = z := ⟨_, rfl⟩
    have hd3 : Nw y3 z3 := by subst hz3; exact (Nw.refl _).dr
    rw [hz3]
    clear hz3
    have HQ3 := Lib.hid (HQ.out.nw hd3)
    have hR3 := HQ3.out.rb
    obtain ⟨L3, hL3⟩ : ∃ L3, l.set k ⟨⟨Xt, Xr, XW, (scanQ q).2⟩, a2, n2⟩ = L3 := ⟨_, rfl⟩
    have hL3l : L3.length = l.length := by rw [← hL3, List.length_set]
    have hL6 : L3.take k ++ L3.drop (k + 1) = l.take k ++ l.drop (k + 1) := by
      rw [← hL3, List.take_set_of_le (Nat.le_refl k), List.drop_set_of_lt (Nat.lt_succ_self k)]
    rw [hL3] at HQ3 hR3
    rw [← hL3l] at hR3
    have hb4 := hd3.at' hb3
    have his4 := onw his3 hd3
    have hpre := Own.rd elemHm.len (hown_pre hR3.own rfl (i := k) (by omega))
    have hcap3 := own_cap hR3.own
    have hrdc := hown_rdc hR3.own
    have c2 := hR3.c2
    rw [hL3l] at c2
    have p2 : z3.cell? ⟨pb, 2, none⟩ = some (.slice a2 q.length n2) := hcell hb4
    have hol3 := hR3.ol
    have hgl3 : g < z3.heap.size := olt hR3.own rfl
    have htk : (L3.take k).length = k := by rw [List.length_take]; omega
    obtain ⟨v4, w4, hrun4, hO4, hN4⟩ := own_clone elemHm hpre (by omega)
    obtain ⟨nx, hnx⟩ : ∃ nx : Nat, k + 1 = nx := ⟨_, rfl⟩
    have hdl : (L3.drop (k + 1)).length = l.length - nx := by rw [List.length_drop, hL3l, hnx]
    obtain ⟨ad, had, hadc⟩ : ∃ ad : Addr, (if c = k + 1 then (⟨g, 0, none⟩ : Addr) else ⟨g, (k + 1) * 4, none⟩) = ad ∧ ∀ j u, (rowsOf hmrow (L3.drop (k + 1)))[j]? = some u → w4.cell? (ad.add j) = some u := ⟨_, rfl, hpart_at (hrdc.nw hN4) (by omega) (by omega)⟩
    obtain ⟨v5, w5, hrun5, hO5, hg5, hbk5⟩ := Own.many elemHm hO4 (L3.drop (k + 1)) ad (c - nx) hadc (by omega) hN4.sz
    rw [hdl] at hrun5
    obtain ⟨a5, c5, hv5⟩ := (Own.rd elemHm.len hO5).form
    obtain ⟨n5, hn5⟩ : ∃ n, (L3.take k ++ L3.drop (k + 1)).length = n := ⟨_, rfl⟩
    rw [hn5] at hv5
    subst hv5
    have hN5 : Nw z3 w5 := hN4.gro hg5 (fun b hb => oge hO4 hb)
    have hR6 := hR3.row hN5 hO5 (Nat.le_refl _) (fun x hx => .inl (by
      rcases List.mem_append.1 hx with q | q
      · exact List.mem_of_mem_take q
      · exact List.mem_of_mem_drop q)) (by rw [List.length_append]; omega) pg
    rw [hL3l, hL6] at hR6
    have HR6 := Lib.hid (HQ3.out.then hR6)
    have his6 := own_tchS (S := fun b => b = o) (onw his4 hN5) (setCell_at w5 ⟨o, 2, none⟩ (.slice a5 n5 c5)) (fun g' hg e => by have := HI.out.2 g' hg; omega)
    have HI6 := Lib.hid his6
    have HR4 := Lib.hid hrun4
    have HR5 := Lib.hid hrun5
    have c2' := hN4.kp c2
    have c2'' := hN5.kp c2
    have fzo := fun j => (hR3.nw hN5).fz j
    have hol4 : o < w4.heap.size := Nat.lt_of_lt_of_le hol3 hN4.sz
    have hol5 : o < w5.heap.size := Nat.lt_of_lt_of_le hol3 hN5.sz
    have hgl4 : g < w4.heap.size := Nat.lt_of_lt_of_le hgl3 hN4.sz
    have k1 : (k : Int) + 1 = (nx : Int) := by omega
    have k3 : nx ≤ c := by omega
    have k4 : (nx : Int) ≤ (l.length : Int) := by omega
    have k5 : (l.length : Int) ≤ (c : Int) := by omega
    have k6 : ((l.length : Int) - (nx : Int)).toNat = l.length - nx := by omega
    have k7 : k ≤ c := by omega
    have hkc : (k : Int) ≤ (c : Int) := by omega
    have hkn : IntKind.i64.wrap ((k : Int) + 1) = (nx : Int) := by rw [IntKind.wrap_i64] <;> omega
    have hkn2 : IntKind.i64.wrap (nx : Int) = (nx : Int) := by rw [IntKind.wrap_i64] <;> omega
    rw [hnx] at had
    clear hR3 hQt hd3 HQ3 hL3 hL3l hL6 hb4 his4 hpre hrdc htk hrun4 hO4 hdl hadc hrun5 hO5 hg5 hbk5 hR6 his6 hN4 hN5 hb3 his3 hlb hgl2 hol2 ht3 hnx hn5
    by_cases hcn : c = nx
    · rw [if_pos hcn] at had
      subst had
      go_wp2_with (at_builtin; first | (refine wpl_app (by rfl) (.tmp 25) (.tmp 31) 43 rfl _ _ _ _ rfl rfl HR4.out ?_) | (refine wpl_app (by rfl) (.tmp 34) (.tmp 41) 43 rfl _ _ _ _ (by first | rfl | simp [Act.eval, *]) (by first | rfl | simp [Act.eval, *]) HR5.out ?_))
      refine bodyPost_ret (v := vi) (by simp [results, Tryz.results77, go_sem, *]) rfl ?_
      exact ⟨_, rfl, HI6.out, .slice a5 n5 c5, l.take k ++ l.drop (k + 1), HE.out.symm, HR6.out⟩
    · rw [if_neg hcn] at had
      subst had
      go_wp2_with (at_builtin; first | (refine wpl_app (by rfl) (.tmp 25) (.tmp 31) 43 rfl _ _ _ _ rfl rfl HR4.out ?_) | (refine wpl_app (by rfl) (.tmp 34) (.tmp 41) 43 rfl _ _ _ _ (by first | rfl | simp [Act.eval, *]) (by first | rfl | simp [Act.eval, *]) HR5.out ?_))
      refine bodyPost_ret (v := vi) (by simp [results, Tryz.results77, go_sem, *]) rfl ?_
      exact ⟨_, rfl, HI6.out, .slice a5 n5 c5, l.take k ++ l.drop (k + 1), HE.out.symm, HR6.out⟩
  · have hE : endS (hsOf l) ⟨Xt, Xr, XW, q⟩ = hsOf (l.set k ⟨⟨Xt, Xr, XW, (scanQ q).2⟩, a2, n2⟩) := by
      unfold endS
      rw [if_neg (fun e => hq (by rw [← HSl.out]; show (scH ⟨Xt, Xr, XW, q⟩).q.length = 0; rw [e]; rfl))]
      exact hput
    have HE := Lib.hid hE
    have hqd : ((q.length : Int) == 0) = false := by simpa using hq
    clear hE hput hNy
    refine wp_region_still_tail 7 (by kernel_rfl) (by kernel_rfl) ?_
    simp only [List.take_succ_cons, List.take_zero, List.drop_succ_cons, List.drop_zero]
    iterate 7 still_step
    try refine wpStill_nil ?_
    change wpList _ _ _ _ _ y2.drew
    go_wp2
    go_ret
    refine ⟨_, rfl, ?_, .slice (some ⟨g, 0, none⟩) l.length c, _, HE.out.symm, HQ.out.nw (Nw.refl _).dr⟩
    refine onw (own_tchS HI.out.1 (S := fun b => b = g) ?_ ?_) (Nw.refl _).dr
    · exact ((((Tch.refl (fun b => b = g) y2).set (p := ⟨g, k * 4, none⟩) (.inl rfl) _).set (p := ⟨g, k * 4 + 1, none⟩) (.inl rfl) _).set (p := ⟨g, k * 4 + 2, none⟩) (.inl rfl) _).set (p := ⟨g, k * 4 + 3, none⟩) (.inl rfl) _
    · intro g' hg e
      have := HI.out.2 g' hg
      omega
end Go.Proofs.YtodnlelnpidliaaGreat
end

/- The document's own bucket: Leave. -/
section
namespace Go.Proofs.YtodnlelnpidliaaGreat
open Go.RowKit
set_option linter.unusedVariables false      -- a contract need not use every name

theorem is_nil (w : World) : IS w (.slice none 0 0) [] := ⟨rfl, .inl ⟨rfl, rfl⟩⟩
/-- The pool lies below the bucket: what the bucket's own blocks do leaves it. -/
theorem RbTo.rp {w w' : World} {o po pg : Nat} {most : Int} {v v' : Value} {l l' : List Hm} {L : List Bool} (k : RbTo w o po o most v l w' v' l') (h : Rb w o po most v l) (hp : Rp w po pg L) (hg : pg < o) : Rp w' po pg L := by
  have h1 : ∀ b, b < o → ¬ (b = o ∨ v.ownBlock = some b ∨ b = o) := fun b hb e => by
    rcases e with e | e | e
    · omega
    · have := oge h.own e; omega
    · omega
  exact hp.tch k.tch (h1 po h.pl) (h1 pg hg)
theorem lvR_of {h : Hq} {id : Int} (hf : (fnd h.q id).isSome = true) : lvR h id = (⟨h.t, h.r, h.W, lvQ id h.q⟩, 0) := by
  unfold lvR
  cases e : fnd h.q id with
  | none => rw [e] at hf; cases hf
  | some r => rfl
theorem of_isSome {hs : List Hq} {id : Int} {h : Hq} (e : ofId hs id = some h) : h ∈ hs ∧ (fnd h.q id).isSome = true := by
  unfold ofId at e
  exact ⟨List.mem_of_find?_eq_some e, by simpa using List.find?_some e⟩
set_option maxRecDepth 20000 in
set_option maxHeartbeats 1000000 in
theorem rb_leave {w : World} {o po : Nat} {most : Int} {v : Value} {l : List Hm} (h : Rb w o po most v l) (s : SrtH (hsOf l)) (hok : ∀ x ∈ l, Ok x.h.W x.h.q) {pg : Nat} {L : List Bool} (hp : Rp w po pg L) (hpg : pg < o) (id : Int) :
    Calls Tryz.prog 38 #[.pointer (some ⟨o, 0, none⟩), .int .i64 id] w fun e w' => ∃ vi, e = .returned (.tuple #[vi, .int .i64 (lvBR (hsOf l) id).2]) ∧ IS w' vi (lvBR (hsOf l) id).1 ∧ Rp w' po pg (lvBS (hsOf l) L id).2 ∧ ∃ v' l', hsOf l' = (lvBS (hsOf l) L id).1 ∧ RbTo w o po pg most v l w' v' l' := by
  obtain ⟨a, c, rfl, hf⟩ := h.form
  have HF := Lib.hid hf
  have H := Lib.hid h
  have HS := Lib.hid s
  have HO := Lib.hid hok
  have HPl := Lib.hid hp
  have hol := h.ol
  have hpl := h.pl
  have HP := Lib.hid (rb_of h id)
  obtain ⟨E, hE⟩ : ∃ E, lvBR (hsOf l) id = E := ⟨_, rfl⟩
  obtain ⟨T, hT⟩ : ∃ T, lvBS (hsOf l) L id = T := ⟨_, rfl⟩
  rw [hE, hT]
  have HE := Lib.hid hE
  have HT := Lib.hid hT
  clear h hf s hok hE hT hp
  go_enter Tryz.func38, Tryz.ntmps38
  go_wp2_with fail
  refine HP.out.mono ?_
  rintro e w1 ⟨i, rfl, hi, g1⟩
  have HN1 := Lib.hid g1
  rcases hi.of with ⟨rfl, ho⟩ | ⟨k, rfl, hk, ho⟩
  · have HR := Lib.hid (HE.out.symm.trans (show lvBR (hsOf l) id = ([], 5) by unfold lvBR; rw [ho]))
    have HR2 := Lib.hid (HT.out.symm.trans (show lvBS (hsOf l) L id = (hsOf l, L) by unfold lvBS; rw [ho]))
    clear HE HT HP ho hi g1
    go_wp2
    refine bodyPost_ret (v := .tuple #[.slice none 0 0, .int .i64 5]) (by simp [results, Tryz.results38, go_sem, *]) rfl ?_
    exact ⟨_, by rw [HR.out], by rw [HR.out]; exact is_nil _, by rw [HR2.out]; exact HPl.out.nw HN1.out, _, l, by rw [HR2.out], H.out.same HN1.out pg⟩
  · rcases HF.out with ⟨_, e, _⟩ | ⟨g, rfl, hog, hgl⟩
    · subst e; simp at hk
    have hfs := (of_isSome ho).2
    have HW := Lib.hid (H.out.nw HN1.out)
    have hx := HW.out.ok _ (List.getElem_mem hk)
    have hokx := HO.out _ (List.getElem_mem hk)
    obtain ⟨f0, f1, f2, f3⟩ := HW.out.at_ k hk
    have hl1 := HW.out.len
    have hki : (k : Int) < (l.length : Int) := by omega
    have c2 := HW.out.c2
    have HG := Lib.hid (fun w2 (g : Nw w1 w2) => r9leaveN l[k].h.t l[k].h.r l[k].h.W id (hmV l[k]) l[k].h.q w2 hx.len hokx hx.cap (hx.rd.nw g))
    have HR := Lib.hid (HE.out.symm.trans (show lvBR (hsOf l) id = ((scanQ (lvQ id l[k].h.q)).1, 0) by unfold lvBR; rw [ho]))
    have HR2 := Lib.hid (HT.out.symm.trans (show lvBS (hsOf l) L id = (endS (hsOf l) ⟨l[k].h.t, l[k].h.r, l[k].h.W, lvQ id l[k].h.q⟩, gvL L id) by unfold lvBS; rw [ho]))
    rw [show (⟨l[k].h.t, l[k].h.r, l[k].h.W, l[k].h.q⟩ : Hq) = l[k].h from rfl, lvR_of hfs] at HG
    unfold hdV hmV at HG
    have HLn := Lib.hid (Nat.le_trans (lvQ_len id l[k].h.q) hx.len)
    have HOk := Lib.hid (ok_lv hokx id)
    have HNm := Lib.hid (show (l[k].h.t, l[k].h.r) = nmH l[k].h from rfl)
    clear HE HT ho hi hx hokx hfs HP
    generalize l[k].a = qa at *
    generalize l[k].c = qc at *
    obtain ⟨n, hn⟩ : ∃ n, l[k].h.q.length = n := ⟨_, rfl⟩
    rw [hn] at f2 HG
    obtain ⟨Q, hQ⟩ : ∃ Q, lvQ id l[k].h.q = Q := ⟨_, rfl⟩
    rw [hQ] at HG HR HR2 HLn HOk
    obtain ⟨ht, ht'⟩ : ∃ t, l[k].h.t = t := ⟨_, rfl⟩
    obtain ⟨hr, hr'⟩ : ∃ r, l[k].h.r = r := ⟨_, rfl⟩
    obtain ⟨hW, hW'⟩ : ∃ W, l[k].h.W = W := ⟨_, rfl⟩
    rw [ht'] at f0 HG HNm HR2
    rw [hr'] at f1 HG HNm HR2
    rw [hW'] at f3 HG HOk HR2
    clear hn hQ ht' hr' hW' g1
    go_wp2_with fail
    refine (HG.out _ (Nw.refl _)).mono ?_
    rintro e w2 ⟨v2, rfl, g2, hrd, hcap, hnew⟩
    obtain ⟨a2, n2, rfl⟩ := hrd.form
    simp only [hdV]
    have hal := allocAt w2 (.cells #[.int .i64 ht, .int .i64 hr, .slice a2 Q.length n2, .int .i64 hW] 56)
    have hNa : Nw w2 (w2.alloc (.cells #[.int .i64 ht, .int .i64 hr, .slice a2 Q.length n2, .int .i64 hW] 56)) := (Nw.refl w2).alloc _
    have hNq := g2.trans hNa
    have hNy := HN1.out.trans hNq
    have hrd2 := hrd.nw hNa
    have c1 := (H.out.nw hNy).c1
    have HGv := Lib.hid (rgive_at (HPl.out.nw hNy) id)
    have hpl2 := hlt hal
    have HK := Lib.hid (And.intro hcap hnew)
    have hg2 := g2.sz
    have HA := Lib.hid (And.intro hal (And.intro hNy hrd2))
    clear hrd hcap hnew hNa hal hrd2 g2 HG f0 f1 f2 f3 c2 hNy
    have hgot := HW.out.got hNq ⟨ht, hr, hW, Q⟩ (HA.out.2.2) HK.out.1 HK.out.2 HLn.out
    go_wp2_with fail
    refine HGv.out.mono ?_
    rintro e w3 ⟨rfl, hRp, hT3⟩
    have hb3 := (hT3.block _ (hlt HA.out.1) (fun e => by have := HN1.out.sz; omega)).trans HA.out.1
    have h3 := (H.out.nw HA.out.2.1).low hT3 (fun b e => by omega)
    have hX3 := hgot.tch hT3 (fun b e => .inl (by omega))
    have HE3 := Lib.hid (rb_end h3 HS.out hk ⟨⟨ht, hr, hW, Q⟩, a2, n2⟩ hX3 HNm.out HOk.out o)
    have HR3 := Lib.hid hRp
    have H3 := Lib.hid h3
    have HT3 := Lib.hid hT3
    have p0 : w3.cell? ⟨w2.heap.size, 0, none⟩ = some (.int .i64 ht) := hcell hb3
    have p1 : w3.cell? ⟨w2.heap.size, 1, none⟩ = some (.int .i64 hr) := hcell hb3
    have p2 : w3.cell? ⟨w2.heap.size, 2, none⟩ = some (.slice a2 Q.length n2) := hcell hb3
    have p3 : w3.cell? ⟨w2.heap.size, 3, none⟩ = some (.int .i64 hW) := hcell hb3
    clear hb3 h3 hX3 hgot hT3 hRp HGv c1 hg2 hNq
    go_wp2_with fail
    refine HE3.out.mono ?_
    rintro e w4 ⟨vi, rfl, hIS, v4, l4, hl4, hRT⟩
    have HF4 := Lib.hid (And.intro hIS (And.intro hl4 hRT))
    clear hIS hl4 hRT HE3
    go_wp2
    refine bodyPost_ret (v := .tuple #[vi, .int .i64 0]) (by simp [results, Tryz.results38, go_sem, *]) rfl ?_
    exact ⟨vi, by rw [HR.out], by rw [HR.out]; exact HF4.out.1, by rw [HR2.out]; exact HF4.out.2.2.rp H3.out HR3.out hpg, v4, l4, by rw [HR2.out]; exact HF4.out.2.1, RbTo.pre HA.out.2.1 (RbTo.low HT3.out HF4.out.2.2.pg)⟩
end Go.Proofs.YtodnlelnpidliaaGreat
end

/- The document's own bucket: Ask, as far as it rejects. -/
section
namespace Go.Proofs.YtodnlelnpidliaaGreat
open Go.RowKit
set_option linter.unusedVariables false      -- a contract need not use every name

theorem findB_tw (hs : List Hq) (t r txn : Int) : (findB hs t r txn).2 = twB hs t r txn := by
  unfold findB twB
  cases e : (hdB hs t r).q.find? fun x => x.txn == txn with
  | none =>
    rw [List.find?_eq_none] at e
    symm
    rw [List.any_eq_false]
    exact e
  | some x =>
    symm
    rw [List.any_eq_true]
    exact ⟨x, List.mem_of_find?_eq_some e, by simpa using List.find?_some e⟩
/-- What Ask comes to. -/
def AskTo (w : World) (o po pg : Nat) (n : Nat) (v : Value) (l : List Hm) (L : List Bool) (t r txn m : Int) (e : Ending) (w' : World) : Prop :=
  e = .returned (.tuple #[.int .i64 (askBR n (hsOf l) L t r txn m).1, .bool (askBR n (hsOf l) L t r txn m).2.1, .int .i64 (askBR n (hsOf l) L t r txn m).2.2]) ∧ Rp w' po pg (askBS n (hsOf l) L t r txn m).2 ∧ ∃ v' l', hsOf l' = (askBS n (hsOf l) L t r txn m).1 ∧ RbTo w o po pg n v l w' v' l'
theorem ask_rejected {w w' : World} {o po pg n : Nat} {v : Value} {l : List Hm} {L : List Bool} {t r txn m E : Int} (h : Rb w o po n v l) (hp : Rp w po pg L) (g : Nw w w') (he : askBE n (hsOf l) L t r txn m = E) (hE : E ≠ 0) :
    AskTo w o po pg n v l L t r txn m (.returned (.tuple #[.int .i64 0, .bool false, .int .i64 E])) w' := by
  obtain ⟨h1, h2⟩ := ask_rej (most := n) (hs := hsOf l) (L := L) (t := t) (r := r) (txn := txn) (m := m) (by rw [he]; exact hE)
  unfold AskTo
  rw [h1, h2.1, he]
  exact ⟨rfl, hp.nw g, v, l, rfl, h.same g pg⟩
set_option maxRecDepth 20000 in
set_option maxHeartbeats 2000000 in
theorem rb_ask_no {w : World} {o po n : Nat} {v : Value} {l : List Hm} (h : Rb w o po n v l) (s : SrtH (hsOf l)) (hok : ∀ x ∈ l, Ok x.h.W x.h.q) (hq : ∀ x ∈ l, x.h.q.length < 1000) {pg : Nat} {L : List Bool} (hp : Rp w po pg L) (hpg : pg < o) (t r txn m : Int) (hne : askBE n (hsOf l) L t r txn m ≠ 0) :
    Calls Tryz.prog 43 #[.pointer (some ⟨o, 0, none⟩), .agg #[.int .i64 t, .int .i64 r], .int .i64 txn, .int .i64 m] w (AskTo w o po pg n v l L t r txn m) := by
  obtain ⟨a, c, rfl, hf⟩ := h.form
  have HF := Lib.hid hf
  have H := Lib.hid h
  have HS := Lib.hid s
  have HO := Lib.hid hok
  have HQ := Lib.hid hq
  have HPl := Lib.hid hp
  have hol := h.ol
  have hpl := h.pl
  have hN : Nw w (w.alloc (.cells #[.int .i64 t, .int .i64 r] 38)) := (Nw.refl w).alloc _
  have hb0 := allocAt w (.cells #[.int .i64 t, .int .i64 r] 38)
  have HKn := Lib.hid (r1known m)
  clear h hf s hok hq hp
  by_cases hm0 : m = 0
  · have HR := Lib.hid (ask_rejected (t := t) (r := r) (txn := txn) (m := m) H.out HPl.out hN (show askBE n (hsOf l) L t r txn m = 2 by unfold askBE; rw [if_pos (.inl hm0)]) (by decide))
    have d : (m == 0) = true := by simpa using hm0
    clear hm0 hb0 hN
    go_enter Tryz.func43, Tryz.ntmps43
    go_wp2
    exact bodyPost_ret (v := .tuple #[.int .i64 0, .bool false, .int .i64 2]) (by simp [results, Tryz.results43, go_sem, *]) rfl HR.out
  have d : (m == 0) = false := by simpa using hm0
  cases hk : knI m
  · have HR := Lib.hid (ask_rejected (t := t) (r := r) (txn := txn) (m := m) H.out HPl.out hN (show askBE n (hsOf l) L t r txn m = 2 by unfold askBE; rw [if_pos (.inr hk)]) (by decide))
    rw [hk] at HKn
    clear hm0 hk hb0 hN
    go_enter Tryz.func43, Tryz.ntmps43
    go_wp2_with (go_at_call 29; refine (HKn.out _).mono ?_; rintro e w' ⟨rfl, rfl⟩)
    exact bodyPost_ret (v := .tuple #[.int .i64 0, .bool false, .int .i64 2]) (by simp [results, Tryz.results43, go_sem, *]) rfl HR.out
  have hbm : ¬ badM m := by
    rintro (e | e)
    · exact hm0 e
    · rw [hk] at e; cases e
  rw [hk] at HKn
  obtain ⟨z, hz⟩ : ∃ z, w.alloc (.cells #[.int .i64 t, .int .i64 r] 38) = z := ⟨_, rfl⟩
  rw [hz] at hN hb0
  have n0 : z.cell? ⟨w.heap.size, 0, none⟩ = some (.int .i64 t) := hcell hb0
  have n1 : z.cell? ⟨w.heap.size, 1, none⟩ = some (.int .i64 r) := hcell hb0
  have HFi := Lib.hid (rb_find (H.out.nw hN) HS.out t r txn)
  obtain ⟨fi, hfi⟩ : ∃ b, twB (hsOf l) t r txn = b := ⟨_, rfl⟩
  rw [findB_tw, hfi] at HFi
  generalize (findB (hsOf l) t r txn).1 = fid at HFi
  go_enter Tryz.func43, Tryz.ntmps43
  go_wp2_with (go_at_call 29; refine (HKn.out _).mono ?_; rintro e w' ⟨rfl, rfl⟩)
  refine HFi.out.mono ?_
  rintro e w1 ⟨rfl, g1⟩
  have HN1 := Lib.hid (hN.trans g1)
  cases fi
  case true =>
    have HR := Lib.hid (ask_rejected (t := t) (r := r) (txn := txn) (m := m) H.out HPl.out HN1.out (show askBE n (hsOf l) L t r txn m = 4 by unfold askBE; rw [if_neg hbm, if_pos hfi]) (by decide))
    clear hz hN hb0 n0 n1 hfi hbm g1
    go_wp2
    exact bodyPost_ret (v := .tuple #[.int .i64 0, .bool false, .int .i64 4]) (by simp [results, Tryz.results43, go_sem, *]) rfl HR.out
  case false =>
    have hb1 := g1.at' hb0
    have m0 : w1.cell? ⟨w.heap.size, 0, none⟩ = some (.int .i64 t) := hcell hb1
    have m1 : w1.cell? ⟨w.heap.size, 1, none⟩ = some (.int .i64 r) := hcell hb1
    have HPc := Lib.hid (rb_place (H.out.nw HN1.out) t r)
    clear hz n0 n1 hb0 g1
    go_wp2_with fail
    refine HPc.out.mono ?_
    rintro e w2 ⟨k, b, rfl, hpi, g2⟩
    have hb2 := g2.at' hb1
    have HN2 := Lib.hid (HN1.out.trans g2)
    have c0 := (H.out.nw HN2.out).c0
    have c1 := (H.out.nw HN2.out).c1
    have c2 := (H.out.nw HN2.out).c2
    have HLv := Lib.hid (fun x (g : Nw w2 x) => rlive_at (HPl.out.nw (HN2.out.trans g)))
    have HMs := Lib.hid (fun x (g : Nw w2 x) => (rmost_at (HPl.out.nw (HN2.out.trans g))).mono (fun e w' h => (⟨h.1, by rw [h.2]; exact Nw.refl _⟩ : e = .returned (.int .i64 L.length) ∧ Nw x w')))
    have hex : askBE n (hsOf l) L t r txn m = if fullB n (hsOf l) L t r then 8 else 0 := by unfold askBE; rw [if_neg hbm, hfi]; rfl
    have hfull : fullB n (hsOf l) L t r := by
      refine Classical.byContradiction fun e => hne ?_
      rw [hex, if_neg e]
    rw [if_pos hfull] at hex
    have hls : (hsOf l).length = l.length := List.length_map _
    have hll := H.out.len
    have hLs := HPl.out.sz
    have hlvl := liv_le L
    have hway : (b = false ∧ n ≤ l.length) ∨ (b = false ∧ ¬ n ≤ l.length ∧ L.length ≤ liv L) ∨ (b = true ∧ L.length ≤ liv L) := by
      rcases hpi.get HS.out with ⟨e1, e2, _⟩ | ⟨e1, hk2, e3, e2⟩
      · rcases hfull with ⟨_, q⟩ | q
        · rw [hls] at q; exact .inl ⟨e1, q⟩
        · by_cases q2 : n ≤ l.length
          · exact .inl ⟨e1, q2⟩
          · exact .inr (.inl ⟨e1, q2, q⟩)
      · rcases hfull with ⟨q, _⟩ | q
        · rw [e2] at q; cases q
        · exact .inr (.inr ⟨e1, q⟩)
    have hne : Nonempty (Wd (fun y => Nw w2 y)) := ⟨⟨_, Nw.refl w2⟩⟩
    clear hb1 hb2 hfull hpi g2 hls hfi hbm m0 m1
    go_wp2_with fail
    have d0 : ∀ d : Wd (fun y => Nw w2 y), d.w.cell? _ = _ := fun d => d.h.kp c0
    have d1 : ∀ d : Wd (fun y => Nw w2 y), d.w.cell? _ = _ := fun d => d.h.kp c1
    have d2 : ∀ d : Wd (fun y => Nw w2 y), d.w.cell? _ = _ := fun d => d.h.kp c2
    rcases hway with ⟨rfl, q1⟩ | ⟨rfl, q1, q2⟩ | ⟨rfl, q2⟩
    · have i1 : (n : Int) ≤ (l.length : Int) := by omega
      have j1 : decide ((n : Int) ≤ (l.length : Int)) = true := by simpa using i1
      have j2 : decide (n ≤ l.length) = true := by simpa using q1
      refine region_in (fun y => Nw w2 y) (by kernel_rfl) (by kernel_rfl) (Nw.refl _).dr ?_
      repeat (first | go_big_quiet_step (first | exact quietN (fun a b h g => h.trans g) (HLv.out _ (Wd.h _)) | exact quietN (fun a b h g => h.trans g) (HMs.out _ (Wd.h _))) | quiet_step (first | exact quietN (fun a b h g => h.trans g) (HLv.out _ (Wd.h _)) | exact quietN (fun a b h g => h.trans g) (HMs.out _ (Wd.h _))))
      refine wpQuiet_nil ?_
      intro d
      have HR := Lib.hid (ask_rejected (t := t) (r := r) (txn := txn) (m := m) H.out HPl.out (HN2.out.trans d.h) hex (by decide))
      clear d0 d1 d2 hne
      revert HR
      generalize d.w = w3
      intro HR
      go_wp2
      exact bodyPost_ret (v := .tuple #[.int .i64 0, .bool false, .int .i64 8]) (by simp [results, Tryz.results43, go_sem, *]) rfl HR.out
    · have i1 : ¬ ((n : Int) ≤ (l.length : Int)) := by omega
      have i2 : (L.length : Int) ≤ (liv L : Int) := by omega
      have j1 : decide ((n : Int) ≤ (l.length : Int)) = false := by simpa using i1
      have j2 : decide (n ≤ l.length) = false := by simpa using q1
      have j3 : decide (L.length ≤ liv L) = true := by simpa using q2
      have j4 : decide ((L.length : Int) ≤ (liv L : Int)) = true := by simpa using i2
      refine region_in (fun y => Nw w2 y) (by kernel_rfl) (by kernel_rfl) (Nw.refl _).dr ?_
      repeat (first | go_big_quiet_step (first | exact quietN (fun a b h g => h.trans g) (HLv.out _ (Wd.h _)) | exact quietN (fun a b h g => h.trans g) (HMs.out _ (Wd.h _))) | quiet_step (first | exact quietN (fun a b h g => h.trans g) (HLv.out _ (Wd.h _)) | exact quietN (fun a b h g => h.trans g) (HMs.out _ (Wd.h _))))
      refine wpQuiet_nil ?_
      intro d
      have HR := Lib.hid (ask_rejected (t := t) (r := r) (txn := txn) (m := m) H.out HPl.out (HN2.out.trans d.h) hex (by decide))
      clear d0 d1 d2 hne
      revert HR
      generalize d.w = w3
      intro HR
      go_wp2
      exact bodyPost_ret (v := .tuple #[.int .i64 0, .bool false, .int .i64 8]) (by simp [results, Tryz.results43, go_sem, *]) rfl HR.out
    · have i2 : (L.length : Int) ≤ (liv L : Int) := by omega
      have j3 : decide (L.length ≤ liv L) = true := by simpa using q2
      have j4 : decide ((L.length : Int) ≤ (liv L : Int)) = true := by simpa using i2
      refine region_in (fun y => Nw w2 y) (by kernel_rfl) (by kernel_rfl) (Nw.refl _).dr ?_
      repeat (first | go_big_quiet_step (first | exact quietN (fun a b h g => h.trans g) (HLv.out _ (Wd.h _)) | exact quietN (fun a b h g => h.trans g) (HMs.out _ (Wd.h _))) | quiet_step (first | exact quietN (fun a b h g => h.trans g) (HLv.out _ (Wd.h _)) | exact quietN (fun a b h g => h.trans g) (HMs.out _ (Wd.h _))))
      refine wpQuiet_nil ?_
      intro d
      have HR := Lib.hid (ask_rejected (t := t) (r := r) (txn := txn) (m := m) H.out HPl.out (HN2.out.trans d.h) hex (by decide))
      clear d0 d1 d2 hne
      revert HR
      generalize d.w = w3
      intro HR
      go_wp2
      exact bodyPost_ret (v := .tuple #[.int .i64 0, .bool false, .int .i64 8]) (by simp [results, Tryz.results43, go_sem, *]) rfl HR.out
end Go.Proofs.YtodnlelnpidliaaGreat
end

/- The document's own bucket: what leaves it as it is; another row of heads. -/
section
namespace Go.Proofs.YtodnlelnpidliaaGreat
open Go.RowKit
set_option linter.unusedVariables false      -- a contract need not use every name

theorem HmOk.tchS {w w' : World} {o : Nat} {u : Option Nat} {x : Hm} {S : Nat → Prop} (h : HmOk w o u x) (t : Tch S w w') (hS : ∀ b, x.a = some b → x.h.q ≠ [] → ¬ S b.block) : HmOk w' o u x := by
  refine ⟨?_, h.cap, h.len, h.new, h.off⟩
  obtain ⟨a, c, e, q | ⟨b, o', e2, hc⟩⟩ := h.rd
  · exact ⟨a, c, e, .inl q⟩
  · subst e2
    by_cases hq : x.h.q = []
    · exact ⟨_, c, e, .inl ⟨hq, fun q => by cases q⟩⟩
    have hb : ¬ S b := hS _ (by unfold hmV at e; injection e) hq
    exact ⟨_, c, e, .inr ⟨b, o', rfl, Nat.lt_of_lt_of_le hc.lt t.size, fun i hi c u hu => (t.cell hc.lt hb).trans (hc.cell i hi c u hu)⟩⟩
/-- Blocks that are none of the bucket's may change. -/
theorem Rb.tchS {w w' : World} {S : Nat → Prop} {o po : Nat} {most : Int} {v : Value} {l : List Hm} (h : Rb w o po most v l) (t : Tch S w w') (ho : ¬ S o) (hv : ∀ b, v.ownBlock = some b → ¬ S b) (hx : ∀ x ∈ l, ∀ b, x.a = some b → x.h.q ≠ [] → ¬ S b.block) : Rb w' o po most v l :=
  ⟨(t.cell h.ol ho).trans h.c0, (t.cell h.ol ho).trans h.c1, (t.cell h.ol ho).trans h.c2, fun j => (t.froz h.ol ho).trans (h.fz j), Nat.lt_of_lt_of_le h.ol t.size, h.pl, own_tchS h.own t hv, fun x q => (h.ok x q).tchS t (hx x q), h.len⟩
/-- Another row of heads is stored; n0: below it lies nothing of the new heads. -/
theorem Rb.row0 {w w5 : World} {o po : Nat} {most : Int} {v v6 : Value} {l l6 : List Hm} {g0 n0 : Nat} (h : Rb w o po most v l) (g : Nw w w5) (ho : HmOwn w5 g0 v6 l6) (hg : w.heap.size ≤ g0) (hn : n0 ≤ g0)
    (hs : ∀ x ∈ l6, x ∈ l ∨ (HmOk w5 o none x ∧ newV n0 (hmV x) ∧ ∀ b, x.a = some b → x.h.q ≠ [] → b.block < g0)) (hl : l6.length ≤ 64) :
    Rb (w5.setCell ⟨o, 2, none⟩ v6) o po most v6 l6 ∧ Tch (fun b => b = o) w (w5.setCell ⟨o, 2, none⟩ v6) ∧ ∀ b, RbIn o v6 l6 b → RbIn o v l b ∨ n0 ≤ b := by
  have hol := h.ol
  have h5 := h.nw g
  have t : Tch (fun b => b = o) w5 (w5.setCell ⟨o, 2, none⟩ v6) := setCell_at w5 ⟨o, 2, none⟩ v6
  have hge : ∀ b, v6.ownBlock = some b → g0 ≤ b := fun b hb => oge ho hb
  refine ⟨⟨?_, ?_, ?_, fun j => ?_, ?_, h.pl, ?_, fun x hx => ?_, hl⟩, (Tch.nw g).trans t, fun b hb => ?_⟩
  · exact (World.cell?_setCell_other _ _ _ _ (by simp)).trans h5.c0
  · exact (World.cell?_setCell_other _ _ _ _ (by simp)).trans h5.c1
  · exact World.cell?_setCell_same _ _ _ h5.c2
  · rw [World.frozen?_setCell]; exact h5.fz j
  · simpa using h5.ol
  · refine olow (own_tchS ho t (fun b hb e => ?_)) (fun b hb => ?_)
    · have := hge b hb; omega
    · have := hge b hb; omega
  · have key : HmOk w5 o v6.ownBlock x := by
      rcases hs x hx with q | ⟨q1, q2, q3⟩
      · have hx5 := (h.ok x q).nw g
        refine ⟨hx5.rd, hx5.cap, hx5.len, hx5.new, fun b e hq e2 => ?_⟩
        have h1 := rq_low (h.ok x q).rd e hq
        have h2 := hge _ e2
        omega
      · refine ⟨q1.rd, q1.cap, q1.len, q1.new, fun b e hq e2 => ?_⟩
        have h1 := q3 b e hq
        have h2 := hge _ e2
        omega
    exact key.tch t (fun b e => .inl (by omega))
  · rcases hb with q | q | ⟨x, hx, a, ha, e⟩
    · exact .inl (.inl q)
    · exact .inr (Nat.le_trans hn (hge b q))
    · rcases hs x hx with q | ⟨q1, q2, q3⟩
      · exact .inl (.inr (.inr ⟨x, q, a, ha, e⟩))
      · refine .inr ?_
        rw [e]
        refine q2 a x.h.q.length x.c ?_
        unfold hmV
        rw [ha]
/-- Append of whatever reads as a list. -/
theorem own_app {α : Type} {P : Program} {ST T : TypeId} {sz bytes : Nat} {row : α → List Value} (E : Elem P ST T sz bytes row) {w : World} {g0 : Nat} {v v2 : Value} {l sg : List α} (h : Own T sz row w g0 v l) (h2 : Rd sz row w v2 sg) (hsm : l.length + sg.length ≤ 100000) (hg0 : g0 ≤ w.heap.size) :
    ∃ v' w1, (Builtin.append_ #[ST, ST] ST #[v, v2]).run P w = .ok v' w1 ∧ Own T sz row w1 g0 v' (l ++ sg) ∧ w.grownBy w1 v.ownBlock := by
  obtain ⟨a, c, rfl, ⟨rfl, h0⟩ | ⟨b, o, rfl, hc⟩⟩ := h2
  · cases a with
    | none =>
      obtain rfl := h0 rfl
      obtain ⟨i0, z, hi, hz0, hz1, hz2, hz3⟩ := E.inf
      exact ⟨_, _, run_append_owned_none (P := P) w g0 ST ST T i0 sz E.und hi _ l.length _ h, by simpa using h, (Nw.refl w).grownBy _⟩
    | some ad =>
      obtain ⟨v', w1, h1, h2, h3, _⟩ := Own.many E h [] ad c (fun j u hu => by simp [rowsOf] at hu) (by simpa using hsm) hg0
      exact ⟨v', w1, h1, h2, h3⟩
  · obtain ⟨v', w1, h1, h2, h3, _⟩ := Own.many E h sg ⟨b, o, none⟩ c (hc.flat E.len E.pos) hsm hg0
    exact ⟨v', w1, h1, h2, h3⟩
/-- A row that gets one more head in place of some. -/
theorem rb_ins {w : World} {o po : Nat} {most : Int} {v : Value} {l : List Hm} (h : Rb w o po most v l) (k nx : Nat) (hk : k ≤ l.length) (hkn : k ≤ nx) (hnx : nx ≤ l.length) (hln : k + 1 + (l.length - nx) ≤ 64) {n0 pb : Nat} (hn0 : n0 ≤ w.heap.size) (x : Hm) {T : TypeId} (hb : w.heap[pb]? = some (.cells #[.int .i64 x.h.t, .int .i64 x.h.r, .slice x.a x.h.q.length x.c, .int .i64 x.h.W] T)) (hx : HmOk w o none x) (hxn : newV n0 (hmV x))
    {v1 v2 : Value} (h1 : ∀ z, Nw w z → Rd 4 hmrow z v1 (l.take k)) (h2 : ∀ z, Nw w z → Rd 4 hmrow z v2 (l.drop nx)) :
    ∃ v4 w4 a5 n5 c5 w5 a6 n6 c6 w6, (Builtin.append_ #[43, 43] 43 #[.slice (some ⟨w.heap.size, 0, none⟩) 0 0, v1]).run Tryz.prog (w.alloc (.cells #[] 56)) = .ok v4 w4 ∧ Nw w w4 ∧
      (Builtin.append_ #[43, 43] 43 #[v4, .slice (some ⟨w4.heap.size, 0, none⟩) 1 1]).run Tryz.prog (w4.alloc (.cells #[.int .i64 x.h.t, .int .i64 x.h.r, .slice x.a x.h.q.length x.c, .int .i64 x.h.W] 56)) = .ok (.slice a5 n5 c5) w5 ∧ Nw w w5 ∧
      (Builtin.append_ #[43, 43] 43 #[.slice a5 n5 c5, v2]).run Tryz.prog w5 = .ok (.slice a6 n6 c6) w6 ∧ Nw w w6 ∧
      (Rb (w6.setCell ⟨o, 2, none⟩ (.slice a6 n6 c6)) o po most (.slice a6 n6 c6) (l.take k ++ x :: l.drop nx) ∧ Tch (fun b => b = o) w (w6.setCell ⟨o, 2, none⟩ (.slice a6 n6 c6)) ∧ ∀ b, RbIn o (.slice a6 n6 c6) (l.take k ++ x :: l.drop nx) b → RbIn o v l b ∨ n0 ≤ b) := by
  have hll := h.len
  have htk : (l.take k).length = k := by rw [List.length_take]; omega
  have hdl : (l.drop nx).length = l.length - nx := by rw [List.length_drop]
  obtain ⟨v4, w4, hr4, hO4, hN4⟩ := own_clone elemHm (h1 w (Nw.refl w)) (by omega)
  obtain ⟨y, hy⟩ : ∃ y, w4.alloc (.cells #[.int .i64 x.h.t, .int .i64 x.h.r, .slice x.a x.h.q.length x.c, .int .i64 x.h.W] 56) = y := ⟨_, rfl⟩
  have hal := allocAt w4 (.cells #[.int .i64 x.h.t, .int .i64 x.h.r, .slice x.a x.h.q.length x.c, .int .i64 x.h.W] 56)
  have gy : Nw w4 y := by rw [← hy]; exact (Nw.refl w4).alloc _
  rw [hy] at hal
  have hs4 := hN4.sz
  have hsy := gy.sz
  obtain ⟨v5, w5, hr5, hO5, hg5, _, g5, c5, hv5⟩ := Own.push elemHm (onw hO4 gy) x w4.heap.size 1 (fun j u hu => by
    rw [hcell hal]
    simpa [hmrow] using hu) (by omega) (by omega)
  subst hv5
  have hN5 : Nw w w5 := (hN4.trans gy).gro hg5 (fun b hb => oge hO4 hb)
  obtain ⟨v6, w6, hr6, hO6, hg6⟩ := own_app elemHm hO5 (h2 w5 hN5) (by rw [List.length_append, List.length_singleton]; omega) hN5.sz
  have hN6 : Nw w w6 := hN5.gro hg6 (fun b hb => oge hO5 hb)
  have he : l.take k ++ [x] ++ l.drop nx = l.take k ++ x :: l.drop nx := by simp
  rw [he] at hO6
  obtain ⟨a6, c6, hv6⟩ := (Own.rd elemHm.len hO6).form
  subst hv6
  refine ⟨v4, w4, _, _, c5, w5, a6, _, c6, w6, hr4, hN4, by rw [hy]; exact hr5, hN5, hr6, hN6, ?_⟩
  refine h.row0 hN6 hO6 (Nat.le_refl _) hn0 (fun y hy => ?_) (by rw [List.length_append, List.length_cons]; omega)
  rcases List.mem_append.1 hy with q | q
  · exact .inl (List.mem_of_mem_take q)
  · rcases List.mem_cons.1 q with rfl | q
    · exact .inr ⟨hx.nw hN6, hxn, fun b e hq => rq_low hx.rd e hq⟩
    · exact .inl (List.mem_of_mem_drop q)
end Go.Proofs.YtodnlelnpidliaaGreat
end

/- The document's own bucket: Ask, where it can. -/
section
namespace Go.Proofs.YtodnlelnpidliaaGreat
open Go.RowKit
set_option linter.unusedVariables false      -- a contract need not use every name

theorem ask_open {n : Nat} {hs : List Hq} {L : List Bool} {t r txn m : Int} (he : askBE n hs L t r txn m = 0) : m ≠ 0 ∧ knI m = true ∧ twB hs t r txn = false ∧ liv L < L.length ∧ (getH hs (t, r) = none → hs.length < n) := by
  unfold askBE at he
  by_cases h1 : badM m
  · rw [if_pos h1] at he; cases he
  · rw [if_neg h1] at he
    by_cases h2 : twB hs t r txn = true
    · rw [if_pos h2] at he; cases he
    · rw [if_neg h2] at he
      by_cases h3 : fullB n hs L t r
      · rw [if_pos h3] at he; cases he
      · unfold fullB at h3
        refine ⟨fun e => h1 (.inl e), ?_, by simpa using h2, Nat.lt_of_not_le fun q => h3 (.inr q), fun e => Nat.lt_of_not_le fun q => h3 (.inl ⟨e, q⟩)⟩
        cases e : knI m with
        | true => rfl
        | false => exact absurd (.inr e) h1
/-- The heads behind Ask. -/
theorem ask_row {l : List Hm} (s : SrtH (hsOf l)) {t r : Int} {k : Nat} {b : Bool} (p : PlIs l (t, r) k b) {x : Hm} (hx : nmH x.h = (t, r)) : putH (hsOf l) x.h = hsOf (l.take k ++ x :: l.drop (if b = true then k + 1 else k)) := by
  have hk := p.1
  rcases p.get s with ⟨rfl, h1, h2⟩ | ⟨rfl, hkl, h1, h2⟩
  · have e0 : hsOf l = hsOf (l.take k) ++ hsOf (l.drop k) := by
      unfold hsOf
      rw [← List.map_append, List.take_append_drop]
    have hb : ∀ y ∈ hsOf (l.take k), nlt (nmH y) (nmH x.h) := by
      intro y hy
      rw [hx]
      obtain ⟨z, hz, rfl⟩ := List.mem_map.1 hy
      obtain ⟨j, hj, rfl⟩ := List.getElem_of_mem hz
      simp only [List.length_take] at hj
      rw [List.getElem_take]
      exact p.2.1 j (by omega) (by omega)
    have ha : ∀ y ∈ hsOf (l.drop k), nlt (nmH x.h) (nmH y) := by
      intro y hy
      rw [hx]
      obtain ⟨z, hz, rfl⟩ := List.mem_map.1 hy
      obtain ⟨j, hj, rfl⟩ := List.getElem_of_mem hz
      simp only [List.length_drop] at hj
      rw [List.getElem_drop]
      exact h2 (k + j) (by omega) (by omega)
    rw [e0, put_split hb, put_new ha]
    simp [hsOf]
  · rw [put_set s hkl (x := x) (hx.trans h1.symm), List.set_eq_take_append_cons_drop, if_pos hkl]
    rfl
theorem rd_take {w z : World} {g0 : Nat} {g c k : Nat} {l : List Hm} (h : HmOwn w g0 (.slice (some ⟨g, 0, none⟩) l.length c) l) (hk : k ≤ l.length) (q : Nw w z) : Rd 4 hmrow z (.slice (some ⟨g, 0, none⟩) k c) (l.take k) := (Own.rd elemHm.len (hown_pre h rfl hk)).nw q
theorem rd_drop {w z : World} {g0 : Nat} {g c k : Nat} {l : List Hm} (h : HmOwn w g0 (.slice (some ⟨g, 0, none⟩) l.length c) l) (hk : k ≤ l.length) (q : Nw w z) : Rd 4 hmrow z (.slice (some ⟨g, k * 4, none⟩) (l.length - k) (c - k)) (l.drop k) := by
  have hp := ((hown_rdc h).nw q).part k (l.length - k)
  rw [Nat.zero_add, List.take_of_length_le (by rw [List.length_drop]; omega)] at hp
  exact ⟨_, c - k, by rw [List.length_drop], .inr ⟨g, k * 4, rfl, hp⟩⟩
theorem rd_end {z : World} {g c k : Nat} {l : List Hm} (hk : l.length ≤ k) : Rd 4 hmrow z (.slice (some ⟨g, 0, none⟩) (l.length - k) c) (l.drop k) :=
  ⟨_, c, by rw [List.length_drop], .inl ⟨List.drop_eq_nil_of_le hk, fun q => by cases q⟩⟩
/-- What Take leaves of a box and the bucket. -/
theorem ask_l1 {w u1 u2 : World} {o po n pg pb : Nat} {v : Value} {l : List Hm} {x : Obj} (h : Rb w o po n v l) (gu : Nw w u1) (hpw : w.heap.size ≤ pb) (hpg : pg < o) (hbx : u1.heap[pb]? = some x) (hT2 : Tch (fun k => k = pg) u1 u2) :
    u2.heap[pb]? = some x ∧ Rb u2 o po n v l := by
  have hol := h.ol
  exact ⟨(hT2.block pb (hlt hbx) (fun e => by omega)).trans hbx, (h.nw gu).low hT2 (fun b e => by omega)⟩
/-- What the queue's Ask and the store of its head leave. -/
theorem ask_l2 {w u1 u2 u3 : World} {o po n pg pb : Nat} {v : Value} {l : List Hm} {T : TypeId} {c0 c1 c2 c3 : Value} (h : Rb w o po n v l) (gu : Nw w u1) (hpw : w.heap.size ≤ pb) (hpg : pg < o) (hbx : u2.heap[pb]? = some (.cells #[c0, c1, c2, c3] T)) (hT2 : Tch (fun k => k = pg) u1 u2) (hR2 : Rb u2 o po n v l) {L : List Bool} (hRp : Rp u2 po pg L)
    (g3 : Nw u2 u3) {t r AW : Int} {AQ : List Rq} {a3 : Option Addr} {al n3 : Nat} (hAl : AQ.length = al) (hA : AQ.length ≤ 1000) (hrd3 : RqAt u3 (.slice a3 al n3) AQ) (hcap3 : al ≤ n3) (hnew3 : newV u2.heap.size (.slice a3 al n3)) :
    u3.heap[pb]? = some (.cells #[c0, c1, c2, c3] T) ∧ Rb u3 o po n v l ∧ ((((u3.setCell ⟨pb, 0, none⟩ (.int .i64 t)).setCell ⟨pb, 1, none⟩ (.int .i64 r)).setCell ⟨pb, 2, none⟩ (.slice a3 al n3)).setCell ⟨pb, 3, none⟩ (.int .i64 AW)).heap[pb]? = some (.cells #[.int .i64 t, .int .i64 r, .slice a3 AQ.length n3, .int .i64 AW] T) ∧
      Rb ((((u3.setCell ⟨pb, 0, none⟩ (.int .i64 t)).setCell ⟨pb, 1, none⟩ (.int .i64 r)).setCell ⟨pb, 2, none⟩ (.slice a3 al n3)).setCell ⟨pb, 3, none⟩ (.int .i64 AW)) o po n v l ∧
      HmOk ((((u3.setCell ⟨pb, 0, none⟩ (.int .i64 t)).setCell ⟨pb, 1, none⟩ (.int .i64 r)).setCell ⟨pb, 2, none⟩ (.slice a3 al n3)).setCell ⟨pb, 3, none⟩ (.int .i64 AW)) o none ⟨⟨t, r, AW, AQ⟩, a3, n3⟩ ∧ newV w.heap.size (hmV ⟨⟨t, r, AW, AQ⟩, a3, n3⟩) ∧ w.heap.size ≤ ((((u3.setCell ⟨pb, 0, none⟩ (.int .i64 t)).setCell ⟨pb, 1, none⟩ (.int .i64 r)).setCell ⟨pb, 2, none⟩ (.slice a3 al n3)).setCell ⟨pb, 3, none⟩ (.int .i64 AW)).heap.size ∧
      Tch (fun b => b = o ∨ v.ownBlock = some b ∨ b = pg) w ((((u3.setCell ⟨pb, 0, none⟩ (.int .i64 t)).setCell ⟨pb, 1, none⟩ (.int .i64 r)).setCell ⟨pb, 2, none⟩ (.slice a3 al n3)).setCell ⟨pb, 3, none⟩ (.int .i64 AW)) ∧ Rp ((((u3.setCell ⟨pb, 0, none⟩ (.int .i64 t)).setCell ⟨pb, 1, none⟩ (.int .i64 r)).setCell ⟨pb, 2, none⟩ (.slice a3 al n3)).setCell ⟨pb, 3, none⟩ (.int .i64 AW)) po pg L := by
  have hol := h.ol
  have hpl := h.pl
  have hb5 := g3.at' hbx
  have hb6 := box_put hb5 (.int .i64 t) (.int .i64 r) (.slice a3 al n3) (.int .i64 AW)
  have ht6 := box_tch u3 pb (.int .i64 t) (.int .i64 r) (.slice a3 al n3) (.int .i64 AW)
  have hwu : w.heap.size ≤ u2.heap.size := Nat.le_trans gu.sz hT2.size
  have hpu : pb < u2.heap.size := hlt hbx
  have hR3 := hR2.nw g3
  have hs3 := g3.sz
  generalize ((((u3.setCell ⟨pb, 0, none⟩ (.int .i64 t)).setCell ⟨pb, 1, none⟩ (.int .i64 r)).setCell ⟨pb, 2, none⟩ (.slice a3 al n3)).setCell ⟨pb, 3, none⟩ (.int .i64 AW)) = u4 at *
  have hs4 := ht6.size
  subst hAl
  refine ⟨hb5, hR3, hb6, hR3.tchS ht6 (fun e => by omega) (fun b e q => by have := olt h.own e; omega) (fun x hx b e hne q => by have := rq_low (h.ok x hx).rd e hne; omega), ⟨rq_tch hrd3 ht6 (fun a i j e q => by have := hnew3 a i j e; omega), hcap3, hA, fun b i j e => ?_, fun b e hne q => by cases q⟩, fun b i j e => ?_, by omega,
    (((Tch.nw gu).trans' hT2 (fun i _ e => .inr (.inr e))).trans (Tch.nw g3)).trans' ht6 (fun i hi e => by omega), (hRp.nw g3).tch ht6 (fun e => by omega) (fun e => by omega)⟩
  · have := hnew3 b i j e
    omega
  · have := hnew3 b i j e
    omega
/-- The runs of Ask's three appends, and what it comes to. -/
theorem ask_l3 {w u4 : World} {o po n pg pb : Nat} {v : Value} {l : List Hm} {T : TypeId} {L : List Bool} {t r txn m : Int} (h : Rb w o po n v l) (s : SrtH (hsOf l)) (hpg : pg < o) (he : askBE n (hsOf l) L t r txn m = 0) {k : Nat} {b : Bool} (p : PlIs l (t, r) k b) {W : Int} {Q : List Rq} (hhd : hdB (hsOf l) t r = ⟨t, r, W, Q⟩) {AW : Int} {AQ : List Rq} {AG : Bool} (hA : askQ W Q (fre L) txn m = (AW, AQ, AG))
    {a3 : Option Addr} {al n3 : Nat} (hAl : AQ.length = al) (hb : u4.heap[pb]? = some (.cells #[.int .i64 t, .int .i64 r, .slice a3 AQ.length n3, .int .i64 AW] T)) (hR4 : Rb u4 o po n v l) (hX : HmOk u4 o none ⟨⟨t, r, AW, AQ⟩, a3, n3⟩) (hXn : newV w.heap.size (hmV ⟨⟨t, r, AW, AQ⟩, a3, n3⟩)) (hw4 : w.heap.size ≤ u4.heap.size) (hT : Tch (fun b => b = o ∨ v.ownBlock = some b ∨ b = pg) w u4) (hRp : Rp u4 po pg (tkL L))
    {nx : Nat} (hnx : nx = if b = true then k + 1 else k) (hkn : nx ≤ l.length) (hl : k + 1 + (l.length - nx) ≤ 64) {v1 v2 : Value} (h1 : ∀ z, Nw u4 z → Rd 4 hmrow z v1 (l.take k)) (h2 : ∀ z, Nw u4 z → Rd 4 hmrow z v2 (l.drop nx)) :
    ∃ v4 w4 a5 n5 c5 w5 a6 n6 c6 w6, (Builtin.append_ #[43, 43] 43 #[.slice (some ⟨u4.heap.size, 0, none⟩) 0 0, v1]).run Tryz.prog (u4.alloc (.cells #[] 56)) = .ok v4 w4 ∧ Nw u4 w4 ∧
      (Builtin.append_ #[43, 43] 43 #[v4, .slice (some ⟨w4.heap.size, 0, none⟩) 1 1]).run Tryz.prog (w4.alloc (.cells #[.int .i64 t, .int .i64 r, .slice a3 al n3, .int .i64 AW] 56)) = .ok (.slice a5 n5 c5) w5 ∧ Nw u4 w5 ∧
      (Builtin.append_ #[43, 43] 43 #[.slice a5 n5 c5, v2]).run Tryz.prog w5 = .ok (.slice a6 n6 c6) w6 ∧ Nw u4 w6 ∧
      AskTo w o po pg n v l L t r txn m (.returned (.tuple #[.int .i64 (fre L), .bool AG, .int .i64 0])) (w6.setCell ⟨o, 2, none⟩ (.slice a6 n6 c6)) := by
  have hpl := h.pl
  have hkn2 : k ≤ nx := by rw [hnx]; split <;> omega
  obtain ⟨v4, w4, a5, n5, c5, w5, a6, n6, c6, w6, hr4, hN4, hr5, hN5, hr6, hN6, hE6⟩ := rb_ins hR4 k nx p.1 hkn2 hkn hl hw4 ⟨⟨t, r, AW, AQ⟩, a3, n3⟩ hb hX hXn h1 h2
  subst hAl
  refine ⟨v4, w4, a5, n5, c5, w5, a6, n6, c6, w6, hr4, hN4, hr5, hN5, hr6, hN6, ?_⟩
  unfold AskTo askBR askBS
  rw [if_pos he, if_pos he, hhd, hA]
  refine ⟨rfl, hRp.tch hE6.2.1 (fun e => by omega) (fun e => by omega), _, _, ?_, hE6.1, hT.trans' hE6.2.1 (fun i _ e => .inl e), hE6.2.2⟩
  unfold askH
  rw [hhd, hA]
  subst hnx
  exact (ask_row s p (x := ⟨⟨t, r, AW, AQ⟩, a3, n3⟩) rfl).symm
theorem ask_hd {l : List Hm} {t r : Int} {k : Nat} (hkl : k < l.length) (hnk : nmH l[k].h = (t, r)) (hgn : getH (hsOf l) (t, r) = some l[k].h) : hdB (hsOf l) t r = ⟨t, r, l[k].h.W, l[k].h.q⟩ ∧ l[k].h.t = t ∧ l[k].h.r = r := by
  unfold nmH at hnk
  injection hnk with e1 e2
  refine ⟨?_, e1, e2⟩
  unfold hdB
  rw [hgn]
  show l[k].h = _
  rw [← e1, ← e2]
theorem ask_len {W : Int} {Q : List Rq} {id txn m : Int} {AW : Int} {AQ : List Rq} {AG : Bool} (hA : askQ W Q id txn m = (AW, AQ, AG)) : AQ.length = Q.length + 1 := by
  have h1 := congrArg (fun X => X.2.1.length) hA
  have h2 : (askQ W Q id txn m).2.1.length = Q.length + 1 := by unfold askQ; split <;> simp
  simp only at h1
  omega
end Go.Proofs.YtodnlelnpidliaaGreat
end
