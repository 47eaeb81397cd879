/- Texts merged: BkZMC, BkZA, BkZH, BkZN, BeI, BeJ, BeK, BeL -/
import Derived.Test.YtodnlelnpidliaaGreatBucketScriptB31
import Derived.Deep.CutRange

/- The document's own bucket: Ask. -/
section
namespace Go.Proofs.YtodnlelnpidliaaGreat
open Go.RowKit
set_option linter.unusedVariables false      -- a contract need not use every name

theorem rb_ask {w : World} {o po n kk : Nat} {v : Value} {l : List Hm} (h : Rb w o po n v l) {pg : Nat} {L : List Bool} (b : BInv n kk (hsOf l) L) (hk : kk < 1000) (hn : n ≤ 64) (hp : Rp w po pg L) (hpg : pg < o) (t r txn m : Int) :
    Calls Tryz.prog 43 #[.pointer (some ⟨o, 0, none⟩), .agg #[.int .i64 t, .int .i64 r], .int .i64 txn, .int .i64 m] w (AskTo w o po pg n v l L t r txn m) := by
  have hok : ∀ x ∈ l, Ok x.h.W x.h.q := fun x hx => (b.inv _ (List.mem_map.2 ⟨x, hx, rfl⟩)).ok
  have hq : ∀ x ∈ l, x.h.q.length < 1000 := fun x hx => Nat.lt_of_le_of_lt (b.ql _ (List.mem_map.2 ⟨x, hx, rfl⟩)) hk
  by_cases he : askBE n (hsOf l) L t r txn m = 0
  · obtain ⟨h1, h2, _⟩ := ask_can b he
    by_cases hg : getH (hsOf l) (t, r) = none
    · exact rb_ask_new h b.srt hok hq hp hpg hn t r txn m he h1 h2 hg
    · exact rb_ask_old h b.srt hok hq hp hpg hn t r txn m he h1 h2 hg
  · exact rb_ask_no h b.srt hok hq hp hpg t r txn m he
end Go.Proofs.YtodnlelnpidliaaGreat
end

/- The document's own bucket: Abandon. -/
section
namespace Go.Proofs.YtodnlelnpidliaaGreat
open Go.RowKit
set_option linter.unusedVariables false      -- a contract need not use every name

theorem ab_found {q : List Rq} {id : Int} {r : Rq} (hf : fnd q id = some r) : (fnd (abQ r q) id).isSome = !decide (r.md = 0) := by
  obtain ⟨hr, hi⟩ := fnd_is hf
  unfold abQ
  by_cases hm : r.md = 0
  · rw [if_pos hm]
    have : fnd (lvQ r.id q) id = none := by
      refine List.find?_eq_none.2 fun x hx => ?_
      have := (List.mem_filter.1 hx).2
      rw [← hi]
      simpa using this
    rw [this]
    simp [hm]
  · rw [if_neg hm]
    have : (fnd (chg abR r.id q) id).isSome = true := by
      unfold fnd
      rw [List.find?_isSome]
      exact ⟨abR r, List.mem_map.2 ⟨r, hr, if_pos rfl⟩, by simp [abR, hi]⟩
    rw [this]
    simp [hm]
theorem rqB_some {h : Hq} {id : Int} (hf : (fnd h.q id).isSome = true) : fnd h.q id = some (rqB h id) := by
  unfold rqB
  cases e : fnd h.q id with
  | none => rw [e] at hf; cases hf
  | some r => rfl
theorem abRes_of {h : Hq} {id : Int} (hf : (fnd h.q id).isSome = true) : abRes h id = if 0 < (rqB h id).sn then (⟨h.t, h.r, h.W, abQ (rqB h id) h.q⟩, 0) else (noH, 7) := by
  have := rqB_some hf
  unfold abRes
  rw [this]
set_option maxRecDepth 20000 in
set_option maxHeartbeats 1000000 in
theorem rb_abandon {w : World} {o po : Nat} {most : Int} {v : Value} {l : List Hm} (h : Rb w o po most v l) (s : SrtH (hsOf l)) (hok : ∀ x ∈ l, Ok x.h.W x.h.q) {pg : Nat} {L : List Bool} (hp : Rp w po pg L) (hpg : pg < o) (id : Int) :
    Calls Tryz.prog 41 #[.pointer (some ⟨o, 0, none⟩), .int .i64 id] w fun e w' => ∃ vi, e = .returned (.tuple #[vi, .int .i64 (abBR (hsOf l) id).2]) ∧ IS w' vi (abBR (hsOf l) id).1 ∧ Rp w' po pg (abBS (hsOf l) L id).2 ∧ ∃ v' l', hsOf l' = (abBS (hsOf l) L id).1 ∧ RbTo w o po pg most v l w' v' l' := by
  obtain ⟨a, c, rfl, hf⟩ := h.form
  have HF := Lib.hid hf
  have H := Lib.hid h
  have HS := Lib.hid s
  have HO := Lib.hid hok
  have HPl := Lib.hid hp
  have hol := h.ol
  have hpl := h.pl
  have HP := Lib.hid (rb_of h id)
  obtain ⟨E, hE⟩ : ∃ E, abBR (hsOf l) id = E := ⟨_, rfl⟩
  obtain ⟨T, hT⟩ : ∃ T, abBS (hsOf l) L id = T := ⟨_, rfl⟩
  rw [hE, hT]
  have HE := Lib.hid hE
  have HT := Lib.hid hT
  clear h hf s hok hE hT hp
  go_enter Tryz.func41, Tryz.ntmps41
  go_wp2_with fail
  refine HP.out.mono ?_
  rintro e w1 ⟨i, rfl, hi, g1⟩
  have HN1 := Lib.hid g1
  rcases hi.of with ⟨rfl, ho⟩ | ⟨k, rfl, hk, ho⟩
  · have HR := Lib.hid (HE.out.symm.trans (show abBR (hsOf l) id = ([], 5) by unfold abBR; rw [ho]))
    have HR2 := Lib.hid (HT.out.symm.trans (show abBS (hsOf l) L id = (hsOf l, L) by unfold abBS; rw [ho]))
    clear HE HT HP ho hi g1
    go_wp2
    refine bodyPost_ret (v := .tuple #[.slice none 0 0, .int .i64 5]) (by simp [results, Tryz.results41, go_sem, *]) rfl ?_
    exact ⟨_, by rw [HR.out], by rw [HR.out]; exact is_nil _, by rw [HR2.out]; exact HPl.out.nw HN1.out, _, l, by rw [HR2.out], H.out.same HN1.out pg⟩
  · rcases HF.out with ⟨_, e, _⟩ | ⟨g, rfl, hog, hgl⟩
    · subst e; simp at hk
    have hfs := (of_isSome ho).2
    have HW := Lib.hid (H.out.nw HN1.out)
    have hx := HW.out.ok _ (List.getElem_mem hk)
    have hokx := HO.out _ (List.getElem_mem hk)
    obtain ⟨f0, f1, f2, f3⟩ := HW.out.at_ k hk
    have hl1 := HW.out.len
    have hki : (k : Int) < (l.length : Int) := by omega
    have c2 := HW.out.c2
    have hfe := rqB_some hfs
    have HG := Lib.hid (fun w2 (g : Nw w1 w2) => r9abandonN l[k].h.t l[k].h.r l[k].h.W id (hmV l[k]) l[k].h.q w2 hx.len hokx hx.cap (hx.rd.nw g))
    rw [show (⟨l[k].h.t, l[k].h.r, l[k].h.W, l[k].h.q⟩ : Hq) = l[k].h from rfl, abRes_of hfs] at HG
    have hR := HE.out.symm.trans (show abBR (hsOf l) id = if 0 < (rqB l[k].h id).sn then ((scanQ (abQ (rqB l[k].h id) l[k].h.q)).1, 0) else ([], 7) by unfold abBR; rw [ho])
    have hR2 := HT.out.symm.trans (show abBS (hsOf l) L id = if 0 < (rqB l[k].h id).sn then (endS (hsOf l) ⟨l[k].h.t, l[k].h.r, l[k].h.W, abQ (rqB l[k].h id) l[k].h.q⟩, if (rqB l[k].h id).md = 0 then gvL L id else L) else (hsOf l, L) by unfold abBS; rw [ho])
    have hfo := ab_found hfe
    have hln := Nat.le_trans (abQ_len (rqB l[k].h id) l[k].h.q) hx.len
    have hokq := ok_ab hokx (rqB l[k].h id) (fnd_is hfe).1
    have HNm := Lib.hid (show (l[k].h.t, l[k].h.r) = nmH l[k].h from rfl)
    clear HE HT ho hi hx hokx hfs hfe HP
    unfold hdV hmV at HG
    generalize l[k].a = qa at *
    generalize l[k].c = qc at *
    obtain ⟨n, hn⟩ : ∃ n, l[k].h.q.length = n := ⟨_, rfl⟩
    rw [hn] at f2 HG
    obtain ⟨Q, hQ⟩ : ∃ Q, abQ (rqB l[k].h id) l[k].h.q = Q := ⟨_, rfl⟩
    rw [hQ] at HG hR hR2 hln hokq hfo
    generalize rqB l[k].h id = R at *
    obtain ⟨ht, ht'⟩ : ∃ t, l[k].h.t = t := ⟨_, rfl⟩
    obtain ⟨hr, hr'⟩ : ∃ r, l[k].h.r = r := ⟨_, rfl⟩
    obtain ⟨hW, hW'⟩ : ∃ W, l[k].h.W = W := ⟨_, rfl⟩
    rw [ht'] at f0 HG HNm hR2
    rw [hr'] at f1 HG HNm hR2
    rw [hW'] at f3 HG hokq hR2
    have HLn := Lib.hid hln
    have HOk := Lib.hid hokq
    have HFo := Lib.hid hfo
    clear hn hQ ht' hr' hW' g1 hln hokq hfo
    by_cases hsn : 0 < R.sn
    · rw [if_pos hsn] at HG hR hR2
      have HR := Lib.hid hR
      have HR2 := Lib.hid hR2
      clear hR hR2 hsn
      go_wp2_with fail
      refine (HG.out _ (Nw.refl _)).mono ?_
      rintro e w2 ⟨v2, rfl, g2, hrd, hcap, hnew⟩
      obtain ⟨a2, n2, rfl⟩ := hrd.form
      simp only [hdV]
      have hal := allocAt w2 (.cells #[.int .i64 ht, .int .i64 hr, .slice a2 Q.length n2, .int .i64 hW] 56)
      have hNa : Nw w2 (w2.alloc (.cells #[.int .i64 ht, .int .i64 hr, .slice a2 Q.length n2, .int .i64 hW] 56)) := (Nw.refl w2).alloc _
      have hNq := g2.trans hNa
      have hrd2 := hrd.nw hNa
      have hgot := HW.out.got hNq ⟨ht, hr, hW, Q⟩ hrd2 hcap hnew HLn.out
      obtain ⟨q0, q1, q2, q3, q4, hv, _⟩ := fndV_eq Q id
      have HF2 := Lib.hid (r9find ht hr hW id (.slice a2 Q.length n2) Q _ HLn.out hrd2)
      unfold hdV at HF2
      rw [hv, HFo.out] at HF2
      have HK := Lib.hid (And.intro hgot (And.intro hNq hal))
      have hg2 := g2.sz
      clear hrd hcap hnew hrd2 g2 HG f0 f1 f2 f3 c2 hgot hv hNq hNa
      have p0 : (w2.alloc (.cells #[.int .i64 ht, .int .i64 hr, .slice a2 Q.length n2, .int .i64 hW] 56)).cell? ⟨w2.heap.size, 0, none⟩ = some (.int .i64 ht) := hcell hal
      clear hal p0
      go_wp2_with fail
      generalize w2.alloc (.cells #[.int .i64 ht, .int .i64 hr, .slice a2 Q.length n2, .int .i64 hW] 56) = y2 at *
      refine HF2.out.mono ?_
      rintro e w3 ⟨rfl, g3⟩
      have hN3 := HN1.out.trans (HK.out.2.1.trans g3)
      have hNz : Nw w3 (w3.alloc (.cells #[.int .i64 q0, .int .i64 q1, .int .i64 q2, .int .i64 q3, .int .i64 q4] 47)) := (Nw.refl w3).alloc _
      have hN4 := hN3.trans hNz
      have HB3 := Lib.hid (g3.at' HK.out.2.2)
      have hb4 := hNz.at' HB3.out
      have hgot4 := (HK.out.1.nw g3).nw hNz
      have c1 := (H.out.nw hN4).c1
      have hs2 : w2.heap.size < y2.heap.size := hlt HK.out.2.2
      have hs3 := g3.sz
      have HGv := Lib.hid (rgive_at (HPl.out.nw hN4) id)
      have HA := Lib.hid (And.intro hN4 (And.intro hb4 hgot4))
      clear hN3 hNz hN4 hb4 hgot4 g3 HF2
      by_cases hm : R.md = 0
      · rw [if_pos hm] at HR2
        have hd : (!decide (R.md = 0)) = false := by simp [hm]
        rw [hd]
        clear hm hd
        go_wp2_with fail
        generalize w3.alloc (.cells #[.int .i64 q0, .int .i64 q1, .int .i64 q2, .int .i64 q3, .int .i64 q4] 47) = y3 at *
        refine HGv.out.mono ?_
        rintro e w4 ⟨rfl, hRp, hT3⟩
        have hb3 := (hT3.block _ (hlt HA.out.2.1) (fun e => by have := HN1.out.sz; omega)).trans HA.out.2.1
        have h3 := (H.out.nw HA.out.1).low hT3 (fun b e => by omega)
        have hX3 := HA.out.2.2.tch hT3 (fun b e => .inl (by omega))
        have HE3 := Lib.hid (rb_end h3 HS.out hk ⟨⟨ht, hr, hW, Q⟩, a2, n2⟩ hX3 HNm.out HOk.out o)
        have HR3 := Lib.hid hRp
        have H3 := Lib.hid h3
        have HT3 := Lib.hid hT3
        have p0 : w4.cell? ⟨w2.heap.size, 0, none⟩ = some (.int .i64 ht) := hcell hb3
        have p1 : w4.cell? ⟨w2.heap.size, 1, none⟩ = some (.int .i64 hr) := hcell hb3
        have p2 : w4.cell? ⟨w2.heap.size, 2, none⟩ = some (.slice a2 Q.length n2) := hcell hb3
        have p3 : w4.cell? ⟨w2.heap.size, 3, none⟩ = some (.int .i64 hW) := hcell hb3
        clear hb3 h3 hX3 hT3 hRp HGv c1 hg2
        go_wp2_with fail
        refine HE3.out.mono ?_
        rintro e w5 ⟨vi, rfl, hIS, v4, l4, hl4, hRT⟩
        have HF4 := Lib.hid (And.intro hIS (And.intro hl4 hRT))
        clear hIS hl4 hRT HE3
        go_wp2
        refine bodyPost_ret (v := .tuple #[vi, .int .i64 0]) (by simp [results, Tryz.results41, go_sem, *]) rfl ?_
        exact ⟨vi, by rw [HR.out], by rw [HR.out]; exact HF4.out.1, by rw [HR2.out]; exact HF4.out.2.2.rp H3.out HR3.out hpg, v4, l4, by rw [HR2.out]; exact HF4.out.2.1, RbTo.pre HA.out.1 (RbTo.low HT3.out HF4.out.2.2.pg)⟩
      · rw [if_neg hm] at HR2
        have hd : (!decide (R.md = 0)) = true := by simp [hm]
        rw [hd]
        clear hm hd HGv c1
        have hb3 := HB3.out
        have hb3l := hlt hb3
        have p0 : w3.cell? ⟨w2.heap.size, 0, none⟩ = some (.int .i64 ht) := hcell hb3
        have p1 : w3.cell? ⟨w2.heap.size, 1, none⟩ = some (.int .i64 hr) := hcell hb3
        have p2 : w3.cell? ⟨w2.heap.size, 2, none⟩ = some (.slice a2 Q.length n2) := hcell hb3
        have p3 : w3.cell? ⟨w2.heap.size, 3, none⟩ = some (.int .i64 hW) := hcell hb3
        clear hb3
        have HE3 := Lib.hid (rb_end (H.out.nw HA.out.1) HS.out hk ⟨⟨ht, hr, hW, Q⟩, a2, n2⟩ HA.out.2.2 HNm.out HOk.out o)
        go_wp2_with fail
        generalize w3.alloc (.cells #[.int .i64 q0, .int .i64 q1, .int .i64 q2, .int .i64 q3, .int .i64 q4] 47) = y3 at *
        refine HE3.out.mono ?_
        rintro e w5 ⟨vi, rfl, hIS, v4, l4, hl4, hRT⟩
        have HF4 := Lib.hid (And.intro hIS (And.intro hl4 hRT))
        clear hIS hl4 hRT HE3
        go_wp2
        refine bodyPost_ret (v := .tuple #[vi, .int .i64 0]) (by simp [results, Tryz.results41, go_sem, *]) rfl ?_
        exact ⟨vi, by rw [HR.out], by rw [HR.out]; exact HF4.out.1, by rw [HR2.out]; exact HF4.out.2.2.rp (H.out.nw HA.out.1) (HPl.out.nw HA.out.1) hpg, v4, l4, by rw [HR2.out]; exact HF4.out.2.1, RbTo.pre HA.out.1 HF4.out.2.2.pg⟩
    · rw [if_neg hsn] at HG hR hR2
      have HR := Lib.hid hR
      have HR2 := Lib.hid hR2
      clear hR hR2 hsn
      go_wp2_with fail
      refine (HG.out _ (Nw.refl _)).mono ?_
      rintro e w2 ⟨v2, rfl, g2, hrd, hcap, hnew⟩
      obtain ⟨a2, n2, rfl⟩ := hrd.form
      simp only [hdV]
      have HN2 := Lib.hid (HN1.out.trans (g2.trans ((Nw.refl w2).alloc (.cells #[.int .i64 noH.t, .int .i64 noH.r, .slice a2 noH.q.length n2, .int .i64 noH.W] 56))))
      clear hrd hcap hnew g2 HG f0 f1 f2 f3 c2
      go_wp2
      refine bodyPost_ret (v := .tuple #[.slice none 0 0, .int .i64 7]) (by simp [results, Tryz.results41, go_sem, *]) rfl ?_
      exact ⟨_, by rw [HR.out], by rw [HR.out]; exact is_nil _, by rw [HR2.out]; exact HPl.out.nw HN2.out, _, l, by rw [HR2.out], H.out.same HN2.out pg⟩
end Go.Proofs.YtodnlelnpidliaaGreat
end

/- The document's own bucket: Heads. -/
section
namespace Go.Proofs.YtodnlelnpidliaaGreat
open Go.RowKit
set_option linter.unusedVariables false      -- a contract need not use every name

/-- What Heads holds between two rounds. -/
structure RhI (w : World) (l : List Hm) (k : Nat) (v : Value) (lm : List Hm) (W : World) : Prop where
  own : HmOwn W (w.heap.size + 1) v lm
  eq : hsOf lm = (hsOf l).take k
  ok : ∀ x ∈ lm, HmOk W w.heap.size v.ownBlock x
  nw : Nw w W
/-- A head has been copied, its copy appended. -/
theorem RhI.push {w W : World} {l : List Hm} {k : Nat} {v : Value} {lm : List Hm} (h : RhI w l k v lm W) (hll : l.length ≤ 64) (hk : k < l.length) (hq : l[k].h.q.length ≤ 1000) {a : Option Addr} {c : Nat} (hrd : RqAt W (.slice a l[k].h.q.length c) l[k].h.q) :
    ∃ a1 c1 w1 v' s0 s1 s2 w3, (Builtin.append_ #[54, 54] 54 #[.slice (some ⟨W.heap.size + 1, 0, none⟩) 0 0, .slice a l[k].h.q.length c]).run Tryz.prog ((W.alloc (.cells #[.int .i64 l[k].h.t, .int .i64 l[k].h.r, .slice a l[k].h.q.length c, .int .i64 l[k].h.W] 56)).alloc (.cells #[] 47)) = .ok (.slice a1 l[k].h.q.length c1) w1 ∧
      w1.heap[W.heap.size]? = some (.cells #[.int .i64 l[k].h.t, .int .i64 l[k].h.r, .slice a l[k].h.q.length c, .int .i64 l[k].h.W] 56) ∧
      (Builtin.append_ #[43, 43] 43 #[v, .slice (some ⟨w1.heap.size, 0, none⟩) 1 1]).run Tryz.prog ((w1.setCell ⟨W.heap.size, 2, none⟩ (.slice a1 l[k].h.q.length c1)).alloc (.cells #[.int .i64 l[k].h.t, .int .i64 l[k].h.r, .slice a1 l[k].h.q.length c1, .int .i64 l[k].h.W] 56)) = .ok v' w3 ∧
      v' = .slice s0 s1 s2 ∧ ∃ lm', RhI w l (k + 1) v' lm' w3 := by
  obtain ⟨z, hz⟩ : ∃ z, W.alloc (.cells #[.int .i64 l[k].h.t, .int .i64 l[k].h.r, .slice a l[k].h.q.length c, .int .i64 l[k].h.W] 56) = z := ⟨_, rfl⟩
  have hal := allocAt W (.cells #[.int .i64 l[k].h.t, .int .i64 l[k].h.r, .slice a l[k].h.q.length c, .int .i64 l[k].h.W] 56)
  have hsz : z.heap.size = W.heap.size + 1 := by rw [← hz]; simp
  have g1 : Nw W z := by rw [← hz]; exact (Nw.refl W).alloc _
  rw [hz] at hal
  rw [hz]
  obtain ⟨v1, w1, hr1, hO1, hN1⟩ := own_clone elemRq (hrd.nw g1) (by omega)
  rw [hsz] at hr1 hO1
  obtain ⟨a1, c1, hv1⟩ := (RqOwn.rd hO1).form
  subst hv1
  have hb1 := hN1.at' hal
  obtain ⟨w2, hw2⟩ : ∃ w2, w1.setCell ⟨W.heap.size, 2, none⟩ (.slice a1 l[k].h.q.length c1) = w2 := ⟨_, rfl⟩
  have t2 : Tch (fun b => b = W.heap.size) w1 w2 := by rw [← hw2]; exact setCell_at w1 ⟨W.heap.size, 2, none⟩ _
  have hs2 : w2.heap.size = w1.heap.size := by rw [← hw2]; simp
  obtain ⟨y, hy⟩ : ∃ y, w2.alloc (.cells #[.int .i64 l[k].h.t, .int .i64 l[k].h.r, .slice a1 l[k].h.q.length c1, .int .i64 l[k].h.W] 56) = y := ⟨_, rfl⟩
  have hal2 := allocAt w2 (.cells #[.int .i64 l[k].h.t, .int .i64 l[k].h.r, .slice a1 l[k].h.q.length c1, .int .i64 l[k].h.W] 56)
  have g3 : Nw w2 y := by rw [← hy]; exact (Nw.refl w2).alloc _
  rw [hy, hs2] at hal2
  have hlm : lm.length = k := by
    have := congrArg List.length h.eq
    simp only [hsOf, List.length_map, List.length_take] at this
    omega
  have hvl : ∀ b, v.ownBlock = some b → b < W.heap.size := fun b e => olt h.own e
  have hvg : ∀ b, v.ownBlock = some b → w.heap.size + 1 ≤ b := fun b e => oge h.own e
  have hw := h.nw.sz
  have hzw := hN1.sz
  have hyw := g3.sz
  have hoy : HmOwn y (w.heap.size + 1) v lm := onw (own_tchS (onw (onw h.own g1) hN1) t2 (fun b hb e => by have := hvl b hb; omega)) g3
  obtain ⟨v', w3, hr3, hO3, hg3, hv3, s0, s2, hvf⟩ := Own.push elemHm hoy ⟨l[k].h, a1, c1⟩ w1.heap.size 1 (fun j u hu => by
    rw [hcell hal2]
    simpa [hmrow] using hu) (by omega) (by omega)
  have keep : ∀ b, b < W.heap.size → v.ownBlock ≠ some b → w3.heap[b]? = W.heap[b]? := fun b hb hv => by
    rw [hg3.block b (by omega) (fun e => hv e.symm), g3.block b (by omega), t2.block b (by omega) (by omega), hN1.block b (by omega), g1.block b hb]
  have keep1 : ∀ b, b < w1.heap.size → b ≠ W.heap.size → v.ownBlock ≠ some b → w3.heap[b]? = w1.heap[b]? := fun b hb hw hv => by
    rw [hg3.block b (by omega) (fun e => hv e.symm), g3.block b (by omega), t2.block b hb hw]
  refine ⟨a1, c1, w1, v', _, _, _, w3, hr1, hb1, ?_, hvf, lm ++ [⟨l[k].h, a1, c1⟩], hO3, ?_, fun x hx => ?_, ?_⟩
  · rw [hw2, hy]; exact hr3
  · unfold hsOf
    rw [List.map_append, List.take_add_one, List.getElem?_map, List.getElem?_eq_getElem hk]
    have := h.eq
    unfold hsOf at this
    rw [this]
    rfl
  · rcases List.mem_append.1 hx with hx | hx
    · have hk1 := h.ok x hx
      refine hk1.blk fun b j u e hne hc => ?_
      have hbl : b.block < W.heap.size := World.block_lt_of_cell? _ ⟨b.block, j, none⟩ hc
      refine ⟨keep b.block hbl (hk1.off b e hne), ?_⟩
      rcases hv3 with q | q
      · rw [q]; exact hk1.off b e hne
      · rw [q]; intro e9; have := Option.some.inj e9; omega
    · obtain rfl : x = ⟨l[k].h, a1, c1⟩ := by simpa using hx
      have hbk : ∀ b, a1 = some b → W.heap.size + 1 ≤ b.block ∧ b.block < w1.heap.size := fun b e => by
        subst e
        rcases oform hO1 with ⟨e, _⟩ | ⟨g', cap, e⟩
        · cases e
        · cases e
          exact ⟨oge hO1 rfl, olt hO1 rfl⟩
      refine ⟨?_, RqOwn.cap hO1, hq, fun b n c e => ?_, fun b e hne => ?_⟩
      · refine rq_blk (RqOwn.rd hO1) fun b n c j u e hne hc => ?_
        unfold hmV at e
        simp only [Value.slice.injEq] at e
        have := hbk b e.1
        exact keep1 b.block (by omega) (by omega) (fun q => by have := hvl _ q; omega)
      · unfold hmV at e
        simp only [Value.slice.injEq] at e
        have := hbk b e.1
        omega
      · have := hbk b e
        rcases hv3 with q | q
        · rw [q]; intro q; have := hvl _ q; omega
        · rw [q]; intro e9; have := Option.some.inj e9; omega
  · refine Nw.gro (((((h.nw.trans g1).trans hN1).st (p := ⟨W.heap.size, 2, none⟩) hw (.slice a1 l[k].h.q.length c1))).trans ?_) hg3 (fun b hb => by have := hvg b hb; omega)
    rw [hw2]; exact g3
set_option maxRecDepth 20000 in
set_option maxHeartbeats 2000000 in
theorem rb_heads {w : World} {o po : Nat} {most : Int} {v : Value} {l : List Hm} (h : Rb w o po most v l) :
    Calls Tryz.prog 15 #[.pointer (some ⟨o, 0, none⟩)] w (HdPost w (hsOf l)) := by
  obtain ⟨a, c, rfl, hf⟩ := h.form
  have HF := Lib.hid hf
  have H := Lib.hid h
  have hll := h.len
  have hol := h.ol
  clear h hf
  go_enter Tryz.func15, Tryz.ntmps15
  go_wp2_with fail
  go_loopw [3, 4] (fun vi i wr => ∃ (k : Nat) (lm : List Hm) (s0 : Option Addr) (s1 s2 : Nat), vi = .slice s0 s1 s2 ∧ i = .int .i64 k ∧ k ≤ l.length ∧ Hid (RhI w l k (.slice s0 s1 s2) lm wr)) (fun _ i _ => l.length - (intOf i).toNat)
  case atStart => exact ⟨0, [], none, 0, 0, rfl, rfl, Nat.zero_le _, World.ownsRow_nil _ _ _ _, by simp [hsOf], by simp, Nw.refl _⟩
  case round =>
    obtain ⟨k, lm, s0, s1, s2, rfl, rfl, hk, HI⟩ := hrel
    have HR := Lib.hid (H.out.nw HI.out.nw)
    have c2 := HR.out.c2
    have hor : o < wr.heap.size := Nat.lt_of_lt_of_le hol HI.out.nw.sz
    by_cases hlt : k < l.length
    · rcases HF.out with ⟨_, e, _⟩ | ⟨g, rfl, _, _⟩
      · rw [e] at hlt; simp at hlt
      obtain ⟨e0, e1, e2, e3⟩ := HR.out.at_ k hlt
      have hx := HR.out.ok _ (List.getElem_mem hlt)
      have hki : (k : Int) < (l.length : Int) := by omega
      have hwk : wrap64 ((k : Int) + 1) = (k : Int) + 1 := by unfold wrap64; omega
      have hrd := hx.rd
      unfold hmV at hrd
      obtain ⟨a1, c1, w1, v', t0, t1, t2, w3, hr1, hb1, hr3, rfl, lm', hI3⟩ := HI.out.push hll hlt hx.len hrd
      have HR1 := Lib.hid hr1
      have HR3 := Lib.hid hr3
      have HI3 := Lib.hid hI3
      have hsz : (wr.alloc (.cells #[.int .i64 l[k].h.t, .int .i64 l[k].h.r, .slice l[k].a l[k].h.q.length l[k].c, .int .i64 l[k].h.W] 56)).heap.size = wr.heap.size + 1 := by simp
      have b0 := hcell (j := 0) hb1
      have b1 := hcell (j := 1) hb1
      have b2 := hcell (j := 2) hb1
      have b3 := hcell (j := 3) hb1
      have bz := fun j => hfz (j := j) hb1
      have bl := Go.Proofs.YtodnlelnpidliaaGreat.hlt hb1
      clear hx hrd hr1 hr3 hI3 hb1
      go_wp2_with (at_builtin; first | (refine wpl_app (by rfl) (.tmp 22) (.tmp 24) 54 rfl _ _ _ _ (by first | rfl | simp [Act.eval, *]) (by first | rfl | simp [Act.eval, *]) HR1.out ?_) | (refine wpl_app (by rfl) (.tmp 27) (.tmp 29) 43 rfl _ _ _ _ (by first | rfl | simp [Act.eval, *]) (by first | rfl | simp [Act.eval, *]) HR3.out ?_))
      go_roundw
      case rel => exact ⟨k + 1, lm', _, _, _, rfl, congrArg (Value.int .i64) (by omega), hlt, HI3⟩
      case measure => simp [intOf]; omega
    · obtain rfl : k = l.length := by omega
      have HE : Hid (HdPost w (hsOf l) (.returned (.slice s0 s1 s2)) wr) := by
        have e := HI.out.eq
        rw [show l.length = (hsOf l).length by simp [hsOf], List.take_length] at e
        exact ⟨_, rfl, ⟨lm, HI.out.own, e, HI.out.ok⟩, HI.out.nw⟩
      clear HI HR
      go_wp2
      go_ret
      exact HE.out
end Go.Proofs.YtodnlelnpidliaaGreat
end

/- The document's own bucket: New. -/
section
namespace Go.Proofs.YtodnlelnpidliaaGreat
open Go.RowKit
set_option linter.unusedVariables false      -- a contract need not use every name

theorem rb_made (w : World) (n : Int) (po : Nat) (hpo : po < w.heap.size) (T : TypeId) : Rb (w.alloc (.cells #[.int .i64 n, .pointer (some ⟨po, 0, none⟩), .slice none 0 0] T)) w.heap.size po n (.slice none 0 0) [] := by
  have h := allocAt w (.cells #[.int .i64 n, .pointer (some ⟨po, 0, none⟩), .slice none 0 0] T)
  exact ⟨hcell h, hcell h, hcell h, fun j => hfz h, hlt h, hpo, ⟨rfl, .inl ⟨rfl, rfl⟩⟩, fun x hx => by simp at hx, Nat.zero_le _⟩
theorem rb_new (n : Nat) (h1 : 1 ≤ n) (h2 : n ≤ 64) (po : Nat) (w : World) (hpo : po < w.heap.size) :
    Calls Tryz.prog 11 #[.int .i64 n, .pointer (some ⟨po, 0, none⟩)] w fun e w' => ∃ o, e = .returned (.tuple #[.pointer (some ⟨o, 0, none⟩), .int .i64 0]) ∧ w.heap.size ≤ o ∧ Rb w' o po n (.slice none 0 0) [] ∧ Nw w w' := by
  have HR := Lib.hid (rb_made w n po hpo 79)
  have HN := Lib.hid ((Nw.refl w).alloc (.cells #[.int .i64 n, .pointer (some ⟨po, 0, none⟩), .slice none 0 0] 79))
  have d1 : decide ((n : Int) < 1) = false := by simp; omega
  have d2 : decide ((64 : Int) < (n : Int)) = false := by simp; omega
  have d3 : decide (64 < n) = false := by simp; omega
  have d4 : ¬ (n = 0) := by omega
  go_enter Tryz.func11, Tryz.ntmps11
  go_wp2
  refine bodyPost_ret (v := .tuple #[.pointer (some ⟨w.heap.size, 0, none⟩), .int .i64 0]) (by simp [results, Tryz.results11, go_sem, *]) rfl ?_
  exact ⟨_, rfl, Nat.le_refl _, HR.out, HN.out⟩
theorem rb_new_bad (n : Int) (p : Option Addr) (w : World) (h : n < 1 ∨ 64 < n ∨ p = none) :
    Calls Tryz.prog 11 #[.int .i64 n, .pointer p] w fun e w' => e = .returned (.tuple #[.pointer none, .int .i64 2]) ∧ w = w' := by
  by_cases h1 : n < 1
  · have d1 : decide (n < 1) = true := by simpa using h1
    clear h
    go_enter Tryz.func11, Tryz.ntmps11
    go_wp2
    exact bodyPost_ret (v := .tuple #[.pointer none, .int .i64 2]) (by simp [results, Tryz.results11, go_sem]) rfl ⟨rfl, rfl⟩
  · by_cases h2 : 64 < n
    · have d2 : decide (64 < n) = true := by simpa using h2
      clear h
      go_enter Tryz.func11, Tryz.ntmps11
      go_wp2
      exact bodyPost_ret (v := .tuple #[.pointer none, .int .i64 2]) (by simp [results, Tryz.results11, go_sem]) rfl ⟨rfl, rfl⟩
    · obtain rfl : p = none := by rcases h with h | h | h; exact absurd h h1; exact absurd h h2; exact h
      go_enter Tryz.func11, Tryz.ntmps11
      go_wp2
      exact bodyPost_ret (v := .tuple #[.pointer none, .int .i64 2]) (by simp [results, Tryz.results11, go_sem]) rfl ⟨rfl, rfl⟩
end Go.Proofs.YtodnlelnpidliaaGreat
end

/- BucketScript: both buckets side by side: what each call does to both. -/
section
namespace Go.Proofs.YtodnlelnpidliaaGreat
open Go.RowKit Go.Shelf
set_option linter.unusedVariables false

/-- All blocks that the developers' bucket uses, and all of the document's. -/
def DvIn (o mb : Nat) (l : List Hp) (F : Nat → Prop) (b : Nat) : Prop := b = o ∨ b = mb ∨ F b ∨ HdIn l b
def DcIn (ro rpo rpg : Nat) (v : Value) (lm : List Hm) (b : Nat) : Prop := RbIn ro v lm b ∨ b = rpo ∨ b = rpg
theorem dv_lt {W : World} {o mb po n : Nat} {l : List Hp} {L : List Bool} {F : Nat → Prop} (h : Db W o mb po n l L F) : ∀ b, DvIn o mb l F b → b < W.heap.size := by
  rintro b (rfl | rfl | e | ⟨x, hx, rfl | ⟨a, e, hq, rfl⟩⟩)
  · exact h.ol
  · exact h.map.lt
  · exact h.pol.own b e
  · exact (h.ok x hx).lt
  · obtain ⟨a', c, e1, ⟨q, _⟩ | ⟨b', o', e2, hc⟩⟩ := (h.ok x hx).rd
    · exact absurd q hq
    · unfold hpV at e1
      rw [e, e2] at e1
      injection e1 with e1 _ _
      injection e1 with e1
      subst e1
      exact hc.lt
theorem dc_lt {W : World} {ro rpo rpg n : Nat} {v : Value} {lm : List Hm} (h : Rb W ro rpo n v lm) (hg : rpg < ro) (hne : ∀ x ∈ lm, x.h.q ≠ []) : ∀ b, DcIn ro rpo rpg v lm b → b < W.heap.size := by
  have h1 := h.ol
  have h2 := h.pl
  rintro b ((rfl | e | ⟨x, hx, a, e, rfl⟩) | rfl | rfl)
  · exact h1
  · exact olt h.own e
  · exact rq_low (h.ok x hx).rd e (hne x hx)
  · omega
  · omega
/-- Both buckets: the developers' one has hs and L, the document's hr and R. -/
def Sdd (w : World) (o mb po n k ro rpo rpg : Nat) (hs : List Hq) (L : List Bool) (hr : List Hq) (R : List Bool) (W : World) : Prop :=
  ∃ l F v lm, hsP l = hs ∧ hsOf lm = hr ∧ BA w W o mb po n k l L F ∧ Rb W ro rpo n v lm ∧ Rp W rpo rpg R ∧ rpg < ro ∧ (∀ x ∈ lm, x.h.q ≠ []) ∧ w.heap.size ≤ ro ∧ w.heap.size ≤ rpg ∧ ∀ b, DcIn ro rpo rpg v lm b → ¬ DvIn o mb l F b
/-- The same, where all blocks of the document's lie below N. -/
def SdB (N : Nat) (w : World) (o mb po n k ro rpo rpg : Nat) (hs : List Hq) (L : List Bool) (hr : List Hq) (R : List Bool) (W : World) : Prop :=
  ∃ l F v lm, hsP l = hs ∧ hsOf lm = hr ∧ BA w W o mb po n k l L F ∧ Rb W ro rpo n v lm ∧ Rp W rpo rpg R ∧ rpg < ro ∧ (∀ x ∈ lm, x.h.q ≠ []) ∧ w.heap.size ≤ ro ∧ w.heap.size ≤ rpg ∧ (∀ b, DcIn ro rpo rpg v lm b → ¬ DvIn o mb l F b) ∧ ∀ b, DcIn ro rpo rpg v lm b → b < N
/-- What lies from N on stays. -/
def Kp (N : Nat) (W W' : World) : Prop := ∀ b, N ≤ b → b < W.heap.size → W'.heap[b]? = W.heap[b]?
theorem Kp.is {N : Nat} {W W' : World} (h : Kp N W W') {g0 e size n : Nat} {v : Value} {xs : List Value} (ho : W.ownsRow g0 e size v n xs) (hv : ∀ b, v.ownBlock = some b → N ≤ b) : W'.ownsRow g0 e size v n xs := by
  refine ⟨ho.1, ?_⟩
  rcases ho.2 with hn | ⟨g, cap, cur, rfl, hb, hgg, rest⟩
  · exact .inl hn
  · exact .inr ⟨g, cap, cur, rfl, hb, (h g (hv g rfl) (Array.getElem?_eq_some_iff.1 hgg).1).trans hgg, rest⟩
section
variable {w W : World} {o mb po n k ro rpo rpg : Nat} {hs hr : List Hq} {L R : List Bool}
theorem Sdd.step {W' : World} (h : Sdd w o mb po n k ro rpo rpg hs L hr R W) (g : Nw W W') : Sdd w o mb po n k ro rpo rpg hs L hr R W' := by
  obtain ⟨l, F, v, lm, h1, h2, h3, h4, h5, h6, h7, h8, h9, h10⟩ := h
  exact ⟨l, F, v, lm, h1, h2, h3.step g, h4.nw g, h5.nw g, h6, h7, h8, h9, h10⟩
theorem Sdd.nw (h : Sdd w o mb po n k ro rpo rpg hs L hr R W) : Nw w W := by
  obtain ⟨l, F, v, lm, h1, h2, h3, h4, h5, h6, h7, h8, h9, h10⟩ := h
  exact h3.nw
theorem Sdd.inv (h : Sdd w o mb po n k ro rpo rpg hs L hr R W) : BInv n k hs L := by
  obtain ⟨l, F, v, lm, h1, h2, h3, h4, h5, h6, h7, h8, h9, h10⟩ := h
  rw [← h1]
  exact h3.inv
/-- A call of the developers' bucket. -/
theorem sd_dev {W0 W' : World} {l l' : List Hp} {F : Nat → Prop} {L' : List Bool} {v : Value} {lm : List Hm} (h0 : Db W0 o mb po n l L F) (r0 : Rb W0 ro rpo n v lm) (h3 : BA w W o mb po n k l L F) (h4 : Rb W ro rpo n v lm) (h5 : Rp W rpo rpg R) (h6 : rpg < ro) (h7 : ∀ x ∈ lm, x.h.q ≠ []) (h8 : w.heap.size ≤ ro) (h9 : w.heap.size ≤ rpg) (h10 : ∀ b, DcIn ro rpo rpg v lm b → ¬ DvIn o mb l F b)
    (d : DbTo W o mb po n F l W' l' L') (b : BInv n (k + 1) (hsP l') L') : SdB W0.heap.size w o mb po n (k + 1) ro rpo rpg (hsP l') L' (hsOf lm) R W' ∧ Kp W0.heap.size W W' := by
  obtain ⟨F', d1, d2, d3, d4⟩ := d
  have hlt := dc_lt h4 h6 h7
  have hno : ∀ b, DcIn ro rpo rpg v lm b → ¬ (b = mb ∨ F b) := fun b hb e => h10 b hb (e.elim (fun q => .inr (.inl q)) (fun q => .inr (.inr (.inl q))))
  have hl0 := dv_lt h0
  refine ⟨⟨l', F', v, lm, rfl, rfl, ⟨d1, b, nw_tch h3.nw d3 (fun i e => e.elim (fun e => e ▸ h3.mn) (h3.new i)), h3.mn, fun i e => (d2 i e).elim (h3.new i) (fun q => Nat.le_trans h3.nw.sz q)⟩, h4.tchS d3 (hno _ (.inl (.inl rfl))) (fun b e => hno b (.inl (.inr (.inl e)))) (fun x hx a e _ => hno _ (.inl (.inr (.inr ⟨x, hx, a, e, rfl⟩)))), h5.tch d3 (hno _ (.inr (.inl rfl))) (hno _ (.inr (.inr rfl))), h6, h7, h8, h9, fun b hb => ?_, dc_lt r0 h6 h7⟩, fun b hb hb2 => d3.block b hb2 fun e => ?_⟩
  · have hb2 := hlt b hb
    rintro (q | q | q | q)
    · exact h10 b hb (.inl q)
    · exact h10 b hb (.inr (.inl q))
    · rcases d2 b q with q | q
      · exact h10 b hb (.inr (.inr (.inl q)))
      · omega
    · rcases d4 b q with q | q
      · exact h10 b hb (.inr (.inr (.inr q)))
      · omega
  · rcases e with e | e
    · have := hl0 b (.inr (.inl e)); omega
    · have := hl0 b (.inr (.inr (.inl e))); omega
/-- A call of the document's. -/
theorem sd_doc {W' : World} {l : List Hp} {F : Nat → Prop} {v v' : Value} {lm lm' : List Hm} {R' : List Bool} (h3 : BA w W o mb po n k l L F) (h4 : Rb W ro rpo n v lm) (h6 : rpg < ro) (h8 : w.heap.size ≤ ro) (h9 : w.heap.size ≤ rpg) (h10 : ∀ b, DcIn ro rpo rpg v lm b → ¬ DvIn o mb l F b) {N : Nat} (h11 : ∀ b, DcIn ro rpo rpg v lm b → b < N)
    (d : RbTo W ro rpo rpg n v lm W' v' lm') (hp : Rp W' rpo rpg R') (hne : ∀ x ∈ lm', x.h.q ≠ []) : Sdd w o mb po n k ro rpo rpg (hsP l) L (hsOf lm') R' W' ∧ Kp N W W' := by
  obtain ⟨d1, d2, d3⟩ := d
  have hlt := dv_lt h3.db
  have hno : ∀ b, DvIn o mb l F b → ¬ (b = ro ∨ v.ownBlock = some b ∨ b = rpg) := fun b hb e => by
    rcases e with e | e | e
    · exact h10 b (.inl (.inl e)) hb
    · exact h10 b (.inl (.inr (.inl e))) hb
    · exact h10 b (.inr (.inr e)) hb
  refine ⟨⟨l, F, v', lm', rfl, rfl, ⟨h3.db.tch d2 (hno _ (.inl rfl)) (hno _ (.inr (.inl rfl))) (fun k e => hno k (.inr (.inr (.inl e)))) (fun x hx => ⟨hno _ (.inr (.inr (.inr ⟨x, hx, .inl rfl⟩))), fun a e hq => hno _ (.inr (.inr (.inr ⟨x, hx, .inr ⟨a, e, hq, rfl⟩⟩)))⟩), h3.inv, nw_tch h3.nw d2 (fun i e => ?_), h3.mn, h3.new⟩, d1, hp, h6, hne, h8, h9, fun b hb => ?_⟩, fun b hb hb2 => d2.block b hb2 fun e => ?_⟩
  · rcases e with e | e | e
    · omega
    · have := oge h4.own e
      omega
    · omega
  · intro q
    have h1 := hlt b q
    rcases hb with hb | hb
    · rcases d3 b hb with hb | hb
      · exact h10 b (.inl hb) q
      · omega
    · exact h10 b (.inr hb) q
  · rcases e with e | e | e
    · have := h11 b (.inl (.inl e)); omega
    · have := h11 b (.inl (.inr (.inl e))); omega
    · have := h11 b (.inr (.inr e)); omega
theorem ne_of {hs : List Hq} {L : List Bool} {lm : List Hm} {kk : Nat} (b : BInv n kk hs L) (e : hsOf lm = hs) : ∀ x ∈ lm, x.h.q ≠ [] := fun x hx => b.ne _ (e ▸ List.mem_map.2 ⟨x, hx, rfl⟩)
theorem ok_of {hs : List Hq} {L : List Bool} {lm : List Hm} {kk : Nat} (b : BInv n kk hs L) (e : hsOf lm = hs) : ∀ x ∈ lm, Ok x.h.W x.h.q := fun x hx => (b.inv _ (e ▸ List.mem_map.2 ⟨x, hx, rfl⟩)).ok
theorem sd_ask {W0 : World} (h : Sdd w o mb po n k ro rpo rpg hs L hr R W0) (g : Nw W0 W) (hk : k ≤ 800) (hn : n ≤ 64) (t r txn m : Int) (wa : wfN (t, r)) :
    Calls Tryz.prog 28 #[.pointer (some ⟨o, 0, none⟩), .agg #[.int .i64 t, .int .i64 r], .int .i64 txn, .int .i64 m] W fun e W' => e = .returned (.tuple #[.int .i64 (askBR n hs L t r txn m).1, .bool (askBR n hs L t r txn m).2.1, .int .i64 (askBR n hs L t r txn m).2.2]) ∧ SdB W0.heap.size w o mb po n (k + 1) ro rpo rpg (askBS n hs L t r txn m).1 (askBS n hs L t r txn m).2 hr R W' ∧ Kp W0.heap.size W W' := by
  obtain ⟨l, F, v, lm, rfl, rfl, h3, h4, h5, h6, h7, h8, h9, h10⟩ := h
  have r0 := h4
  have h0 := h3.db
  replace h3 := h3.step g
  replace h4 := h4.nw g
  replace h5 := h5.nw g
  refine (ask_d h3.db h3.inv hk hn t r txn m wa).mono ?_
  rintro e W' ⟨h1, l', h2, d⟩
  have := sd_dev h0 r0 h3 h4 h5 h6 h7 h8 h9 h10 d (by rw [h2]; exact binv_ask h3.inv (by omega) t r txn m)
  rw [h2] at this
  exact ⟨h1, this⟩
theorem sd_upgrade {W0 : World} (h : Sdd w o mb po n k ro rpo rpg hs L hr R W0) (g : Nw W0 W) (hk : k ≤ 800) (hn : n ≤ 64) (id m : Int) :
    Calls Tryz.prog 36 #[.pointer (some ⟨o, 0, none⟩), .int .i64 id, .int .i64 m] W fun e W' => e = .returned (.tuple #[.bool (upBG hs id m), .int .i64 (upBE hs id m)]) ∧ SdB W0.heap.size w o mb po n (k + 1) ro rpo rpg (upBS hs id m) L hr R W' ∧ Kp W0.heap.size W W' := by
  obtain ⟨l, F, v, lm, rfl, rfl, h3, h4, h5, h6, h7, h8, h9, h10⟩ := h
  have r0 := h4
  have h0 := h3.db
  replace h3 := h3.step g
  replace h4 := h4.nw g
  replace h5 := h5.nw g
  refine (upgrade_d h3.db h3.inv hk hn id m).mono ?_
  rintro e W' ⟨h1, l', h2, d⟩
  have := sd_dev h0 r0 h3 h4 h5 h6 h7 h8 h9 h10 d (by rw [h2]; exact binv_up h3.inv (by omega) id m)
  rw [h2] at this
  exact ⟨h1, this⟩
theorem sd_leave {W0 : World} (h : Sdd w o mb po n k ro rpo rpg hs L hr R W0) (g : Nw W0 W) (hk : k ≤ 800) (hn : n ≤ 64) (id : Int) :
    Calls Tryz.prog 31 #[.pointer (some ⟨o, 0, none⟩), .int .i64 id] W fun e W' => ∃ vi, e = .returned (.tuple #[vi, .int .i64 (lvBR hs id).2]) ∧ IS W' vi (lvBR hs id).1 ∧ (∀ b, vi.ownBlock = some b → W.heap.size ≤ b) ∧ SdB W0.heap.size w o mb po n (k + 1) ro rpo rpg (lvBS hs L id).1 (lvBS hs L id).2 hr R W' ∧ Kp W0.heap.size W W' := by
  obtain ⟨l, F, v, lm, rfl, rfl, h3, h4, h5, h6, h7, h8, h9, h10⟩ := h
  have r0 := h4
  have h0 := h3.db
  replace h3 := h3.step g
  replace h4 := h4.nw g
  replace h5 := h5.nw g
  refine (leave_d h3.db h3.inv hk hn id).mono ?_
  rintro e W' ⟨vi, l', h1, hi, h2, d, hv⟩
  have := sd_dev h0 r0 h3 h4 h5 h6 h7 h8 h9 h10 d (by rw [h2]; exact binv_lv h3.inv id)
  rw [h2] at this
  exact ⟨vi, h1, hi, hv, this⟩
theorem sd_abandon {W0 : World} (h : Sdd w o mb po n k ro rpo rpg hs L hr R W0) (g : Nw W0 W) (hk : k ≤ 800) (hn : n ≤ 64) (id : Int) :
    Calls Tryz.prog 40 #[.pointer (some ⟨o, 0, none⟩), .int .i64 id] W fun e W' => ∃ vi, e = .returned (.tuple #[vi, .int .i64 (abBR hs id).2]) ∧ IS W' vi (abBR hs id).1 ∧ (∀ b, vi.ownBlock = some b → W.heap.size ≤ b) ∧ SdB W0.heap.size w o mb po n (k + 1) ro rpo rpg (abBS hs L id).1 (abBS hs L id).2 hr R W' ∧ Kp W0.heap.size W W' := by
  obtain ⟨l, F, v, lm, rfl, rfl, h3, h4, h5, h6, h7, h8, h9, h10⟩ := h
  have r0 := h4
  have h0 := h3.db
  replace h3 := h3.step g
  replace h4 := h4.nw g
  replace h5 := h5.nw g
  refine (abandon_d h3.db h3.inv hk hn id).mono ?_
  rintro e W' ⟨vi, l', h1, hi, h2, d, hv⟩
  have := sd_dev h0 r0 h3 h4 h5 h6 h7 h8 h9 h10 d (by rw [h2]; exact binv_ab h3.inv id)
  rw [h2] at this
  exact ⟨vi, h1, hi, hv, this⟩
theorem sd_hand {W0 : World} (h : Sdd w o mb po n k ro rpo rpg hs L hr R W0) (g : Nw W0 W) (hk : k ≤ 800) (hn : n ≤ 64) (id a : Int) :
    Calls Tryz.prog 32 #[.pointer (some ⟨o, 0, none⟩), .int .i64 id, .int .i64 a] W fun e W' => e = .returned (.int .i64 (hnBE hs id a)) ∧ SdB W0.heap.size w o mb po n (k + 1) ro rpo rpg (hnBS hs id a) L hr R W' ∧ Kp W0.heap.size W W' := by
  obtain ⟨l, F, v, lm, rfl, rfl, h3, h4, h5, h6, h7, h8, h9, h10⟩ := h
  have r0 := h4
  have h0 := h3.db
  replace h3 := h3.step g
  replace h4 := h4.nw g
  replace h5 := h5.nw g
  refine (hand_d h3.db h3.inv hk hn id a).mono ?_
  rintro e W' ⟨h1, l', h2, d⟩
  have := sd_dev h0 r0 h3 h4 h5 h6 h7 h8 h9 h10 d (by rw [h2]; exact binv_hn h3.inv id a)
  rw [h2] at this
  exact ⟨h1, this⟩
theorem sd_rask {kk : Nat} {N : Nat} (h : SdB N w o mb po n k ro rpo rpg hs L hr R W) (b : BInv n kk hr R) (hk : kk < 1000) (hn : n ≤ 64) (t r txn m : Int) :
    Calls Tryz.prog 43 #[.pointer (some ⟨ro, 0, none⟩), .agg #[.int .i64 t, .int .i64 r], .int .i64 txn, .int .i64 m] W fun e W' => e = .returned (.tuple #[.int .i64 (askBR n hr R t r txn m).1, .bool (askBR n hr R t r txn m).2.1, .int .i64 (askBR n hr R t r txn m).2.2]) ∧ Sdd w o mb po n k ro rpo rpg hs L (askBS n hr R t r txn m).1 (askBS n hr R t r txn m).2 W' ∧ Kp N W W' := by
  obtain ⟨l, F, v, lm, rfl, rfl, h3, h4, h5, h6, h7, h8, h9, h10, h11⟩ := h
  refine (rb_ask h4 b hk hn h5 h6 t r txn m).mono ?_
  rintro e W' ⟨h1, hp, v', lm', h2, d⟩
  have := sd_doc h3 h4 h6 h8 h9 h10 h11 d hp (ne_of (binv_ask b (by omega) t r txn m) h2)
  rw [h2] at this
  exact ⟨h1, this⟩
theorem sd_rupgrade {kk : Nat} {N : Nat} (h : SdB N w o mb po n k ro rpo rpg hs L hr R W) (b : BInv n kk hr R) (hk : kk < 1000) (id m : Int) :
    Calls Tryz.prog 37 #[.pointer (some ⟨ro, 0, none⟩), .int .i64 id, .int .i64 m] W fun e W' => e = .returned (.tuple #[.bool (upBG hr id m), .int .i64 (upBE hr id m)]) ∧ Sdd w o mb po n k ro rpo rpg hs L (upBS hr id m) R W' ∧ Kp N W W' := by
  obtain ⟨l, F, v, lm, rfl, rfl, h3, h4, h5, h6, h7, h8, h9, h10, h11⟩ := h
  refine (rb_upgrade h4 b.srt (ok_of b rfl) ro id m).mono ?_
  rintro e W' ⟨h1, v', lm', h2, d⟩
  have := sd_doc h3 h4 h6 h8 h9 h10 h11 d.pg (d.rp h4 h5 h6) (ne_of (binv_up b (by omega) id m) h2)
  rw [h2] at this
  exact ⟨h1, this⟩
theorem sd_rleave {kk : Nat} {N : Nat} (h : SdB N w o mb po n k ro rpo rpg hs L hr R W) (b : BInv n kk hr R) (id : Int) :
    Calls Tryz.prog 38 #[.pointer (some ⟨ro, 0, none⟩), .int .i64 id] W fun e W' => ∃ vi, e = .returned (.tuple #[vi, .int .i64 (lvBR hr id).2]) ∧ IS W' vi (lvBR hr id).1 ∧ Sdd w o mb po n k ro rpo rpg hs L (lvBS hr R id).1 (lvBS hr R id).2 W' ∧ Kp N W W' := by
  obtain ⟨l, F, v, lm, rfl, rfl, h3, h4, h5, h6, h7, h8, h9, h10, h11⟩ := h
  refine (rb_leave h4 b.srt (ok_of b rfl) h5 h6 id).mono ?_
  rintro e W' ⟨vi, h1, h0, hp, v', lm', h2, d⟩
  have := sd_doc h3 h4 h6 h8 h9 h10 h11 d hp (ne_of (binv_lv b id) h2)
  rw [h2] at this
  exact ⟨vi, h1, h0, this⟩
theorem sd_rabandon {kk : Nat} {N : Nat} (h : SdB N w o mb po n k ro rpo rpg hs L hr R W) (b : BInv n kk hr R) (id : Int) :
    Calls Tryz.prog 41 #[.pointer (some ⟨ro, 0, none⟩), .int .i64 id] W fun e W' => ∃ vi, e = .returned (.tuple #[vi, .int .i64 (abBR hr id).2]) ∧ IS W' vi (abBR hr id).1 ∧ Sdd w o mb po n k ro rpo rpg hs L (abBS hr R id).1 (abBS hr R id).2 W' ∧ Kp N W W' := by
  obtain ⟨l, F, v, lm, rfl, rfl, h3, h4, h5, h6, h7, h8, h9, h10, h11⟩ := h
  refine (rb_abandon h4 b.srt (ok_of b rfl) h5 h6 id).mono ?_
  rintro e W' ⟨vi, h1, h0, hp, v', lm', h2, d⟩
  have := sd_doc h3 h4 h6 h8 h9 h10 h11 d hp (ne_of (binv_ab b id) h2)
  rw [h2] at this
  exact ⟨vi, h1, h0, this⟩
theorem sd_rhand {kk : Nat} {N : Nat} (h : SdB N w o mb po n k ro rpo rpg hs L hr R W) (b : BInv n kk hr R) (id a : Int) :
    Calls Tryz.prog 42 #[.pointer (some ⟨ro, 0, none⟩), .int .i64 id, .int .i64 a] W fun e W' => e = .returned (.int .i64 (hnBE hr id a)) ∧ Sdd w o mb po n k ro rpo rpg hs L (hnBS hr id a) R W' ∧ Kp N W W' := by
  obtain ⟨l, F, v, lm, rfl, rfl, h3, h4, h5, h6, h7, h8, h9, h10, h11⟩ := h
  refine (rb_hand h4 b.srt (ok_of b rfl) ro id a).mono ?_
  rintro e W' ⟨h1, v', lm', h2, d⟩
  have := sd_doc h3 h4 h6 h8 h9 h10 h11 d.pg (d.rp h4 h5 h6) (ne_of (binv_hn b id a) h2)
  rw [h2] at this
  exact ⟨h1, this⟩
/-! ### What both answer, and what changes nothing -/
theorem sd_heads (h : Sdd w o mb po n k ro rpo rpg hs L hr R W) : Calls Tryz.prog 14 #[.pointer (some ⟨o, 0, none⟩)] W (HdPost W hs) := by
  obtain ⟨l, F, v, lm, rfl, rfl, h3, h4, h5, h6, h7, h8, h9, h10⟩ := h
  exact heads_d h3.db
theorem sd_rheads (h : Sdd w o mb po n k ro rpo rpg hs L hr R W) : Calls Tryz.prog 15 #[.pointer (some ⟨ro, 0, none⟩)] W (HdPost W hr) := by
  obtain ⟨l, F, v, lm, rfl, rfl, h3, h4, h5, h6, h7, h8, h9, h10⟩ := h
  exact rb_heads h4
theorem sd_len (h : Sdd w o mb po n k ro rpo rpg hs L hr R W) : Calls Tryz.prog 16 #[.pointer (some ⟨o, 0, none⟩)] W fun e W' => e = .returned (.int .i64 hs.length) ∧ Nw W W' := by
  obtain ⟨l, F, v, lm, rfl, rfl, h3, h4, h5, h6, h7, h8, h9, h10⟩ := h
  refine (len_d h3.db).mono ?_
  rintro e W' ⟨rfl, rfl⟩
  exact ⟨by unfold hsP; rw [List.length_map], Nw.refl _⟩
theorem sd_rlen (h : Sdd w o mb po n k ro rpo rpg hs L hr R W) : Calls Tryz.prog 17 #[.pointer (some ⟨ro, 0, none⟩)] W fun e W' => e = .returned (.int .i64 hr.length) ∧ Nw W W' := by
  obtain ⟨l, F, v, lm, rfl, rfl, h3, h4, h5, h6, h7, h8, h9, h10⟩ := h
  refine (rb_len h4).mono ?_
  rintro e W' ⟨rfl, rfl⟩
  exact ⟨by unfold hsOf; rw [List.length_map], Nw.refl _⟩
theorem sd_live (h : Sdd w o mb po n k ro rpo rpg hs L hr R W) : Calls Tryz.prog 18 #[.pointer (some ⟨po, 0, none⟩)] W fun e W' => e = .returned (.int .i64 (liv L)) ∧ Nw W W' := by
  obtain ⟨l, F, v, lm, rfl, rfl, h3, h4, h5, h6, h7, h8, h9, h10⟩ := h
  exact ba_live h3 _ rfl
theorem sd_rlive (h : Sdd w o mb po n k ro rpo rpg hs L hr R W) : Calls Tryz.prog 19 #[.pointer (some ⟨rpo, 0, none⟩)] W fun e W' => e = .returned (.int .i64 (liv R)) ∧ Nw W W' := by
  obtain ⟨l, F, v, lm, rfl, rfl, h3, h4, h5, h6, h7, h8, h9, h10⟩ := h
  exact rlive_at h5
theorem getB_eq (hs : List Hq) (id : Int) : getB hs id = getBD hs id := rfl
theorem sd_get (h : Sdd w o mb po n k ro rpo rpg hs L hr R W) (id t r b0 b1 b2 b3 b4 : Int) (y : Bool) (hR : getBD hs id = (t, r, ⟨b0, b1, b2, b3, b4⟩, y)) :
    Calls Tryz.prog 20 #[.pointer (some ⟨o, 0, none⟩), .int .i64 id] W fun e W' => e = .returned (.tuple #[.agg #[.int .i64 t, .int .i64 r], .agg #[.int .i64 b0, .int .i64 b1, .int .i64 b2, .int .i64 b3, .int .i64 b4], .bool y]) ∧ Nw W W' := by
  obtain ⟨l, F, v, lm, rfl, rfl, h3, h4, h5, h6, h7, h8, h9, h10⟩ := h
  exact ba_get h3 id t r b0 b1 b2 b3 b4 y hR
theorem sd_rget (h : Sdd w o mb po n k ro rpo rpg hs L hr R W) (id t r b0 b1 b2 b3 b4 : Int) (y : Bool) (hR : getBD hr id = (t, r, ⟨b0, b1, b2, b3, b4⟩, y)) :
    Calls Tryz.prog 21 #[.pointer (some ⟨ro, 0, none⟩), .int .i64 id] W fun e W' => e = .returned (.tuple #[.agg #[.int .i64 t, .int .i64 r], .agg #[.int .i64 b0, .int .i64 b1, .int .i64 b2, .int .i64 b3, .int .i64 b4], .bool y]) ∧ Nw W W' := by
  obtain ⟨l, F, v, lm, rfl, rfl, h3, h4, h5, h6, h7, h8, h9, h10⟩ := h
  have := rb_get h4 id
  rw [getB_eq, hR] at this
  exact this
theorem sd_find (h : Sdd w o mb po n k ro rpo rpg hs L hr R W) (t r txn : Int) (wa : wfN (t, r)) (i : Int) (y : Bool) (hR : findB hs t r txn = (i, y)) :
    Calls Tryz.prog 22 #[.pointer (some ⟨o, 0, none⟩), .agg #[.int .i64 t, .int .i64 r], .int .i64 txn] W fun e W' => e = .returned (.tuple #[.int .i64 i, .bool y]) ∧ Nw W W' := by
  obtain ⟨l, F, v, lm, rfl, rfl, h3, h4, h5, h6, h7, h8, h9, h10⟩ := h
  exact ba_find h3 t r txn wa i y hR
theorem sd_rfind {kk : Nat} (h : Sdd w o mb po n k ro rpo rpg hs L hr R W) (b : BInv n kk hr R) (t r txn : Int) (i : Int) (y : Bool) (hR : findB hr t r txn = (i, y)) :
    Calls Tryz.prog 23 #[.pointer (some ⟨ro, 0, none⟩), .agg #[.int .i64 t, .int .i64 r], .int .i64 txn] W fun e W' => e = .returned (.tuple #[.int .i64 i, .bool y]) ∧ Nw W W' := by
  obtain ⟨l, F, v, lm, rfl, rfl, h3, h4, h5, h6, h7, h8, h9, h10⟩ := h
  have := rb_find h4 b.srt t r txn
  rw [hR] at this
  exact this
end
end Go.Proofs.YtodnlelnpidliaaGreat
end

/- BucketScript: an act on both buckets answers the same. -/
section
namespace Go.Proofs.YtodnlelnpidliaaGreat
open Go.RowKit Go.Shelf
set_option linter.unusedVariables false

def Fld (pb : Nat) (a3 a4 : Int) (y : World) : Prop := y.cell? ⟨pb, 3, none⟩ = some (.int .i64 a3) ∧ y.cell? ⟨pb, 4, none⟩ = some (.int .i64 a4)
set_option maxRecDepth 20000 in
set_option maxHeartbeats 8000000 in
theorem same_d {w W : World} {o mb po n k ro rpo rpg : Nat} {hs : List Hq} {L : List Bool} (h : Sdd w o mb po n k ro rpo rpg hs L hs L W) (hk : k ≤ 800) (hn : n ≤ 64) (a0 a1 a2 a3 a4 a5 : Int) (wa : wfN (a1, a2)) :
    Calls Tryz.prog 12 #[.pointer (some ⟨o, 0, none⟩), .pointer (some ⟨ro, 0, none⟩), .agg #[.int .i64 a0, .int .i64 a1, .int .i64 a2, .int .i64 a3, .int .i64 a4, .int .i64 a5]] W fun e W' => e = .returned (.bool true) ∧ ∃ hs' L', Sdd w o mb po n (k + 1) ro rpo rpg hs' L' hs' L' W' := by
  have HBi := Lib.hid h.inv
  have g1 : Nw W (W.alloc (.cells #[.int .i64 a0, .int .i64 a1, .int .i64 a2, .int .i64 a3, .int .i64 a4, .int .i64 a5] 41)) := (Nw.refl W).alloc _
  have hal := allocAt W (.cells #[.int .i64 a0, .int .i64 a1, .int .i64 a2, .int .i64 a3, .int .i64 a4, .int .i64 a5] 41)
  obtain ⟨z, hz⟩ : ∃ z, W.alloc (.cells #[.int .i64 a0, .int .i64 a1, .int .i64 a2, .int .i64 a3, .int .i64 a4, .int .i64 a5] 41) = z := ⟨_, rfl⟩
  rw [hz] at g1 hal
  have HZ := Lib.hid hz
  have hk9 : k < 1000 := Nat.lt_of_le_of_lt hk (by decide)
  have HK := Lib.hid (And.intro hk9 (And.intro hn hal))
  obtain ⟨⟨i, g, E⟩, hA⟩ : ∃ q, askBR n hs L a1 a2 a4 a5 = q := ⟨_, rfl⟩
  have hask := sd_ask h g1 hk hn a1 a2 a4 a5 wa
  rw [hA] at hask
  have HA := Lib.hid hask
  have HAe := Lib.hid hA
  have HU := Lib.hid (sd_upgrade h g1 hk hn a3 a5)
  have HL := Lib.hid (sd_leave h g1 hk hn a3)
  have HB := Lib.hid (sd_abandon h g1 hk hn a3)
  have HH := Lib.hid (fun y (gy : Nw z y) => sd_hand h (g1.trans gy) hk hn a3 a4)
  obtain ⟨pb, hpb⟩ : ∃ pb, W.heap.size = pb := ⟨_, rfl⟩
  rw [hpb] at hal
  have c0 := hcell (j := 0) hal
  have c1 := hcell (j := 1) hal
  have c2 := hcell (j := 2) hal
  have c3 := hcell (j := 3) hal
  have c4 := hcell (j := 4) hal
  have c5 := hcell (j := 5) hal
  have cl := hlt hal
  have HPb := Lib.hid hpb
  have HP := Lib.hid (pick_any a0 6 z (by omega) (by omega))
  obtain ⟨x, hx⟩ : ∃ x, a0 % 6 = x := ⟨_, rfl⟩
  rw [hx] at HP
  have HKp := Lib.hid (fun (y : World) (q : Kp pb z y) => (q pb (Nat.le_refl _) cl).trans hal)
  have HG1 := Lib.hid g1
  have HF0 := Lib.hid (show Fld pb a3 a4 z from ⟨(hcell (j := 3) hal).trans rfl, (hcell (j := 4) hal).trans rfl⟩)
  clear hz g1 hal h hA hask wa hx hk hn hk9 hpb
  obtain ⟨d2, e2⟩ : ∃ d, (x == 2) = d := ⟨_, rfl⟩
  obtain ⟨d3, e3⟩ : ∃ d, (x == 3) = d := ⟨_, rfl⟩
  obtain ⟨d4, e4⟩ : ∃ d, (x == 4) = d := ⟨_, rfl⟩
  obtain ⟨d5, e5⟩ : ∃ d, (x == 5) = d := ⟨_, rfl⟩
  go_enter Tryz.func12, Tryz.ntmps12
  go_wp2_with fail
  rw [HZ.out, HPb.out]
  refine HP.out.mono ?_
  rintro e z' ⟨rfl, rfl⟩
  cases d2
  · cases d3
    · cases d4
      · cases d5
        · skip
          go_wp2_with fail
          refine HA.out.mono ?_
          rintro e y ⟨rfl, hb, kp⟩
          have hbx := HKp.out y (by rw [← HPb.out]; exact kp)
          clear c0 c1 c2 c3 c4 c5 cl
          have c0 := hcell (j := 0) hbx
          have c1 := hcell (j := 1) hbx
          have c2 := hcell (j := 2) hbx
          have c3 := hcell (j := 3) hbx
          have c4 := hcell (j := 4) hbx
          have c5 := hcell (j := 5) hbx
          have cl := hlt hbx
          have hrk := sd_rask hb HBi.out HK.out.1 HK.out.2.1 a1 a2 a4 a5
          rw [HAe.out] at hrk
          have HR := Lib.hid hrk
          clear hb kp hbx HA HU HL HB HH hrk HP
          go_wp2_with fail
          refine HR.out.mono ?_
          rintro e y2 ⟨rfl, hs2, _⟩
          have HE := Lib.hid hs2
          clear hs2 HR c0 c1 c2 c3 c4 c5 cl
          go_wp2
          go_ret
          exact ⟨rfl, _, _, HE.out⟩
        · go_upto_region 15 with fail
          have hS0 : Fld pb a3 a4 z.drew := HF0.out
          have q1 : ∀ x, Fld pb a3 a4 x → x.cell? ⟨pb, 3, none⟩ = some (.int .i64 a3) := fun x h => h.1
          have q2 : ∀ x, Fld pb a3 a4 x → x.cell? ⟨pb, 4, none⟩ = some (.int .i64 a4) := fun x h => h.2
          have HHd := Lib.hid (HH.out z.drew (Nw.refl z).dr)
          have HKd := Lib.hid (fun (y : World) (q : Kp W.heap.size z.drew y) => (show Fld pb a3 a4 y by
            rw [HPb.out] at q
            have hbx := HKp.out y q
            exact ⟨(hcell (j := 3) hbx).trans rfl, (hcell (j := 4) hbx).trans rfl⟩))
          have HKe := Lib.hid (fun (y y2 : World) (q : Kp W.heap.size z.drew y) (q2 : Kp W.heap.size y y2) => (show Fld pb a3 a4 y2 by
            rw [HPb.out] at q q2
            have hbx := HKp.out y q
            have hbx2 := (q2 pb (Nat.le_refl _) (hlt hbx)).trans hbx
            exact ⟨(hcell (j := 3) hbx2).trans rfl, (hcell (j := 4) hbx2).trans rfl⟩))
          clear c0 c1 c2 c3 c4 c5 cl HA HU HL HB HH HP HKp
          have HRh := fun N y (hb : SdB N w o mb po n (k + 1) ro rpo rpg (hnBS hs a3 a4) L hs L y) => sd_rhand hb HBi.out a3 a4
          have HRh := Lib.hid HRh
          obtain ⟨E9, hE9⟩ : ∃ E9, hnBE hs a3 a4 = E9 := ⟨_, rfl⟩
          rw [hE9] at HHd HRh
          obtain ⟨H9, hH9⟩ : ∃ H9, hnBS hs a3 a4 = H9 := ⟨_, rfl⟩
          rw [hH9] at HHd HRh
          clear hE9 hH9
          go_wp2_with fail
          refine region_told [some true, some true, some true, some true, some true, some false, some true, some true, some true, some true, some true, none, some false, none, some true, some true] (Fld pb a3 a4) (by kernel_rfl) (by kernel_rfl) (by kernel_rfl) hS0 ?_
          obtain ⟨zd, hzd⟩ : ∃ zd, z.drew = zd := ⟨_, rfl⟩
          rw [hzd] at HHd HKd HKe ⊢
          clear hzd hS0
          iterate 5 (refine HW.take' ?_; (apply Exists.intro; refine ⟨Or.inl ⟨by rfl, ?_⟩, ?_⟩; (intro x hx; go_simp; first | done | with_reducible rfl)); (try simp only [Act.put, List.setIfInBounds_toArray, List.set_cons_zero, List.set_cons_succ]))
          refine HW.off ?_
          iterate 5 (refine HW.take' ?_; (apply Exists.intro; refine ⟨Or.inl ⟨by rfl, ?_⟩, ?_⟩; (intro x hx; go_simp; first | done | with_reducible rfl)); (try simp only [Act.put, List.setIfInBounds_toArray, List.set_cons_zero, List.set_cons_succ]))
          refine HW.go (fun K hK => ?_)
          go_simp
          go_at_call 32
          refine HHd.out.mono ?_
          rintro e y ⟨rfl, hb, kp⟩
          refine hK.out _ _ (HKd.out y kp) ?_
          intro _
          clear hK K
          have HR := Lib.hid (HRh.out _ _ hb)
          have HFk := Lib.hid (fun y2 (q : Kp W.heap.size y y2) => HKe.out y y2 kp q)
          clear hb kp HHd HRh
          (try simp only [Act.put, List.setIfInBounds_toArray, List.set_cons_zero, List.set_cons_succ])
          refine HW.off ?_
          refine HW.go (fun K hK => ?_)
          go_simp
          go_at_call 42
          refine HR.out.mono ?_
          rintro e y2 ⟨rfl, hs2, kp2⟩
          refine hK.out _ _ ?_ ?_
          · exact HFk.out y2 kp2
          intro _
          clear hK K
          have HE := Lib.hid hs2
          clear hs2 HR kp2
          (try simp only [Act.put, List.setIfInBounds_toArray, List.set_cons_zero, List.set_cons_succ])
          iterate 2 (refine HW.take' ?_; (apply Exists.intro; refine ⟨Or.inl ⟨by rfl, ?_⟩, ?_⟩; (intro x hx; go_simp; first | done | with_reducible rfl)); (try simp only [Act.put, List.setIfInBounds_toArray, List.set_cons_zero, List.set_cons_succ]))
          refine HW.end_ ?_
          refine NoPanic.normal ?_
          go_wp2
          go_ret
          exact ⟨rfl, _, _, HE.out⟩
      · skip
        go_wp2_with fail
        refine HB.out.mono ?_
        rintro e y ⟨vi, rfl, his, hvi, hb, kp⟩
        have hbx := HKp.out y (by rw [← HPb.out]; exact kp)
        clear c0 c1 c2 c3 c4 c5 cl
        have c0 := hcell (j := 0) hbx
        have c1 := hcell (j := 1) hbx
        have c2 := hcell (j := 2) hbx
        have c3 := hcell (j := 3) hbx
        have c4 := hcell (j := 4) hbx
        have c5 := hcell (j := 5) hbx
        have cl := hlt hbx
        have HR := Lib.hid (sd_rabandon hb HBi.out a3)
        have HV := Lib.hid (And.intro his (fun b e => Nat.le_trans (show pb ≤ z.heap.size by rw [← HPb.out]; exact HG1.out.sz) (hvi b e)))
        obtain ⟨s0, s1, s2, hsv⟩ : ∃ a b c, vi = .slice a b c := by
          rcases oform his with ⟨e, _⟩ | ⟨_, _, e⟩
          · exact ⟨_, _, _, e⟩
          · exact ⟨_, _, _, e⟩
        subst hsv
        clear hb kp hbx his hvi HA HU HL HB HH HP
        go_wp2_with fail
        refine HR.out.mono ?_
        rintro e y2 ⟨vj, rfl, hj, hs2, kp2⟩
        obtain ⟨t0, t1, t2, htv⟩ : ∃ a b c, vj = .slice a b c := by
          rcases oform hj with ⟨e, _⟩ | ⟨_, _, e⟩
          · exact ⟨_, _, _, e⟩
          · exact ⟨_, _, _, e⟩
        subst htv
        have HE := Lib.hid hs2
        rw [HPb.out] at kp2
        have HS := Lib.hid (same_any y2 _ _ _ (kp2.is HV.out.1 HV.out.2) hj)
        clear hs2 kp2 hj HR HV c0 c1 c2 c3 c4 c5 cl
        go_wp2_with fail
        refine HS.out.mono ?_
        rintro e y3 ⟨rfl, g3⟩
        have HE3 := Lib.hid (HE.out.step g3)
        clear g3 HS HE
        go_wp2
        go_ret
        exact ⟨rfl, _, _, HE3.out⟩
    · skip
      go_wp2_with fail
      refine HL.out.mono ?_
      rintro e y ⟨vi, rfl, his, hvi, hb, kp⟩
      have hbx := HKp.out y (by rw [← HPb.out]; exact kp)
      clear c0 c1 c2 c3 c4 c5 cl
      have c0 := hcell (j := 0) hbx
      have c1 := hcell (j := 1) hbx
      have c2 := hcell (j := 2) hbx
      have c3 := hcell (j := 3) hbx
      have c4 := hcell (j := 4) hbx
      have c5 := hcell (j := 5) hbx
      have cl := hlt hbx
      have HR := Lib.hid (sd_rleave hb HBi.out a3)
      have HV := Lib.hid (And.intro his (fun b e => Nat.le_trans (show pb ≤ z.heap.size by rw [← HPb.out]; exact HG1.out.sz) (hvi b e)))
      obtain ⟨s0, s1, s2, hsv⟩ : ∃ a b c, vi = .slice a b c := by
        rcases oform his with ⟨e, _⟩ | ⟨_, _, e⟩
        · exact ⟨_, _, _, e⟩
        · exact ⟨_, _, _, e⟩
      subst hsv
      clear hb kp hbx his hvi HA HU HL HB HH HP
      go_wp2_with fail
      refine HR.out.mono ?_
      rintro e y2 ⟨vj, rfl, hj, hs2, kp2⟩
      obtain ⟨t0, t1, t2, htv⟩ : ∃ a b c, vj = .slice a b c := by
        rcases oform hj with ⟨e, _⟩ | ⟨_, _, e⟩
        · exact ⟨_, _, _, e⟩
        · exact ⟨_, _, _, e⟩
      subst htv
      have HE := Lib.hid hs2
      rw [HPb.out] at kp2
      have HS := Lib.hid (same_any y2 _ _ _ (kp2.is HV.out.1 HV.out.2) hj)
      clear hs2 kp2 hj HR HV c0 c1 c2 c3 c4 c5 cl
      go_wp2_with fail
      refine HS.out.mono ?_
      rintro e y3 ⟨rfl, g3⟩
      have HE3 := Lib.hid (HE.out.step g3)
      clear g3 HS HE
      go_wp2
      go_ret
      exact ⟨rfl, _, _, HE3.out⟩
  · skip
    go_wp2_with fail
    refine HU.out.mono ?_
    rintro e y ⟨rfl, hb, kp⟩
    have hbx := HKp.out y (by rw [← HPb.out]; exact kp)
    clear c0 c1 c2 c3 c4 c5 cl
    have c0 := hcell (j := 0) hbx
    have c1 := hcell (j := 1) hbx
    have c2 := hcell (j := 2) hbx
    have c3 := hcell (j := 3) hbx
    have c4 := hcell (j := 4) hbx
    have c5 := hcell (j := 5) hbx
    have cl := hlt hbx
    have HR := Lib.hid (sd_rupgrade hb HBi.out HK.out.1 a3 a5)
    clear hb kp hbx HA HU HL HB HH HP
    generalize upBE hs a3 a5 = ue at *
    generalize upBG hs a3 a5 = ug at *
    go_wp2_with fail
    refine HR.out.mono ?_
    rintro e y2 ⟨rfl, hs2, _⟩
    have HE := Lib.hid hs2
    clear hs2 HR c0 c1 c2 c3 c4 c5 cl
    go_wp2
    go_ret
    exact ⟨rfl, _, _, HE.out⟩
end Go.Proofs.YtodnlelnpidliaaGreat
end

/- BucketScript: the walk. -/
section
namespace Go.Proofs.YtodnlelnpidliaaGreat.bucketScript
open Go.RowKit Go.Shelf
set_option linter.unusedVariables false

theorem nx1 (k : Nat) : (k : Int) + 1 = ((k + 1 : Nat) : Int) := rfl
theorem down (a b : Nat) (h : b < a) : a - (intOf (.int .i64 ((b : Int) + 1))).toNat < a - (intOf (.int .i64 (b : Int))).toNat := by
  show a - ((b : Int) + 1).toNat < a - (b : Int).toNat
  omega
/-- Both buckets when they are made. -/
theorem sd_made {w W W1 W2 : World} {o mb po n N ro rpo rpg : Nat} {F : Nat → Prop} (h : BA w W o mb po n 0 [] (List.replicate N false) F) (hp : Rp W1 rpo rpg (List.replicate N false)) (h1 : W.heap.size ≤ rpo) (h2 : W.heap.size ≤ rpg) (g1 : Nw W W1) (h3 : W1.heap.size ≤ ro) (hr : Rb W2 ro rpo n (.slice none 0 0) []) (g2 : Nw W1 W2) (hpl : rpg < W1.heap.size) :
    Sdd w o mb po n 0 ro rpo rpg [] (List.replicate N false) [] (List.replicate N false) W2 := by
  have hw := h.nw.sz
  have hlt := dv_lt h.db
  have hs := g1.sz
  refine ⟨[], F, .slice none 0 0, [], rfl, rfl, h.step (g1.trans g2), hr, hp.nw g2, by omega, (fun x hx => by cases hx), by omega, by omega, fun b hb q => ?_⟩
  have h4 := hlt b q
  rcases hb with (e | e | ⟨x, hx, _⟩) | e | e
  · omega
  · cases e
  · cases hx
  · omega
  · omega
theorem made_bad (i0 : Int) (W : World) (N : Nat) (hN : N ≤ 128) (hb : i0 < 1 ∨ 64 < i0) : Calls Tryz.prog 9 #[.int .i64 i0, .int .i64 N] W fun e W' => ∃ p, e = .returned (.tuple #[.pointer none, .pointer p, .bool false]) ∧ Nw W W' := by
  have HP := Lib.hid (pnew_any N hN W)
  have HG := Lib.hid hb
  clear hb hN
  go_enter Tryz.func9, Tryz.ntmps9
  go_wp2_with fail
  refine HP.out.mono ?_
  rintro e w1 ⟨po, F, rfl, hp, g1, hF⟩
  have HN := Lib.hid (new_bad (w := w1) (.pointer (some ⟨po, 0, none⟩)) i0 HG.out)
  have HI := Lib.hid g1
  clear hp g1 hF HP
  go_wp2_with fail
  refine HN.out.mono ?_
  rintro e w2 ⟨rfl, rfl⟩
  have HE := HI
  clear HN HI HG
  go_wp2_with fail
  exact bodyPost_ret (v := .tuple #[.pointer none, .pointer (some ⟨po, 0, none⟩), .bool false]) (by simp [results, Tryz.results9, go_sem, *]) rfl ⟨_, rfl, HE.out⟩
set_option maxRecDepth 100000 in
set_option maxHeartbeats 8000000 in
theorem walk (n N : Nat) (i1 : Int) (e1 : i1 % 129 = N) (h1 : 1 ≤ n) (h4 : n ≤ 64) (hN : N ≤ 128) (v : Value) (l : List Cl) (w : World) (hl : Rd 6 clrow w v l) (hok : ∀ R ∈ l, Cl.ok R) (h0 : l.length ≤ 50) :
    Calls Tryz.prog 3 #[.int .i64 n, .int .i64 i1, v] w fun e w' => e = .returned (.bool true) ∧ Nw w w' := by
  have HL := Lib.hid (And.intro hl hok)
  obtain ⟨va, vc, rfl, _⟩ := hl
  have d0 : decide ((50 : Int) < (l.length : Int)) = false := by rw [decide_eq_false_iff_not]; omega
  have HP1 := Lib.hid (fun W => pick_any i1 129 W (by omega) (by omega))
  rw [e1] at HP1
  have HB := Lib.hid (And.intro h1 (And.intro h4 (And.intro hN h0)))
  clear hok e1 h1 h4 hN h0
  go_enter Tryz.func3, Tryz.ntmps3
  go_wp2_with fail
  refine (lives_b w).mono ?_
  rintro e w1 ⟨rfl, g1⟩
  have HG1 := Lib.hid g1
  clear g1
  go_wp2_with (go_at_call 8; (with_reducible refine (HP1.out _).mono ?_); rintro e w' ⟨rfl, rfl⟩)
  refine (made_d w w1 HG1.out n N HB.out.1 HB.out.2.1 HB.out.2.2.1).mono ?_
  rintro e w2 ⟨o, mb, po, F, rfl, hb⟩
  have HM := Lib.hid hb
  clear hb HP1
  go_wp2_with fail
  refine (rpnew_any N HB.out.2.2.1 w2).mono ?_
  rintro e w3 ⟨rpo, rpg, rfl, hp, k1, k2, g3⟩
  have HRp := Lib.hid (And.intro hp (And.intro k1 (And.intro k2 g3)))
  have hpl : rpo < w3.heap.size ∧ rpg < w3.heap.size := ⟨hp.ol, hp.gl⟩
  have HPl := Lib.hid hpl
  clear hp k1 k2 g3 hpl
  go_wp2_with fail
  refine (rb_new n HB.out.1 HB.out.2.1 rpo w3 HPl.out.1).mono ?_
  rintro e w4 ⟨ro, rfl, k3, hr, g4⟩
  have HS := Lib.hid (sd_made HM.out HRp.out.1 HRp.out.2.1 HRp.out.2.2.1 HRp.out.2.2.2 k3 hr g4 HPl.out.2)
  clear k3 hr g4 HM HRp HPl HG1
  go_wp2_with fail
  go_loopw [14] (fun vi wr => ∃ (j : Nat) (hs : List Hq) (L : List Bool), vi = .int .i64 j ∧ j ≤ l.length ∧ Hid (Sdd w o mb po n j ro rpo rpg hs L hs L wr)) (fun vi _ => l.length - (intOf vi).toNat)
  case atStart => exact ⟨0, _, _, rfl, Nat.zero_le _, HS⟩
  case round =>
    clear HS
    obtain ⟨j, hs, L, rfl, hj, HK⟩ := hrel
    by_cases hjl : j < l.length
    rotate_left
    · obtain rfl : j = l.length := Nat.le_antisymm hj (Nat.le_of_not_lt hjl)
      have HN := Lib.hid HK.out.nw
      clear HK
      go_wp2
      go_ret
      exact ⟨rfl, HN.out⟩
    obtain ⟨a', c', e, ⟨q, _⟩ | ⟨b, ob, e2, hc⟩⟩ := HL.out.1
    · rw [q] at hjl; simp at hjl
    subst e2
    cases e
    have hwj : wrap64 ((j : Int) + 1) = (j : Int) + 1 := by have := HB.out.2.2.2; unfold wrap64; omega
    have hji : (j : Int) < (l.length : Int) := by omega
    have hk8 : j ≤ 800 := by have := HB.out.2.2.2; omega
    have hce := fun z (g : Nw w z) => (hc.nw g).cell j hjl
    have hwf := HL.out.2 _ (List.getElem_mem hjl)
    clear hc
    generalize l[j] = R at *
    obtain ⟨b0, b1, b2, b3, b4, b5⟩ := R
    have HSm := Lib.hid (same_d HK.out hk8 HB.out.2.1 b0 b1 b2 b3 b4 b5 hwf)
    have HWf : Hid (wfN (b1, b2)) := hwf
    have HCe := Lib.hid (fun z (g : Nw w z) => (⟨hce z g 0 _ rfl, hce z g 1 _ rfl, hce z g 2 _ rfl, hce z g 3 _ rfl, hce z g 4 _ rfl, hce z g 5 _ rfl⟩ : z.cell? ⟨b, ob + j * 6, none⟩ = some (.int .i64 b0) ∧ z.cell? ⟨b, ob + j * 6 + 1, none⟩ = some (.int .i64 b1) ∧ z.cell? ⟨b, ob + j * 6 + 2, none⟩ = some (.int .i64 b2) ∧ z.cell? ⟨b, ob + j * 6 + 3, none⟩ = some (.int .i64 b3) ∧ z.cell? ⟨b, ob + j * 6 + 4, none⟩ = some (.int .i64 b4) ∧ z.cell? ⟨b, ob + j * 6 + 5, none⟩ = some (.int .i64 b5)))
    obtain ⟨c0, c1, c2, c3, c4, c5⟩ := HCe.out _ HK.out.nw
    clear hce hwf hk8
    go_wp2_with fail
    refine HSm.out.mono ?_
    rintro e y1 ⟨rfl, hs1, L1, hsd⟩
    have H1 := Lib.hid hsd
    have HH1 := Lib.hid (sd_heads hsd)
    clear hsd HSm HK c0 c1 c2 c3 c4 c5
    go_wp2_with fail
    refine HH1.out.mono ?_
    rintro e y2 ⟨v0, rfl, hh0, g2⟩
    obtain ⟨s0, s1, s2, hs0⟩ : ∃ a b c, v0 = .slice a b c := by
      obtain ⟨lm, ho, _⟩ := hh0
      rcases oform ho with ⟨e, _⟩ | ⟨_, _, e⟩
      · exact ⟨_, _, _, e⟩
      · exact ⟨_, _, _, e⟩
    subst hs0
    have H2 := Lib.hid (H1.out.step g2)
    have HV0 := Lib.hid hh0
    have HH2 := Lib.hid (sd_rheads H2.out)
    clear hh0 g2 HH1 H1
    go_wp2_with fail
    refine HH2.out.mono ?_
    rintro e y3 ⟨v1, rfl, hh1, g3⟩
    obtain ⟨t0, t1, t2, ht0⟩ : ∃ a b c, v1 = .slice a b c := by
      obtain ⟨lm, ho, _⟩ := hh1
      rcases oform ho with ⟨e, _⟩ | ⟨_, _, e⟩
      · exact ⟨_, _, _, e⟩
      · exact ⟨_, _, _, e⟩
    subst ht0
    have H3 := Lib.hid (H2.out.step g3)
    have HSh := Lib.hid (sameHs_any (Nat.le_trans H3.out.inv.len (Nat.le_trans HB.out.2.1 (by decide))) (HV0.out.nw g3) hh1)
    clear hh1 g3 HH2 H2 HV0
    go_wp2_with fail
    refine HSh.out.mono ?_
    rintro e y4 ⟨rfl, g4⟩
    have H4 := Lib.hid (H3.out.step g4)
    have HLe := Lib.hid (sd_len H4.out)
    clear g4 HSh H3
    go_wp2_with fail
    refine HLe.out.mono ?_
    rintro e y5 ⟨rfl, g5⟩
    have H5 := Lib.hid (H4.out.step g5)
    have HLe := Lib.hid (sd_rlen H5.out)
    clear g5 H4
    go_wp2_with fail
    refine HLe.out.mono ?_
    rintro e y6 ⟨rfl, g6⟩
    have H6 := Lib.hid (H5.out.step g6)
    have HLi := Lib.hid (sd_live H6.out)
    clear g6 HLe H5
    go_wp2_with fail
    refine HLi.out.mono ?_
    rintro e y7 ⟨rfl, g7⟩
    have H7 := Lib.hid (H6.out.step g7)
    have HLi := Lib.hid (sd_rlive H7.out)
    clear g7 H6
    go_wp2_with fail
    refine HLi.out.mono ?_
    rintro e y8 ⟨rfl, g8⟩
    have H8 := Lib.hid (H7.out.step g8)
    clear g8 HLi H7
    obtain ⟨⟨gt, gr, ⟨r0, r1, r2, r3, r4⟩, gy⟩, hG⟩ : ∃ q, getBD hs1 b3 = q := ⟨_, rfl⟩
    obtain ⟨⟨fi, fy⟩, hF⟩ : ∃ q, findB hs1 b1 b2 b4 = q := ⟨_, rfl⟩
    have HG := Lib.hid (And.intro hG hF)
    have HGt := Lib.hid (sd_get H8.out _ _ _ _ _ _ _ _ _ hG)
    obtain ⟨c0, c1, c2, c3, c4, c5⟩ := HCe.out _ H8.out.nw
    clear hG hF
    go_wp2_with fail
    refine HGt.out.mono ?_
    rintro e y9 ⟨rfl, g9⟩
    obtain ⟨z1, hz1⟩ : ∃ k, (y9.alloc (.cells #[.int .i64 gt, .int .i64 gr] 38)).alloc (.cells #[.int .i64 r0, .int .i64 r1, .int .i64 r2, .int .i64 r3, .int .i64 r4] 47) = k := ⟨_, rfl⟩
    have hal2 := ((Nw.refl _).alloc (.cells #[.int .i64 r0, .int .i64 r1, .int .i64 r2, .int .i64 r3, .int .i64 r4] 47)).at' (allocAt y9 (.cells #[.int .i64 gt, .int .i64 gr] 38))
    have hal3 := allocAt (y9.alloc (.cells #[.int .i64 gt, .int .i64 gr] 38)) (.cells #[.int .i64 r0, .int .i64 r1, .int .i64 r2, .int .i64 r3, .int .i64 r4] 47)
    rw [hz1] at hal2
    rw [World.size_alloc, hz1] at hal3
    have gk : Nw y9 z1 := by rw [← hz1]; exact ((Nw.refl y9).alloc _).alloc _
    have HZ1 := Lib.hid hz1
    have HH1 := Lib.hid (H8.out.step (g9.trans gk))
    have HA1 := Lib.hid (And.intro hal2 hal3)
    have HGt := Lib.hid (sd_rget HH1.out _ _ _ _ _ _ _ _ _ HG.out.1)
    clear c0 c1 c2 c3 c4 c5
    obtain ⟨c0, c1, c2, c3, c4, c5⟩ := HCe.out _ HH1.out.nw
    have HN1 := Lib.hid (H8.out.nw.trans g9)
    obtain ⟨x0, x1, x2, x3, x4, x5⟩ := HCe.out _ ((HN1.out.alloc (.cells #[.int .i64 gt, .int .i64 gr] 38)).alloc (.cells #[.int .i64 r0, .int .i64 r1, .int .i64 r2, .int .i64 r3, .int .i64 r4] 47))
    clear hz1 hal2 hal3 g9 gk H8
    go_wp2_with fail
    rw [HZ1.out]
    generalize y9.heap.size = q0 at *
    refine HGt.out.mono ?_
    rintro e y10 ⟨rfl, g10⟩
    obtain ⟨z2, hz2⟩ : ∃ k, (y10.alloc (.cells #[.int .i64 gt, .int .i64 gr] 38)).alloc (.cells #[.int .i64 r0, .int .i64 r1, .int .i64 r2, .int .i64 r3, .int .i64 r4] 47) = k := ⟨_, rfl⟩
    have hal2 := ((Nw.refl _).alloc (.cells #[.int .i64 r0, .int .i64 r1, .int .i64 r2, .int .i64 r3, .int .i64 r4] 47)).at' (allocAt y10 (.cells #[.int .i64 gt, .int .i64 gr] 38))
    have hal3 := allocAt (y10.alloc (.cells #[.int .i64 gt, .int .i64 gr] 38)) (.cells #[.int .i64 r0, .int .i64 r1, .int .i64 r2, .int .i64 r3, .int .i64 r4] 47)
    rw [hz2] at hal2
    rw [World.size_alloc, hz2] at hal3
    have gk : Nw y10 z2 := by rw [← hz2]; exact ((Nw.refl y10).alloc _).alloc _
    have HZ2 := Lib.hid hz2
    have HH2 := Lib.hid (HH1.out.step (g10.trans gk))
    have HA2 := Lib.hid (And.intro ((g10.trans gk).at' HA1.out.1) (And.intro ((g10.trans gk).at' HA1.out.2) (And.intro hal2 hal3)))
    have HFd := Lib.hid (fun z (g : Nw z2 z) => sd_find (HH2.out.step g) b1 b2 b4 HWf.out fi fy HG.out.2)
    have HFr := Lib.hid (fun z (g : Nw z2 z) => sd_rfind (HH2.out.step g) HH2.out.inv b1 b2 b4 fi fy HG.out.2)
    clear hz2 hal2 hal3 g10 gk HH1 HA1 HGt HZ1 c0 c1 c2 c3 c4 c5 x0 x1 x2 x3 x4 x5
    go_upto_region 18 with fail
    rw [HZ2.out]
    generalize y10.heap.size = q1 at *
    have hne : Nonempty (Wd (fun z => Nw z2 z)) := ⟨⟨_, Nw.refl _⟩⟩
    have C1 := fun (d : Wd (fun z => Nw z2 z)) => (HCe.out _ (HH2.out.nw.trans d.h)).2.1
    have C2 := fun (d : Wd (fun z => Nw z2 z)) => (HCe.out _ (HH2.out.nw.trans d.h)).2.2.1
    have C4 := fun (d : Wd (fun z => Nw z2 z)) => (HCe.out _ (HH2.out.nw.trans d.h)).2.2.2.2.1
    go_wp2_with fail
    refine region_in (fun z => Nw z2 z) (by kernel_rfl) (by kernel_rfl) (Nw.refl z2).dr ?_
    repeat (first | go_big_quiet_step ((exact quietN (fun a b h g => h.trans g) (HFd.out _ (Wd.h _)))) | quiet_step ((exact quietN (fun a b h g => h.trans g) (HFd.out _ (Wd.h _)))))
    refine wpQuiet_nil ?_
    intro d
    have HD := Lib.hid d.h
    clear C1 C2 C4 hne
    revert HD
    generalize d.w = z3
    intro HD
    go_upto_region 19 with fail
    have hne : Nonempty (Wd (fun z => Nw z3 z)) := ⟨⟨_, Nw.refl _⟩⟩
    have C1 := fun (d : Wd (fun z => Nw z3 z)) => (HCe.out _ (HH2.out.nw.trans (HD.out.trans d.h))).2.1
    have C2 := fun (d : Wd (fun z => Nw z3 z)) => (HCe.out _ (HH2.out.nw.trans (HD.out.trans d.h))).2.2.1
    have C4 := fun (d : Wd (fun z => Nw z3 z)) => (HCe.out _ (HH2.out.nw.trans (HD.out.trans d.h))).2.2.2.2.1
    go_wp2_with fail
    refine region_in (fun z => Nw z3 z) (by kernel_rfl) (by kernel_rfl) (Nw.refl z3).dr ?_
    repeat (first | go_big_quiet_step ((exact quietN (fun a b h g => h.trans g) (HFr.out _ (HD.out.trans (Wd.h _))))) | quiet_step ((exact quietN (fun a b h g => h.trans g) (HFr.out _ (HD.out.trans (Wd.h _))))))
    refine wpQuiet_nil ?_
    intro d
    have HE := Lib.hid (HD.out.trans d.h)
    clear C1 C2 C4 hne
    revert HE
    generalize d.w = z4
    intro HE
    have a1 := HE.out.at' HA2.out.1
    have a2 := HE.out.at' HA2.out.2.1
    have a3 := HE.out.at' HA2.out.2.2.1
    have a4 := HE.out.at' HA2.out.2.2.2
    have m0 := hcell (j := 0) a1
    have m1 := hcell (j := 1) a1
    have p0 := hcell (j := 0) a2
    have p1 := hcell (j := 1) a2
    have p2 := hcell (j := 2) a2
    have p3 := hcell (j := 3) a2
    have p4 := hcell (j := 4) a2
    have m2 := hcell (j := 0) a3
    have m3 := hcell (j := 1) a3
    have u0 := hcell (j := 0) a4
    have u1 := hcell (j := 1) a4
    have u2 := hcell (j := 2) a4
    have u3 := hcell (j := 3) a4
    have u4 := hcell (j := 4) a4
    have HFin := Lib.hid (HH2.out.step HE.out)
    clear a1 a2 a3 a4 HA2 HH2 HFd HFr HD HE HCe
    go_wp2_with fail
    go_roundw
    case rel => exact ⟨j + 1, _, _, congrArg (Value.int .i64) (by first | exact nx1 j | exact hwj.trans (nx1 j)), hjl, HFin⟩
    case measure =>
      first | exact down l.length j hjl | (rw [hwj]; exact down l.length j hjl)
end Go.Proofs.YtodnlelnpidliaaGreat.bucketScript
end

/- BucketScript: whatever the arguments are. -/
section
namespace Go.Proofs.YtodnlelnpidliaaGreat.bucketScript
open Go.RowKit Go.Shelf
set_option linter.unusedVariables false

set_option maxRecDepth 100000 in
set_option maxHeartbeats 4000000 in
theorem walk_bad (i0 : Int) (N : Nat) (i1 : Int) (e1 : i1 % 129 = N) (hb : i0 < 1 ∨ 64 < i0) (hN : N ≤ 128) (v : Value) (l : List Cl) (w : World) (hl : Rd 6 clrow w v l) (h0 : l.length ≤ 50) :
    Calls Tryz.prog 3 #[.int .i64 i0, .int .i64 i1, v] w fun e w' => e = .returned (.bool true) ∧ Nw w w' := by
  obtain ⟨va, vc, rfl, _⟩ := hl
  have d0 : decide ((50 : Int) < (l.length : Int)) = false := by rw [decide_eq_false_iff_not]; omega
  have HP1 := Lib.hid (fun W => pick_any i1 129 W (by omega) (by omega))
  rw [e1] at HP1
  have HB := Lib.hid (And.intro hb hN)
  clear e1 hb hN h0
  go_enter Tryz.func3, Tryz.ntmps3
  go_wp2_with fail
  refine (lives_b w).mono ?_
  rintro e w1 ⟨rfl, g1⟩
  have HG1 := Lib.hid g1
  clear g1
  go_wp2_with (go_at_call 8; (with_reducible refine (HP1.out _).mono ?_); rintro e w' ⟨rfl, rfl⟩)
  refine (made_bad i0 w1 N HB.out.2 HB.out.1).mono ?_
  rintro e w2 ⟨p, rfl, g2⟩
  have HG2 := Lib.hid (HG1.out.trans g2)
  clear g2 HP1
  go_wp2_with fail
  refine (rpnew_any N HB.out.2 w2).mono ?_
  rintro e w3 ⟨rpo, rpg, rfl, _, _, _, g3⟩
  have HG3 := Lib.hid (HG2.out.trans g3)
  clear g3 HG2
  go_wp2_with fail
  refine (rb_new_bad i0 (some ⟨rpo, 0, none⟩) w3 (by rcases HB.out.1 with h | h; exact .inl h; exact .inr (.inl h))).mono ?_
  rintro e w4 ⟨rfl, rfl⟩
  go_wp2_with fail
  go_ret
  exact ⟨rfl, HG3.out⟩
set_option maxRecDepth 100000 in
set_option maxHeartbeats 2000000 in
theorem law_any (i0 i1 : Int) (v : Value) (l : List Cl) (w : World) (hl : Rd 6 clrow w v l) (hok : ∀ R ∈ l, Cl.ok R) :
    Calls Tryz.prog 3 #[.int .i64 i0, .int .i64 i1, v] w fun e w' => e = .returned (.bool true) ∧ Nw w w' := by
  by_cases h : l.length ≤ 50
  · obtain ⟨N, hN⟩ := Int.eq_ofNat_of_zero_le (Int.emod_nonneg i1 (show (129 : Int) ≠ 0 by decide))
    have q2 := Int.emod_lt_of_pos i1 (show (0 : Int) < 129 by decide)
    by_cases hb : i0 < 1 ∨ 64 < i0
    · exact walk_bad i0 N i1 hN hb (by omega) v l w hl h
    · obtain ⟨n, rfl⟩ := Int.eq_ofNat_of_zero_le (show 0 ≤ i0 by omega)
      exact walk n N i1 hN (by omega) (by omega) (by omega) v l w hl hok h
  · obtain ⟨va, vc, rfl, _⟩ := hl
    have d0 : decide ((50 : Int) < (l.length : Int)) = true := by rw [decide_eq_true_eq]; omega
    have HN := Lib.hid (Nw.refl w)
    clear h hok
    go_enter Tryz.func3, Tryz.ntmps3
    go_wp2_with fail
    refine (lives_b _).mono ?_
    rintro e w1 ⟨rfl, g1⟩
    have HG1 := Lib.hid (HN.out.trans g1)
    clear g1 HN
    go_wp2_with fail
    go_ret
    exact ⟨rfl, HG1.out⟩
end Go.Proofs.YtodnlelnpidliaaGreat.bucketScript
end
