
/- The developers' package queue: enter. -/
import Derived.Test.YtmciiobncfchlaaQvG
namespace Go.Proofs.Ytmciiobncfchlaa
open Go.RowKit Go.Maps Go.ChangeMaps
set_option linter.unusedVariables false      -- a contract need not use every name

def enR (R : Rq) (W : Int) : Rq := ⟨R.id, R.txn, R.md, R.wt, W + 1⟩
def ahB (q : List Rq) (R : Rq) : Bool := q.any fun X => decide (0 < X.sn) && decide (toI X R < 0)
theorem cntQ_same (q : List Rq) (k : Nat) (hk : k < q.length) (R : Rq) (hm : R.md = q[k].md) : cntQ (q.set k R) = cntQ q := by
  rw [cntQ_set q k hk R]
  funext x
  unfold setC
  rw [hm]
  by_cases e : x = q[k].md
  · rw [if_pos e, if_pos rfl, e]; omega
  · rw [if_neg e, if_neg e]
theorem Ln.eq {w : World} {g0 p : Nat} {t r W : Int} {v : Value} {b n : Nat} {q : List Rq} {c c' : Int → Int} (h : Ln w g0 p t r W v b n q c) (e : c = c') : Ln w g0 p t r W v b n q c' := e ▸ h
theorem Ln.wts {w : World} {g0 p : Nat} {t r W : Int} {v : Value} {b n : Nat} {q : List Rq} {c : Int → Int} (h : Ln w g0 p t r W v b n q c) (W' : Int) : Ln (w.setCell ⟨p, 3, none⟩ (.int .i64 W')) g0 p t r W' v b n q c :=
  ⟨hset (j := 3) _ h.obj, okeep h.own (sgrown w _ _) (fun g hv e => h.vp (hv.trans e.symm)), h.map.kept (sgrown w _ _) (fun e => h.bp (Option.some.inj e)), h.gp, h.gb⟩
theorem below_st {g0 : Nat} {w w' : World} (h : Below g0 w w') {p : Nat} (hp : g0 ≤ p) (j : Nat) (u : Value) : Below g0 w (w'.setCell ⟨p, j, none⟩ u) := Below.setCell h hp u
set_option maxRecDepth 100000 in
set_option maxHeartbeats 4000000 in
theorem dEnter {w : World} {g0 p b n : Nat} {t r W : Int} {v : Value} {q : List Rq} (h : Ln w g0 p t r W v b n q (cntQ q)) (k : Nat) (hk : k < q.length) (hW : 0 ≤ W ∧ W ≤ 4611686018427387904) (hkn : ∀ R ∈ q, knI R.md = true) (hkw : knI q[k].wt = true) (hn : n < 800000) (hl : q.length ≤ 1000)
    (B1 B2 : Bool) (hB1 : fitB (cntQ q) q[k].md q[k].wt = B1) (hB2 : ahB (q.set k (enR q[k] W)) (enR q[k] W) = B2) :
    Calls Try.prog 40 #[.pointer (some ⟨p, 0, none⟩), .int .i64 k] w fun e w' => e = .returned (.bool (B1 && !B2)) ∧ Below g0 w w' ∧ ∃ n', n' ≤ n + 2 ∧
      (if (B1 && !B2) = true then Ln w' g0 p t r W v b n' (q.set k ⟨q[k].id, q[k].txn, q[k].wt, q[k].wt, 0⟩) (cntQ (q.set k ⟨q[k].id, q[k].txn, q[k].wt, q[k].wt, 0⟩)) else Ln w' g0 p t r (W + 1) v b n' (q.set k (enR q[k] W)) (cntQ (q.set k (enR q[k] W)))) := by
  obtain ⟨g, cap, rfl, hg0, hgl, hce⟩ := RqOwn.at h.own hk
  have hki : (k : Int) < (q.length : Int) := by omega
  have hf0 := fun j => own_frz h.own rfl j
  have hup1 := own_upd h.own rfl k hk 4 (by decide) (.int .i64 (W + 1)) (enR q[k] W) rfl
  have hL1 := (h.row (a := ⟨g, k * 5 + 4, none⟩) rfl (.int .i64 (W + 1)) hup1).eq (cntQ_same q k hk (enR q[k] W) rfl).symm
  obtain ⟨w1, hw1⟩ : ∃ w1, w.setCell ⟨g, k * 5 + 4, none⟩ (.int .i64 (W + 1)) = w1 := ⟨_, rfl⟩
  have hb1 : Below g0 w w1 := by
    have b3 := (Tch.refl (fun i => g0 ≤ i) w).set (p := ⟨g, k * 5 + 4, none⟩) (.inl hg0) (.int .i64 (W + 1))
    rw [hw1] at b3
    exact ⟨b3.os, b3.tape, b3.output, b3.size, fun k hk => b3.block k (by have := h.gp; have := hlt h.obj; omega) (by omega)⟩
  rw [hw1] at hL1
  have hlen1 : (q.set k (enR q[k] W)).length = q.length := by simp
  obtain ⟨q1, hq1⟩ : ∃ q1, q.set k (enR q[k] W) = q1 := ⟨_, rfl⟩
  rw [hq1] at hL1 hB2 hlen1 ⊢
  have hk1 : k < q1.length := by omega
  have hq1k : q1[k] = enR q[k] W := by subst hq1; simp
  have hcnt : cntQ q1 = cntQ q := by rw [← hq1]; exact cntQ_same q k hk _ rfl
  have hmd : knI q[k].md = true := hkn _ (List.getElem_mem hk)
  have hset : q1.set k ⟨q[k].id, q[k].txn, q[k].wt, q[k].wt, 0⟩ = q.set k ⟨q[k].id, q[k].txn, q[k].wt, q[k].wt, 0⟩ := by rw [← hq1, List.set_set]
  have hmin : min W 9223372036854775806 = W := by omega
  have hwW : IntKind.i64.wrap (W + 1) = W + 1 := by rw [IntKind.wrap_i64]; omega
  have e2 := hce 2 _ rfl
  have e3 := hce 3 _ rfl
  have e4 := hce 4 _ rfl
  have hpl := hlt h.obj
  have p2 := hcell (j := 2) h.obj
  have p3 := hcell (j := 3) h.obj
  have HW1 := Lib.hid hw1
  have hc1 : ∀ j u, (rqrow (enR q[k] W))[j]? = some u → w1.cell? ⟨g, k * 5 + j, none⟩ = some u := fun j u hu => own_cell hL1.own hlen1.symm k hk1 j u (by rw [hq1k]; exact hu)
  have hpl1 := hlt hL1.obj
  have hgl1 := olt hL1.own rfl
  have s0 : ∀ x, Nw w1 x → x.cell? ⟨g, k * 5, none⟩ = some (.int .i64 q[k].id) := fun x hx => hx.kp (hc1 0 _ rfl)
  have s1 : ∀ x, Nw w1 x → x.cell? ⟨g, k * 5 + 1, none⟩ = some (.int .i64 q[k].txn) := fun x hx => hx.kp (hc1 1 _ rfl)
  have s2 : ∀ x, Nw w1 x → x.cell? ⟨g, k * 5 + 2, none⟩ = some (.int .i64 q[k].md) := fun x hx => hx.kp (hc1 2 _ rfl)
  have s3 : ∀ x, Nw w1 x → x.cell? ⟨g, k * 5 + 3, none⟩ = some (.int .i64 q[k].wt) := fun x hx => hx.kp (hc1 3 _ rfl)
  have s4 : ∀ x, Nw w1 x → x.cell? ⟨g, k * 5 + 4, none⟩ = some (.int .i64 (W + 1)) := fun x hx => hx.kp (hc1 4 _ rfl)
  have s5 : ∀ x, Nw w1 x → x.cell? ⟨p, 2, none⟩ = some (.slice (some ⟨g, 0, none⟩) q.length cap) := fun x hx => hx.kp (hcell (j := 2) hL1.obj)
  have HFt := Lib.hid (fun (x : World) (hx : Nw w1 x) => by
    have hLx := hL1.nw hx
    have := dFits p b n (cntQ q1) q[k].md q[k].wt _ _ _ _ _ x hLx.obj hLx.map (fun y => by have := cntQ_bd q1 y; omega) hkw
    rw [hcnt, hB1] at this
    exact this)
  have HAh := Lib.hid (dAheadOf (enR q[k] W))
  have HCo := Lib.hid (fun (x : World) (hx : Nw w1 x) (f : Value) (hf : Tells x f (fun X => decide (0 < X.sn) && decide (toI X (enR q[k] W) < 0))) => by
    have hLx := hL1.nw hx
    have := dContains _ f _ q1 x (by omega) (RqOwn.rd hLx.own) hf
    rw [show (q1.any fun X => decide (0 < X.sn) && decide (toI X (enR q[k] W) < 0)) = B2 from hB2] at this
    exact this)
  have HGr := Lib.hid (fun (x : World) (hx : Nw w1 x) => by
    have hLx : Ln x g0 p t r W (.slice (some ⟨g, 0, none⟩) q1.length cap) b n q1 (cntQ q1) := by rw [hlen1]; exact hL1.nw hx
    have := dGrant hLx k hk1 (by rw [hq1k]; exact hmd) (by rw [hq1k]; exact hkw) (fun y => by have := cntQ_bd q1 y; omega) (by omega) (by omega)
    rw [hlen1, show grtR q1[k] = ⟨q[k].id, q[k].txn, q[k].wt, q[k].wt, 0⟩ by rw [hq1k]; rfl] at this
    refine this.mono (R' := fun e w' => e = .returned (.tuple #[]) ∧ Ln w' g0 p t r W (.slice (some ⟨g, 0, none⟩) q.length cap) b (n + 2) (q.set k ⟨q[k].id, q[k].txn, q[k].wt, q[k].wt, 0⟩) (cntQ (q.set k ⟨q[k].id, q[k].txn, q[k].wt, q[k].wt, 0⟩)) ∧ Below g0 w w') ?_
    rintro e w' ⟨h1, h2, h3⟩
    rw [hset] at h2
    refine ⟨h1, h2.eq ?_, ?_⟩
    · rw [← hset, cntQ_set q1 k hk1]
      rw [hq1k]; rfl
    · have b3 : Tch (fun i => g0 ≤ i) w w' := ((⟨hb1.os, hb1.tape, hb1.output, hb1.size, fun k _ hk => hb1.block k (by omega)⟩ : Tch (fun i => g0 ≤ i) w w1).trans (Tch.nw hx)).trans' h3 (fun i _ hi => by rcases hi with rfl | rfl; exact h.gb; exact hg0)
      exact ⟨b3.os, b3.tape, b3.output, b3.size, fun k hk => b3.block k (by have := h.gp; have := hlt h.obj; omega) (by omega)⟩)
  have HL1 := Lib.hid (And.intro hL1 hb1)
  have HG := Lib.hid (And.intro h.gp hg0)
  have f3 := hfz (j := 3) hL1.obj
  clear hcnt hmd hset hkn hkw hn hB1 hB2 hq1 hq1k hlen1 hk1 hL1 hb1 hup1 hw1 hc1 hW hce h
  generalize q[k] = R at *
  obtain ⟨d0, d1, d2, d3, d4⟩ := R
  simp only [enR] at *
  unfold rqV at HAh
  go_enter Try.func40, Try.ntmps40
  go_wp2
  rw [HW1.out]
  have g1 := (Nw.refl w1).drew1
  cases B1 <;> cases B2
  all_goals
   refine region_told [some true, some true, some true, some true, some true, some true, some true, some true, some true, some false, none, some true, some true, some true, some true, some true, some true, some true, some true, some true, some false, none, some false, none, some true, some true] (Nw w1) (by kernel_rfl) (by kernel_rfl) (by kernel_rfl) g1 ?_
   obtain ⟨wc, hwc⟩ : ∃ wc, w1.drew = wc := ⟨_, rfl⟩
   rw [hwc] at g1 ⊢
   clear hwc
   repeat (first
    | (refine HW.off ?_)
    | (refine HW.take' ?_; (first | (refine ⟨undef, Or.inr ⟨by rfl, rfl⟩, ?_⟩) | (apply Exists.intro; refine ⟨Or.inl ⟨by rfl, ?_⟩, ?_⟩; (intro x hx; go_simp; first | done | with_reducible rfl))); (try simp only [Act.put, List.setIfInBounds_toArray, List.set_cons_zero, List.set_cons_succ]))
    | (refine HW.go (fun K hK => ?_); go_simp; (first
      | (go_at_call 73; (with_reducible refine (HFt.out _ g1).mono ?_); rintro e wy ⟨rfl, g2⟩; refine hK.out _ _ (g1.trans g2) ?_; intro _; replace g1 := g1.trans g2; clear hK K g2)
      | (go_at_call 50; (with_reducible refine (HAh.out _).mono ?_); rintro e wy ⟨pa, rfl, g2, hbx⟩; refine hK.out _ _ (g1.trans g2) ?_; intro _; replace g1 := g1.trans g2; clear hK K g2; replace hbx := Tells.ahead (S := ⟨d0, d1, d2, d3, W + 1⟩) hbx)
      | (go_at_call 74; (with_reducible refine (HCo.out _ g1 _ hbx).mono ?_); rintro e wy ⟨rfl, g2⟩; refine hK.out _ _ (g1.trans g2) ?_; intro _; replace g1 := g1.trans g2; clear hK K g2 hbx)
      | (refine hK.out _ _ g1 ?_; intro _; clear hK K))))
   refine HW.end_ ?_
   refine NoPanic.normal ?_
   replace HL1 := Lib.hid (And.intro (HL1.out.1.nw g1) (Nw.below (B := g0) HL1.out.2 g1 (by have := HG.out.1; omega)))
   have s0' := s0 _ g1
   have s4' := s4 _ g1
   have s5' := s5 _ g1
   have hpl2 := hlt HL1.out.1.obj
   have hgl2 := olt HL1.out.1.own rfl
   have f3' := hfz (j := 3) HL1.out.1.obj
   have p3' := hcell (j := 3) HL1.out.1.obj
   clear s0 s1 s2 s3 s4 s5 f3 hf0 p2 p3 hpl hpl1 hgl1 HW1 hmin hwW HFt HAh HCo hgl
  · go_wp2
    go_ret
    exact ⟨rfl, below_st HL1.out.2 HG.out.1 3 _, n, by omega, HL1.out.1.wts _⟩
  · go_wp2
    go_ret
    exact ⟨rfl, below_st HL1.out.2 HG.out.1 3 _, n, by omega, HL1.out.1.wts _⟩
  · go_wp2_with (go_at_call 75; (with_reducible refine (HGr.out _ g1).mono ?_); rintro e wz ⟨rfl, hLz, hBz⟩)
    go_ret
    exact ⟨rfl, hBz, _, Nat.le_refl _, hLz⟩
  · go_wp2
    go_ret
    exact ⟨rfl, below_st HL1.out.2 HG.out.1 3 _, n, by omega, HL1.out.1.wts _⟩
end Go.Proofs.Ytmciiobncfchlaa
