/- Texts merged: QvH, QuL, QuN, QuO, QuQ, QvI, QvO, QvP, QuV, QvK, QvJ -/
import Derived.Test.YtmciiobncfchlaaQueueHoldsB8
import Derived.Lib.SliceRun
import Derived.Deep.Upon

/- The developers' package queue: enter. -/
section
namespace Go.Proofs.Ytmciiobncfchlaa
open Go.RowKit Go.Maps Go.ChangeMaps
set_option linter.unusedVariables false      -- a contract need not use every name

def enR (R : Rq) (W : Int) : Rq := ⟨R.id, R.txn, R.md, R.wt, W + 1⟩
def ahB (q : List Rq) (R : Rq) : Bool := q.any fun X => decide (0 < X.sn) && decide (toI X R < 0)
theorem cntQ_same (q : List Rq) (k : Nat) (hk : k < q.length) (R : Rq) (hm : R.md = q[k].md) : cntQ (q.set k R) = cntQ q := by
  rw [cntQ_set q k hk R]
  funext x
  unfold setC
  rw [hm]
  by_cases e : x = q[k].md
  · rw [if_pos e, if_pos rfl, e]; omega
  · rw [if_neg e, if_neg e]
theorem Ln.eq {w : World} {g0 p : Nat} {t r W : Int} {v : Value} {b n : Nat} {q : List Rq} {c c' : Int → Int} (h : Ln w g0 p t r W v b n q c) (e : c = c') : Ln w g0 p t r W v b n q c' := e ▸ h
theorem Ln.wts {w : World} {g0 p : Nat} {t r W : Int} {v : Value} {b n : Nat} {q : List Rq} {c : Int → Int} (h : Ln w g0 p t r W v b n q c) (W' : Int) : Ln (w.setCell ⟨p, 3, none⟩ (.int .i64 W')) g0 p t r W' v b n q c :=
  ⟨hset (j := 3) _ h.obj, okeep h.own (sgrown w _ _) (fun g hv e => h.vp (hv.trans e.symm)), h.map.kept (sgrown w _ _) (fun e => h.bp (Option.some.inj e)), h.gp, h.gb⟩
theorem below_st {g0 : Nat} {w w' : World} (h : Below g0 w w') {p : Nat} (hp : g0 ≤ p) (j : Nat) (u : Value) : Below g0 w (w'.setCell ⟨p, j, none⟩ u) := Below.setCell h hp u
set_option maxRecDepth 100000 in
set_option maxHeartbeats 4000000 in
theorem dEnter {w : World} {g0 p b n : Nat} {t r W : Int} {v : Value} {q : List Rq} (h : Ln w g0 p t r W v b n q (cntQ q)) (k : Nat) (hk : k < q.length) (hW : 0 ≤ W ∧ W ≤ 4611686018427387904) (hkn : ∀ R ∈ q, knI R.md = true) (hkw : knI q[k].wt = true) (hn : n < 800000) (hl : q.length ≤ 1000)
    (B1 B2 : Bool) (hB1 : fitB (cntQ q) q[k].md q[k].wt = B1) (hB2 : ahB (q.set k (enR q[k] W)) (enR q[k] W) = B2) :
    Calls Try.prog 40 #[.pointer (some ⟨p, 0, none⟩), .int .i64 k] w fun e w' => e = .returned (.bool (B1 && !B2)) ∧ Below g0 w w' ∧ ∃ n', n' ≤ n + 2 ∧
      (if (B1 && !B2) = true then Ln w' g0 p t r W v b n' (q.set k ⟨q[k].id, q[k].txn, q[k].wt, q[k].wt, 0⟩) (cntQ (q.set k ⟨q[k].id, q[k].txn, q[k].wt, q[k].wt, 0⟩)) else Ln w' g0 p t r (W + 1) v b n' (q.set k (enR q[k] W)) (cntQ (q.set k (enR q[k] W)))) := by
  obtain ⟨g, cap, rfl, hg0, hgl, hce⟩ := RqOwn.at h.own hk
  have hki : (k : Int) < (q.length : Int) := by omega
  have hf0 := fun j => own_frz h.own rfl j
  have hup1 := own_upd h.own rfl k hk 4 (by decide) (.int .i64 (W + 1)) (enR q[k] W) rfl
  have hL1 := (h.row (a := ⟨g, k * 5 + 4, none⟩) rfl (.int .i64 (W + 1)) hup1).eq (cntQ_same q k hk (enR q[k] W) rfl).symm
  obtain ⟨w1, hw1⟩ : ∃ w1, w.setCell ⟨g, k * 5 + 4, none⟩ (.int .i64 (W + 1)) = w1 := ⟨_, rfl⟩
  have hb1 : Below g0 w w1 := by
    have b3 := (Tch.refl (fun i => g0 ≤ i) w).set (p := ⟨g, k * 5 + 4, none⟩) (.inl hg0) (.int .i64 (W + 1))
    rw [hw1] at b3
    exact ⟨b3.os, b3.tape, b3.output, b3.size, fun k hk => b3.block k (by have := h.gp; have := hlt h.obj; omega) (by omega)⟩
  rw [hw1] at hL1
  have hlen1 : (q.set k (enR q[k] W)).length = q.length := by simp
  obtain ⟨q1, hq1⟩ : ∃ q1, q.set k (enR q[k] W) = q1 := ⟨_, rfl⟩
  rw [hq1] at hL1 hB2 hlen1 ⊢
  have hk1 : k < q1.length := by omega
  have hq1k : q1[k] = enR q[k] W := by subst hq1; simp
  have hcnt : cntQ q1 = cntQ q := by rw [← hq1]; exact cntQ_same q k hk _ rfl
  have hmd : knI q[k].md = true := hkn _ (List.getElem_mem hk)
  have hset : q1.set k ⟨q[k].id, q[k].txn, q[k].wt, q[k].wt, 0⟩ = q.set k ⟨q[k].id, q[k].txn, q[k].wt, q[k].wt, 0⟩ := by rw [← hq1, List.set_set]
  have hmin : min W 9223372036854775806 = W := by omega
  have hwW : IntKind.i64.wrap (W + 1) = W + 1 := by rw [IntKind.wrap_i64]; omega
  have e2 := hce 2 _ rfl
  have e3 := hce 3 _ rfl
  have e4 := hce 4 _ rfl
  have hpl := hlt h.obj
  have p2 := hcell (j := 2) h.obj
  have p3 := hcell (j := 3) h.obj
  have HW1 := Lib.hid hw1
  have hc1 : ∀ j u, (rqrow (enR q[k] W))[j]? = some u → w1.cell? ⟨g, k * 5 + j, none⟩ = some u := fun j u hu => own_cell hL1.own hlen1.symm k hk1 j u (by rw [hq1k]; exact hu)
  have hpl1 := hlt hL1.obj
  have hgl1 := olt hL1.own rfl
  have s0 : ∀ x, Nw w1 x → x.cell? ⟨g, k * 5, none⟩ = some (.int .i64 q[k].id) := fun x hx => hx.kp (hc1 0 _ rfl)
  have s1 : ∀ x, Nw w1 x → x.cell? ⟨g, k * 5 + 1, none⟩ = some (.int .i64 q[k].txn) := fun x hx => hx.kp (hc1 1 _ rfl)
  have s2 : ∀ x, Nw w1 x → x.cell? ⟨g, k * 5 + 2, none⟩ = some (.int .i64 q[k].md) := fun x hx => hx.kp (hc1 2 _ rfl)
  have s3 : ∀ x, Nw w1 x → x.cell? ⟨g, k * 5 + 3, none⟩ = some (.int .i64 q[k].wt) := fun x hx => hx.kp (hc1 3 _ rfl)
  have s4 : ∀ x, Nw w1 x → x.cell? ⟨g, k * 5 + 4, none⟩ = some (.int .i64 (W + 1)) := fun x hx => hx.kp (hc1 4 _ rfl)
  have s5 : ∀ x, Nw w1 x → x.cell? ⟨p, 2, none⟩ = some (.slice (some ⟨g, 0, none⟩) q.length cap) := fun x hx => hx.kp (hcell (j := 2) hL1.obj)
  have HFt := Lib.hid (fun (x : World) (hx : Nw w1 x) => by
    have hLx := hL1.nw hx
    have := dFits p b n (cntQ q1) q[k].md q[k].wt _ _ _ _ _ x hLx.obj hLx.map (fun y => by have := cntQ_bd q1 y; omega) hkw
    rw [hcnt, hB1] at this
    exact this)
  have HAh := Lib.hid (dAheadOf (enR q[k] W))
  have HCo := Lib.hid (fun (x : World) (hx : Nw w1 x) (f : Value) (hf : Tells x f (fun X => decide (0 < X.sn) && decide (toI X (enR q[k] W) < 0))) => by
    have hLx := hL1.nw hx
    have := dContains _ f _ q1 x (by omega) (RqOwn.rd hLx.own) hf
    rw [show (q1.any fun X => decide (0 < X.sn) && decide (toI X (enR q[k] W) < 0)) = B2 from hB2] at this
    exact this)
  have HGr := Lib.hid (fun (x : World) (hx : Nw w1 x) => by
    have hLx : Ln x g0 p t r W (.slice (some ⟨g, 0, none⟩) q1.length cap) b n q1 (cntQ q1) := by rw [hlen1]; exact hL1.nw hx
    have := dGrant hLx k hk1 (by rw [hq1k]; exact hmd) (by rw [hq1k]; exact hkw) (fun y => by have := cntQ_bd q1 y; omega) (by omega) (by omega)
    rw [hlen1, show grtR q1[k] = ⟨q[k].id, q[k].txn, q[k].wt, q[k].wt, 0⟩ by rw [hq1k]; rfl] at this
    refine this.mono (R' := fun e w' => e = .returned (.tuple #[]) ∧ Ln w' g0 p t r W (.slice (some ⟨g, 0, none⟩) q.length cap) b (n + 2) (q.set k ⟨q[k].id, q[k].txn, q[k].wt, q[k].wt, 0⟩) (cntQ (q.set k ⟨q[k].id, q[k].txn, q[k].wt, q[k].wt, 0⟩)) ∧ Below g0 w w') ?_
    rintro e w' ⟨h1, h2, h3⟩
    rw [hset] at h2
    refine ⟨h1, h2.eq ?_, ?_⟩
    · rw [← hset, cntQ_set q1 k hk1]
      rw [hq1k]; rfl
    · have b3 : Tch (fun i => g0 ≤ i) w w' := ((⟨hb1.os, hb1.tape, hb1.output, hb1.size, fun k _ hk => hb1.block k (by omega)⟩ : Tch (fun i => g0 ≤ i) w w1).trans (Tch.nw hx)).trans' h3 (fun i _ hi => by rcases hi with rfl | rfl; exact h.gb; exact hg0)
      exact ⟨b3.os, b3.tape, b3.output, b3.size, fun k hk => b3.block k (by have := h.gp; have := hlt h.obj; omega) (by omega)⟩)
  have HL1 := Lib.hid (And.intro hL1 hb1)
  have HG := Lib.hid (And.intro h.gp hg0)
  have f3 := hfz (j := 3) hL1.obj
  clear hcnt hmd hset hkn hkw hn hB1 hB2 hq1 hq1k hlen1 hk1 hL1 hb1 hup1 hw1 hc1 hW hce h
  generalize q[k] = R at *
  obtain ⟨d0, d1, d2, d3, d4⟩ := R
  simp only [enR] at *
  unfold rqV at HAh
  go_enter Try.func40, Try.ntmps40
  go_wp2
  rw [HW1.out]
  have g1 := (Nw.refl w1).drew1
  cases B1 <;> cases B2
  all_goals
   refine region_told [some true, some true, some true, some true, some true, some true, some true, some true, some true, some false, none, some true, some true, some true, some true, some true, some true, some true, some true, some true, some false, none, some false, none, some true, some true] (Nw w1) (by kernel_rfl) (by kernel_rfl) (by kernel_rfl) g1 ?_
   obtain ⟨wc, hwc⟩ : ∃ wc, w1.drew = wc := ⟨_, rfl⟩
   rw [hwc] at g1 ⊢
   clear hwc
   repeat (first
    | (refine HW.off ?_)
    | (refine HW.take' ?_; (first | (refine ⟨undef, Or.inr ⟨by rfl, rfl⟩, ?_⟩) | (apply Exists.intro; refine ⟨Or.inl ⟨by rfl, ?_⟩, ?_⟩; (intro x hx; go_simp; first | done | with_reducible rfl))); (try simp only [Act.put, List.setIfInBounds_toArray, List.set_cons_zero, List.set_cons_succ]))
    | (refine HW.go (fun K hK => ?_); go_simp; (first
      | (go_at_call 73; (with_reducible refine (HFt.out _ g1).mono ?_); rintro e wy ⟨rfl, g2⟩; refine hK.out _ _ (g1.trans g2) ?_; intro _; replace g1 := g1.trans g2; clear hK K g2)
      | (go_at_call 50; (with_reducible refine (HAh.out _).mono ?_); rintro e wy ⟨pa, rfl, g2, hbx⟩; refine hK.out _ _ (g1.trans g2) ?_; intro _; replace g1 := g1.trans g2; clear hK K g2; replace hbx := Tells.ahead (S := ⟨d0, d1, d2, d3, W + 1⟩) hbx)
      | (go_at_call 74; (with_reducible refine (HCo.out _ g1 _ hbx).mono ?_); rintro e wy ⟨rfl, g2⟩; refine hK.out _ _ (g1.trans g2) ?_; intro _; replace g1 := g1.trans g2; clear hK K g2 hbx)
      | (refine hK.out _ _ g1 ?_; intro _; clear hK K))))
   refine HW.end_ ?_
   refine NoPanic.normal ?_
   replace HL1 := Lib.hid (And.intro (HL1.out.1.nw g1) (Nw.below (B := g0) HL1.out.2 g1 (by have := HG.out.1; omega)))
   have s0' := s0 _ g1
   have s4' := s4 _ g1
   have s5' := s5 _ g1
   have hpl2 := hlt HL1.out.1.obj
   have hgl2 := olt HL1.out.1.own rfl
   have f3' := hfz (j := 3) HL1.out.1.obj
   have p3' := hcell (j := 3) HL1.out.1.obj
   clear s0 s1 s2 s3 s4 s5 f3 hf0 p2 p3 hpl hpl1 hgl1 HW1 hmin hwW HFt HAh HCo hgl
  · go_wp2
    go_ret
    exact ⟨rfl, below_st HL1.out.2 HG.out.1 3 _, n, by omega, HL1.out.1.wts _⟩
  · go_wp2
    go_ret
    exact ⟨rfl, below_st HL1.out.2 HG.out.1 3 _, n, by omega, HL1.out.1.wts _⟩
  · go_wp2_with (go_at_call 75; (with_reducible refine (HGr.out _ g1).mono ?_); rintro e wz ⟨rfl, hLz, hBz⟩)
    go_ret
    exact ⟨rfl, hBz, _, Nat.le_refl _, hLz⟩
  · go_wp2
    go_ret
    exact ⟨rfl, below_st HL1.out.2 HG.out.1 3 _, n, by omega, HL1.out.1.wts _⟩
end Go.Proofs.Ytmciiobncfchlaa
end

/- The document's own queue: Hand. -/
section
namespace Go.Proofs.Ytmciiobncfchlaa
open Go.RowKit
set_option linter.unusedVariables false      -- a contract need not use every name

theorem id_ne {W : Int} {q : List Rq} (h : Ok W q) {m k : Nat} (hm : m < q.length) (hk : k < q.length) (ne : m ≠ k) : q[m].id ≠ q[k].id := by
  rcases Nat.lt_or_gt_of_ne ne with g | g
  · exact (List.pairwise_iff_getElem.1 h.pr m k hm hk g).id
  · exact fun e => (List.pairwise_iff_getElem.1 h.pr k m hk hm g).id e.symm
theorem hn_hit {W : Int} {q : List Rq} {id x : Int} {m k : Nat} (h : Ok W q) (hk : k < q.length) (hf : fnd q id = some q[k]) (hm : m < q.length) (ne : m ≠ k) (e : q[m].txn = x) : (q.any fun o => !(o.id == id) && o.txn == x) = true := by
  have := id_ne h hm hk ne
  rw [(fnd_is hf).2] at this
  exact List.any_eq_true.2 ⟨q[m], List.getElem_mem hm, by simp [this, e]⟩
theorem hn_none {q : List Rq} {id x : Int} {k : Nat} (hk : k < q.length) (hf : fnd q id = some q[k]) (h : ∀ m (hm : m < q.length), m ≠ k → q[m].txn ≠ x) : (q.any fun o => !(o.id == id) && o.txn == x) = false := by
  rw [List.any_eq_false]
  intro a ha
  obtain ⟨m, hm, rfl⟩ := List.getElem_of_mem ha
  by_cases e : m = k
  · subst e; simp [(fnd_is hf).2]
  · simp [h m hm e]
theorem hn_at {W : Int} {q : List Rq} {id x : Int} {k : Nat} (h : Ok W q) (hk : k < q.length) (hf : fnd q id = some q[k]) : chg (fun r => ⟨r.id, x, r.md, r.wt, r.sn⟩) id q = q.set k ⟨q[k].id, x, q[k].md, q[k].wt, q[k].sn⟩ := by
  rw [← chg_set h (fun r => ⟨r.id, x, r.md, r.wt, r.sn⟩) k hk, (fnd_is hf).2]
end Go.Proofs.Ytmciiobncfchlaa
end

/- The document's own queue: Ask. -/
section
namespace Go.Proofs.Ytmciiobncfchlaa
open Go.RowKit
set_option linter.unusedVariables false      -- a contract need not use every name

/-- What a call gives that returns a head, whether it was granted, and an error. -/
def HR2 (X : Hq × Bool × Int) (w : World) (e : Ending) (w' : World) : Prop := ∃ v', e = .returned (.tuple #[hdV X.1.t X.1.r v' X.1.W, .bool X.2.1, .int .i64 X.2.2]) ∧ Nw w w' ∧ RqAt w' v' X.1.q ∧ capOk v'
theorem free_iff {W : Int} {q : List Rq} (h : Ok W q) (m : Int) : free q m = true ↔ (∀ a ∈ q, ¬ isUp a) ∧ (∀ a ∈ q, a.md ≠ 0) ∧ fitI q m (-1) := by
  constructor
  · intro hf
    have hf' : ∀ a ∈ q, a.sn = 0 ∧ cpI a.md m = true := by
      intro a ha
      have := List.all_eq_true.1 hf a ha
      simpa using this
    exact ⟨fun a ha u => by have := (hf' a ha).1; have := u.2; omega, fun a ha => ((h.rt a ha).h (hf' a ha).1).1, fun k hk _ _ => (hf' _ (List.getElem_mem hk)).2⟩
  · rintro ⟨h1, h2, h3⟩
    refine List.all_eq_true.2 fun a ha => ?_
    obtain ⟨k, hk, rfl⟩ := List.getElem_of_mem ha
    have hm := h2 _ ha
    have s0 := (h.rt _ ha).s0
    have hs : q[k].sn = 0 := by
      have := h1 _ ha
      unfold isUp at this
      have : ¬ 0 < q[k].sn := fun e => this ⟨hm, e⟩
      omega
    simp [hs, h3 k hk (by omega) hm]
theorem ask_bad {h : Hq} {id txn m : Int} (e : id < 0 ∨ m = 0 ∨ knI m = false) : askR h id txn m = (noH, false, 2) := by
  unfold askR
  have : askE h.q id txn m = 2 := by unfold askE; rw [if_pos e]
  rw [this]; rfl
theorem ask_two {h : Hq} {id txn m : Int} (e : ¬ (id < 0 ∨ m = 0 ∨ knI m = false)) (a : (h.q.any fun r => r.id == id || r.txn == txn) = true) : askR h id txn m = (noH, false, 4) := by
  unfold askR
  have : askE h.q id txn m = 4 := by unfold askE; rw [if_neg e, if_pos a]
  rw [this]; rfl
theorem ask_yes {h : Hq} {id txn m : Int} (e : ¬ (id < 0 ∨ m = 0 ∨ knI m = false)) (a : (h.q.any fun r => r.id == id || r.txn == txn) = false) (f : free h.q m = true) : askR h id txn m = (⟨h.t, h.r, h.W, h.q ++ [⟨id, txn, m, m, 0⟩]⟩, true, 0) := by
  unfold askR
  have : askE h.q id txn m = 0 := by unfold askE; rw [if_neg e, if_neg (by rw [a]; simp)]
  rw [this, if_pos rfl]; unfold askQ; rw [if_pos f]
theorem ask_no {h : Hq} {id txn m : Int} (e : ¬ (id < 0 ∨ m = 0 ∨ knI m = false)) (a : (h.q.any fun r => r.id == id || r.txn == txn) = false) (f : ¬ free h.q m = true) : askR h id txn m = (⟨h.t, h.r, h.W + 1, h.q ++ [⟨id, txn, 0, m, h.W + 1⟩]⟩, false, 0) := by
  unfold askR
  have : askE h.q id txn m = 0 := by unfold askE; rw [if_neg e, if_neg (by rw [a]; simp)]
  rw [this, if_pos rfl]; unfold askQ; rw [if_neg f]
theorem any_take {p : Rq → Bool} {q : List Rq} {k : Nat} (hk : k < q.length) (h : p q[k] = true) : q.any p = true := List.any_eq_true.2 ⟨_, List.getElem_mem hk, h⟩
theorem any_none {p : Rq → Bool} {q : List Rq} (h : ∀ k (hk : k < q.length), p q[k] = false) : q.any p = false := by
  rw [List.any_eq_false]
  intro a ha
  obtain ⟨k, hk, rfl⟩ := List.getElem_of_mem ha
  simp [h k hk]
theorem box_row (w : World) (a b c d e : Int) (T : TypeId) : ∀ j u, (rqrow ⟨a, b, c, d, e⟩)[j]? = some u → (w.alloc (.cells #[.int .i64 a, .int .i64 b, .int .i64 c, .int .i64 d, .int .i64 e] T)).cell? ⟨w.heap.size, j, none⟩ = some u := by
  intro j u hu
  rw [hcell (allocAt w _), ← Array.getElem?_toList]
  exact hu
/-- An append of one request to the row of a head's own. -/
theorem push_one {w z : World} {g0 pb n1 k1 : Nat} {a1 : Option Addr} {q : List Rq} (hz : Nw w z) (hg : w.heap.size ≤ g0) (h : RqOwn z g0 (.slice a1 n1 k1) q) (hl : q.length ≤ 1000) (a b c d e : Int) (hpb : pb < z.heap.size) (hg0 : g0 ≤ z.heap.size) (hne : ∀ g, (Value.slice a1 n1 k1).ownBlock = some g → g ≠ pb) :
    ∃ a2 n2 k2 w2, (Builtin.append_ #[25, 25] 25 #[.slice a1 n1 k1, .slice (some ⟨z.heap.size, 0, none⟩) 1 1]).run Try.prog (z.alloc (.cells #[.int .i64 a, .int .i64 b, .int .i64 c, .int .i64 d, .int .i64 e] 41)) = .ok (.slice a2 n2 k2) w2 ∧
      RqOwn w2 g0 (.slice a2 n2 k2) (q ++ [⟨a, b, c, d, e⟩]) ∧ Nw w w2 ∧ (∀ x, x < z.heap.size → (∀ g, (Value.slice a1 n1 k1).ownBlock = some g → x ≠ g) → w2.heap[x]? = z.heap[x]?) ∧ (∀ x, (Value.slice a2 n2 k2).ownBlock = some x → x ≠ pb) := by
  have hN : Nw z (z.alloc (.cells #[.int .i64 a, .int .i64 b, .int .i64 c, .int .i64 d, .int .i64 e] 41)) := (Nw.refl z).alloc _
  obtain ⟨v', w2, hrun, hR, hG, hbk, g2, k2, hv⟩ := Own.push elemRq (onw h hN) ⟨a, b, c, d, e⟩ z.heap.size 1 (box_row z a b c d e _) (by omega) (Nat.le_trans hg0 hN.sz)
  subst hv
  refine ⟨_, _, _, w2, hrun, hR, (hz.trans hN).gro hG (fun x hx => Nat.le_trans hg (oge h hx)), fun x hx hxg => (hG.block x (Nat.lt_of_lt_of_le hx hN.sz) (fun e => hxg x e.symm rfl)).trans (hN.block x hx), fun x hx e => ?_⟩
  subst e
  have hs : (z.alloc (.cells #[.int .i64 a, .int .i64 b, .int .i64 c, .int .i64 d, .int .i64 e] 41)).heap.size = z.heap.size + 1 := by simp
  rcases hbk with q1 | q1
  · rw [hx] at q1; exact hne x q1.symm rfl
  · rw [hx] at q1; have e2 : x = (z.alloc (.cells #[.int .i64 a, .int .i64 b, .int .i64 c, .int .i64 d, .int .i64 e] 41)).heap.size := Option.some.inj q1; omega
end Go.Proofs.Ytmciiobncfchlaa
end

/- The checker's kit on heads: Own, OwnHead, LightHeads. -/
section
namespace Go.Proofs.Ytmciiobncfchlaa
open Go.RowKit
set_option linter.unusedVariables false      -- a contract need not use every name

theorem kOwn (v : Value) (q : List Rq) (w : World) (hl : q.length ≤ 1000) (h : RqAt w v q) :
    Calls Try.prog 49 #[v] w fun e w' => ∃ v', e = .returned v' ∧ Nw w w' ∧ RqOwn w' w.heap.size v' q := by
  obtain ⟨v', w1, hrun, hO, hN⟩ := own_clone elemRq h (by omega)
  obtain ⟨a, c, rfl⟩ := h.form
  have HR := Lib.hid hrun
  have HO := Lib.hid (And.intro hN hO)
  clear hrun hO hN h
  go_enter Try.func49, Try.ntmps49
  go_wp2_with (at_builtin; refine wpl_app (by rfl) (.tmp 3) (.tmp 4) 25 rfl _ _ _ _ rfl rfl HR.out ?_)
  go_ret
  exact ⟨_, rfl, HO.out.1, HO.out.2⟩
set_option maxHeartbeats 2000000 in
theorem kOwnHead (t r W : Int) (v : Value) (q : List Rq) (w : World) (hl : q.length ≤ 1000) (h : RqAt w v q) :
    Calls Try.prog 16 #[hdV t r v W] w fun e w' => ∃ v', e = .returned (hdV t r v' W) ∧ Nw w w' ∧ RqOwn w' w.heap.size v' q := by
  have HK := Lib.hid (fun (w1 : World) (g : Nw w w1) => kOwn v q w1 hl (h.nw g))
  unfold hdV
  obtain ⟨a, c, rfl, h⟩ := h
  clear h
  have HX := Lib.hid (two_boxes w (.cells #[.int .i64 t, .int .i64 r, .slice a q.length c, .int .i64 W] 27) (.cells #[.int .i64 0, .int .i64 0, .slice none 0 0, .int .i64 0] 27))
  go_enter Try.func16, Try.ntmps16
  go_wp2_with fail
  refine (HK.out _ HX.out.2.2.1).mono ?_
  rintro e w1 ⟨v1, rfl, g1, hO⟩
  obtain ⟨a1, k1, rfl⟩ := (RqOwn.rd hO).form
  have hp := g1.at' HX.out.1
  have hq := g1.at' HX.out.2.1
  have hN := HX.out.2.2.1.trans g1
  rw [HX.out.2.2.2] at hO
  have c0 := hcell (j := 0) hp
  have c1 := hcell (j := 1) hp
  have c2 := hcell (j := 2) hp
  have c3 := hcell (j := 3) hp
  have fz' := fun k => hfz (j := k) hp
  have d0 := hcell (j := 0) hq
  have d1 := hcell (j := 1) hq
  have d2 := hcell (j := 2) hq
  have d3 := hcell (j := 3) hq
  have fz := fun k => hfz (j := k) hq
  have HO := Lib.hid (And.intro hN hO)
  clear hp hq hN hO HX HK g1
  go_wp2
  refine bodyPost_ret (v := .agg #[.int .i64 t, .int .i64 r, .slice a1 q.length k1, .int .i64 W]) (by simp [results, Try.results16, go_sem, *]) rfl ⟨_, rfl, fill_nw (HO.out.1.st (Nat.le_refl _) _) (Nat.le_succ _) _ _ _ _, ?_⟩
  have h5 := own_st HO.out.2 (p := ⟨w.heap.size, 2, none⟩) (by show w.heap.size < _; omega) (.slice a1 q.length k1)
  have hr := fill_own (rb := w.heap.size + 1) h5 (by omega) (.int .i64 t) (.int .i64 r) (.slice a1 q.length k1) (.int .i64 W)
  exact olow hr (fun g hg => by have := oge hr hg; omega)
end Go.Proofs.Ytmciiobncfchlaa
end

/- The document's own queue: Upgrade. -/
section
namespace Go.Proofs.Ytmciiobncfchlaa
open Go.RowKit
set_option linter.unusedVariables false      -- a contract need not use every name

theorem upF_iff {W : Int} {q : List Rq} (h : Ok W q) {k : Nat} (hk : k < q.length) (hs : q[k].sn = 0) (want : Int) : upF q q[k] want = true ↔ fitI q want k ∧ ∀ a ∈ q, ¬ isUp a := by
  constructor
  · intro hf
    have hf' : ∀ o ∈ q, o.id ≠ q[k].id → ¬ (0 < o.sn ∧ o.md ≠ 0) ∧ (o.md = 0 ∨ cpI o.md want = true) := by
      intro o ho ne
      have := List.all_eq_true.1 hf o ho
      simp [ne] at this
      refine ⟨fun e => ?_, this.2⟩
      rcases this.1 with q1 | q1
      · have := e.1; omega
      · exact e.2 q1
    refine ⟨fun j hj ne hm => ?_, fun a ha u => ?_⟩
    · exact (hf' _ (List.getElem_mem hj) (id_ne h hj hk (by omega))).2.resolve_left hm
    · obtain ⟨j, hj, rfl⟩ := List.getElem_of_mem ha
      by_cases e : j = k
      · subst e; have := u.2; omega
      · exact (hf' _ (List.getElem_mem hj) (id_ne h hj hk e)).1 ⟨u.2, u.1⟩
  · rintro ⟨h1, h2⟩
    refine List.all_eq_true.2 fun a ha => ?_
    obtain ⟨j, hj, rfl⟩ := List.getElem_of_mem ha
    by_cases e : j = k
    · subst e; simp
    · have hu := h2 _ ha
      have hne := id_ne h hj hk e
      by_cases hm : q[j].md = 0
      · simp [hm]
      · have hsn : ¬ 0 < q[j].sn := fun e => hu ⟨hm, e⟩
        simp [hne, hm, h1 j hj (by omega) hm]
        omega
theorem up_bad {h : Hq} {id m : Int} (e : m = 0 ∨ knI m = false) : upR h id m = (noH, false, 2) := by unfold upR; rw [if_pos e]
theorem up_none {h : Hq} {id m : Int} (e : ¬ (m = 0 ∨ knI m = false)) (f : fnd h.q id = none) : upR h id m = (noH, false, 5) := by unfold upR; rw [if_neg e, f]
theorem up_wait {h : Hq} {id m : Int} {R : Rq} (e : ¬ (m = 0 ∨ knI m = false)) (f : fnd h.q id = some R) (s : 0 < R.sn) : upR h id m = (noH, false, 7) := by unfold upR; rw [if_neg e, f]; exact if_pos s
theorem up_go {h : Hq} {id m : Int} {R : Rq} (e : ¬ (m = 0 ∨ knI m = false)) (f : fnd h.q id = some R) (s : ¬ 0 < R.sn) : upR h id m = (⟨h.t, h.r, (upQ h.W h.q R m).1, (upQ h.W h.q R m).2.1⟩, (upQ h.W h.q R m).2.2, 0) := by unfold upR; rw [if_neg e, f]; exact if_neg s
theorem set_self {q : List Rq} {k : Nat} (hk : k < q.length) (x : Rq) (e : x = q[k]) : q.set k x = q := by subst e; exact List.set_getElem_self hk
end Go.Proofs.Ytmciiobncfchlaa
end

/- Plain facts: what fits beside counts, who is ahead: as asks and upgrades have it. -/
section
namespace Go.Proofs.Ytmciiobncfchlaa
open Go.RowKit
set_option linter.unusedVariables false

theorem split_at {α : Type} (q : List α) (k : Nat) (hk : k < q.length) : q = q.take k ++ q[k] :: q.drop (k + 1) := by rw [← List.drop_eq_getElem_cons hk, List.take_append_drop]
theorem set_at {α : Type} (q : List α) (k : Nat) (hk : k < q.length) (x : α) : q.set k x = q.take k ++ x :: q.drop (k + 1) := by
  have := set_mid (q.take k) (q.drop (k + 1)) q[k] x k (by simp; omega)
  rwa [← split_at q k hk] at this
theorem cnt_at (q : List Rq) (k : Nat) (hk : k < q.length) (x : Int) : cntQ q x - (if x = q[k].md then 1 else 0) = (((q.take k ++ q.drop (k + 1)).countP fun R => R.md == x : Nat) : Int) := by
  have : cntQ q x = cntQ (q.take k ++ q[k] :: q.drop (k + 1)) x := by rw [← split_at q k hk]
  rw [this]
  unfold cntQ
  rw [List.countP_append, List.countP_cons, List.countP_append]
  simp only [beq_iff_eq]
  by_cases e : x = q[k].md
  · rw [if_pos e, if_pos e.symm]; omega
  · rw [if_neg e, if_neg (fun y => e y.symm)]; omega
/-- What fits beside all but one. -/
theorem fit_all (q : List Rq) (k : Nat) (hk : k < q.length) (m : Int) (hkn : ∀ R ∈ q, knI R.md = true) : fitB (cntQ q) q[k].md m = (q.take k ++ q.drop (k + 1)).all fun a => cpI a.md m := by
  rw [Bool.eq_iff_iff, fitB_iff, List.all_eq_true]
  have hsub : ∀ a ∈ q.take k ++ q.drop (k + 1), a ∈ q := fun a ha => by
    rcases List.mem_append.1 ha with h | h
    · exact List.mem_of_mem_take h
    · exact List.mem_of_mem_drop h
  constructor
  · intro h a ha
    have h1 := h a.md (hkn a (hsub a ha))
    unfold okK at h1
    rw [cnt_at q k hk] at h1
    have h2 : 0 < (q.take k ++ q.drop (k + 1)).countP fun R => R.md == a.md := List.countP_pos_iff.2 ⟨a, ha, by simp⟩
    rw [Bool.or_eq_true, decide_eq_true_eq] at h1
    rcases h1 with h1 | h1
    · omega
    · exact h1
  · intro h x hx
    unfold okK
    rw [cnt_at q k hk, Bool.or_eq_true, decide_eq_true_eq]
    by_cases c : 0 < (q.take k ++ q.drop (k + 1)).countP fun R => R.md == x
    · obtain ⟨a, ha, e⟩ := List.countP_pos_iff.1 c
      have e' : a.md = x := by simpa using e
      exact .inr (e' ▸ h a ha)
    · exact .inl (by omega)
theorem ho_lt {a b : Rq} (h1 : a.md ≠ 0) (h2 : b.md = 0) : toI a b < 0 := by
  have : hoI a b = -1 := by unfold hoI; simp [h1, h2]
  unfold toI; rw [this, if_pos (by decide)]; decide
theorem ho_gt {a b : Rq} (h1 : a.md = 0) (h2 : b.md ≠ 0) : ¬ toI a b < 0 := by
  have : hoI a b = 1 := by unfold hoI; simp [h1, h2]
  unfold toI; rw [this, if_pos (by decide)]; decide
theorem ho_eq {a b : Rq} (h : a.md = 0 ↔ b.md = 0) : toI a b = cmI a.sn b.sn := by
  have e : (a.md != 0) = (b.md != 0) := by
    by_cases z : a.md = 0
    · rw [z, h.1 z]
    · have y : b.md ≠ 0 := fun e => z (h.2 e)
      rw [bne_iff_ne.2 z, bne_iff_ne.2 y]
  have : hoI a b = 0 := by unfold hoI; rw [if_pos e]
  unfold toI; rw [this]; simp
theorem cm_lt {a b : Int} : cmI a b < 0 ↔ a < b := by
  unfold cmI
  by_cases h1 : a < b
  · rw [if_pos h1]; exact ⟨fun _ => h1, fun _ => by decide⟩
  · rw [if_neg h1]
    by_cases h2 : b < a
    · rw [if_pos h2]; exact ⟨fun e => by omega, fun e => absurd e h1⟩
    · rw [if_neg h2]; exact ⟨fun e => by omega, fun e => absurd e h1⟩
theorem ahead_iff {a b : Rq} : toI a b < 0 ↔ (a.md ≠ 0 ∧ b.md = 0) ∨ ((a.md = 0 ↔ b.md = 0) ∧ a.sn < b.sn) := by
  by_cases z : a.md = 0
  · by_cases y : b.md = 0
    · rw [ho_eq (by simp [z, y]), cm_lt]; simp [z, y]
    · have := ho_gt z y
      simp [this, z, y]
  · by_cases y : b.md = 0
    · have := ho_lt z y
      simp [this, z, y]
    · rw [ho_eq (by simp [z, y]), cm_lt]; simp [z, y]
theorem dEnterB {w : World} {g0 p b n : Nat} {t r W : Int} {v : Value} {q : List Rq} (h : Ln w g0 p t r W v b n q (cntQ q)) (k : Nat) (hk : k < q.length) (hW : 0 ≤ W ∧ W ≤ 4611686018427387904) (hkn : ∀ R ∈ q, knI R.md = true) (hn : n < 800000) (hl : q.length ≤ 1000)
    (R : Rq) (hR : q[k] = R) (hkw : knI R.wt = true) (B : Bool) (hB : (fitB (cntQ q) R.md R.wt && !ahB (q.set k (enR R W)) (enR R W)) = B) :
    Calls Try.prog 40 #[.pointer (some ⟨p, 0, none⟩), .int .i64 k] w fun e w' => e = .returned (.bool B) ∧ Below g0 w w' ∧ ∃ n', n' ≤ n + 2 ∧
      (if B = true then Ln w' g0 p t r W v b n' (q.set k ⟨R.id, R.txn, R.wt, R.wt, 0⟩) (cntQ (q.set k ⟨R.id, R.txn, R.wt, R.wt, 0⟩)) else Ln w' g0 p t r (W + 1) v b n' (q.set k (enR R W)) (cntQ (q.set k (enR R W)))) := by
  subst hR hB
  exact dEnter h k hk hW hkn hkw hn hl _ _ rfl rfl
/-- A request that asks. -/
theorem ask_en {W : Int} {q : List Rq} (h : Ok W q) (id txn m : Int) :
    (fitB (cntQ (q ++ [⟨id, txn, 0, m, 0⟩])) 0 m && !ahB ((q ++ [(⟨id, txn, 0, m, 0⟩ : Rq)]).set q.length ⟨id, txn, 0, m, W + 1⟩) ⟨id, txn, 0, m, W + 1⟩) = free q m := by
  have hk : q.length < (q ++ [(⟨id, txn, 0, m, 0⟩ : Rq)]).length := by simp
  have e1 := fit_all (q ++ [⟨id, txn, 0, m, 0⟩]) q.length hk m (fun R hR => by
    rcases List.mem_append.1 hR with hR | hR
    · exact (h.rt R hR).md
    · rw [List.mem_singleton] at hR; subst hR; rfl)
  rw [show (q ++ [(⟨id, txn, 0, m, 0⟩ : Rq)])[q.length].md = 0 by simp] at e1
  rw [e1]
  rw [show (q ++ [(⟨id, txn, 0, m, 0⟩ : Rq)]).take q.length = q by simp, show (q ++ [(⟨id, txn, 0, m, 0⟩ : Rq)]).drop (q.length + 1) = [] by simp, List.append_nil]
  rw [show (q ++ [(⟨id, txn, 0, m, 0⟩ : Rq)]).set q.length ⟨id, txn, 0, m, W + 1⟩ = q ++ [⟨id, txn, 0, m, W + 1⟩] by simp]
  have e2 : ahB (q ++ [⟨id, txn, 0, m, W + 1⟩]) ⟨id, txn, 0, m, W + 1⟩ = q.any fun X => decide (0 < X.sn) := by
    unfold ahB
    rw [List.any_append]
    have z : ([(⟨id, txn, 0, m, W + 1⟩ : Rq)].any fun X => decide (0 < X.sn) && decide (toI X (⟨id, txn, 0, m, W + 1⟩ : Rq) < 0)) = false := by
      have : ¬ toI (⟨id, txn, 0, m, W + 1⟩ : Rq) (⟨id, txn, 0, m, W + 1⟩ : Rq) < 0 := by rw [ahead_iff]; simp
      simp [this]
    rw [z, Bool.or_false, Bool.eq_iff_iff, List.any_eq_true, List.any_eq_true]
    constructor
    · rintro ⟨x, hx, e⟩
      rw [Bool.and_eq_true] at e
      exact ⟨x, hx, e.1⟩
    · rintro ⟨x, hx, e⟩
      have hs := (h.rt x hx).sW
      have : toI x (⟨id, txn, 0, m, W + 1⟩ : Rq) < 0 := by
        rw [ahead_iff]
        by_cases zx : x.md = 0
        · exact .inr ⟨by simp [zx], by show x.sn < W + 1; omega⟩
        · exact .inl ⟨zx, rfl⟩
      exact ⟨x, hx, by rw [e]; simpa using this⟩
  rw [e2]
  unfold free
  rw [Bool.eq_iff_iff, Bool.and_eq_true, Bool.not_eq_true', List.any_eq_false, List.all_eq_true, List.all_eq_true]
  constructor
  · rintro ⟨h1, h2⟩ x hx
    have := h2 x hx
    have hs := (h.rt x hx).s0
    rw [h1 x hx]
    simp at this ⊢
    omega
  · intro h1
    refine ⟨fun x hx => ?_, fun x hx => ?_⟩
    · have := h1 x hx
      rw [Bool.and_eq_true] at this
      exact this.2
    · have := h1 x hx
      rw [Bool.and_eq_true] at this
      have h2 : x.sn = 0 := by simpa using this.1
      simp [h2]
/-- A request that upgrades. -/
theorem up_en {W : Int} {q : List Rq} (h : Ok W q) (k : Nat) (hk : k < q.length) (hs : q[k].sn = 0) (want : Int) (hw : knI want = true) :
    (fitB (cntQ (q.set k ⟨q[k].id, q[k].txn, q[k].md, want, 0⟩)) q[k].md want && !ahB (q.set k ⟨q[k].id, q[k].txn, q[k].md, want, W + 1⟩) ⟨q[k].id, q[k].txn, q[k].md, want, W + 1⟩) = upF q q[k] want := by
  have hz := ((h.rt _ (List.getElem_mem hk)).h hs).1
  rw [cntQ_same q k hk ⟨q[k].id, q[k].txn, q[k].md, want, 0⟩ rfl, fit_all q k hk want (fun R hR => (h.rt R hR).md)]
  obtain ⟨hq, hl, hr⟩ := h.nth k hk
  have hst : ∀ x : Rq, q.set k x = q.take k ++ x :: q.drop (k + 1) := fun x => set_at q k hk x
  have hmem : ∀ a, a ∈ q.take k ++ q.drop (k + 1) ↔ a ∈ q ∧ a.id ≠ q[k].id := by
    intro a
    constructor
    · intro ha
      rcases List.mem_append.1 ha with g | g
      · exact ⟨List.mem_of_mem_take g, hl a g⟩
      · exact ⟨List.mem_of_mem_drop g, hr a g⟩
    · rintro ⟨ha, ne⟩
      rw [hq] at ha
      rcases List.mem_append.1 ha with g | g
      · exact List.mem_append_left _ g
      · rcases List.mem_cons.1 g with rfl | g
        · exact absurd rfl ne
        · exact List.mem_append_right _ g
  have e2 : ahB (q.set k ⟨q[k].id, q[k].txn, q[k].md, want, W + 1⟩) ⟨q[k].id, q[k].txn, q[k].md, want, W + 1⟩ = (q.take k ++ q.drop (k + 1)).any fun X => decide (0 < X.sn) && (X.md != 0) := by
    unfold ahB
    rw [hst, List.any_append, List.any_cons, List.any_append]
    have z : decide (toI (⟨q[k].id, q[k].txn, q[k].md, want, W + 1⟩ : Rq) ⟨q[k].id, q[k].txn, q[k].md, want, W + 1⟩ < 0) = false := by
      have : ¬ toI (⟨q[k].id, q[k].txn, q[k].md, want, W + 1⟩ : Rq) ⟨q[k].id, q[k].txn, q[k].md, want, W + 1⟩ < 0 := by rw [ahead_iff]; simp
      simpa using this
    rw [z, Bool.and_false, Bool.false_or]
    have key : ∀ X, X ∈ q → (decide (0 < X.sn) && decide (toI X ⟨q[k].id, q[k].txn, q[k].md, want, W + 1⟩ < 0)) = (decide (0 < X.sn) && (X.md != 0)) := by
      intro X hX
      congr 1
      have hsW := (h.rt X hX).sW
      rw [Bool.eq_iff_iff, decide_eq_true_eq, ahead_iff]
      simp only [bne_iff_ne, ne_eq]
      constructor
      · rintro (⟨a, _⟩ | ⟨a, _⟩)
        · exact a
        · intro z; exact hz (a.1 z)
      · intro a
        exact .inr ⟨by simp [a, hz], by show X.sn < W + 1; omega⟩
    have c1 : ∀ l : List Rq, (∀ x ∈ l, x ∈ q) → (l.any fun X => decide (0 < X.sn) && decide (toI X ⟨q[k].id, q[k].txn, q[k].md, want, W + 1⟩ < 0)) = l.any fun X => decide (0 < X.sn) && (X.md != 0) := by
      intro l
      induction l with
      | nil => intro _; rfl
      | cons a l ih =>
        intro hl
        rw [List.any_cons, List.any_cons, key a (hl a (by simp)), ih (fun x hx => hl x (List.mem_cons_of_mem _ hx))]
    rw [c1 _ (fun x hx => List.mem_of_mem_take hx), c1 _ (fun x hx => List.mem_of_mem_drop hx)]
  rw [e2]
  unfold upF
  rw [Bool.eq_iff_iff, Bool.and_eq_true, Bool.not_eq_true', List.any_eq_false, List.all_eq_true, List.all_eq_true]
  constructor
  · rintro ⟨h1, h2⟩ x hx
    by_cases e : x.id = q[k].id
    · simp [e]
    · have hm := (hmem x).2 ⟨hx, e⟩
      have a1 := h1 x hm
      have a2 := h2 x hm
      simp only [Bool.not_eq_true] at a2
      rw [a2, a1]; simp
  · intro h1
    refine ⟨fun x hx => ?_, fun x hx => ?_⟩
    · obtain ⟨hx', ne⟩ := (hmem x).1 hx
      have := h1 x hx'
      simp only [beq_eq_false_iff_ne.2 ne, Bool.false_or, Bool.and_eq_true, Bool.or_eq_true, beq_iff_eq] at this
      rcases this.2 with z | z
      · rw [z, cp_zero want hw]
      · exact z
    · obtain ⟨hx', ne⟩ := (hmem x).1 hx
      have := h1 x hx'
      simp only [beq_eq_false_iff_ne.2 ne, Bool.false_or, Bool.and_eq_true, Bool.not_eq_true'] at this
      rw [this.1]; simp
end Go.Proofs.Ytmciiobncfchlaa
end

/- The developers' package queue: turns. -/
section
namespace Go.Proofs.Ytmciiobncfchlaa
open Go.RowKit
set_option linter.unusedVariables false      -- a contract need not use every name

def rqAt (q : List Rq) (x : Int) : Rq := q.getD x.toNat ⟨0, 0, 0, 0, 0⟩
def tC (q : List Rq) (x y : Int) : Int := toI (rqAt q x) (rqAt q y)
def isPl (q : List Rq) (x : Int) : Prop := ∃ k : Nat, x = k ∧ k < q.length
theorem rqAt_nat (q : List Rq) (k : Nat) (hk : k < q.length) : rqAt q (k : Int) = q[k] := by unfold rqAt; simp [List.getD, hk]
/-- The places of those that wait, among the first k. -/
def wpl (q : List Rq) : Nat → List Int
  | 0 => []
  | k + 1 => if 0 < (rqAt q k).sn then wpl q k ++ [(k : Int)] else wpl q k
theorem wpl_mem (q : List Rq) (x : Int) : ∀ k, x ∈ wpl q k ↔ ∃ j : Nat, j < k ∧ x = j ∧ 0 < (rqAt q x).sn
  | 0 => by simp [wpl]
  | k + 1 => by
    unfold wpl
    split
    · rename_i h
      rw [List.mem_append, wpl_mem q x k, List.mem_singleton]
      constructor
      · rintro (⟨j, h1, h2, h3⟩ | rfl)
        · exact ⟨j, by omega, h2, h3⟩
        · exact ⟨k, by omega, rfl, h⟩
      · rintro ⟨j, h1, rfl, h3⟩
        by_cases e : j = k
        · exact .inr (by rw [e])
        · exact .inl ⟨j, by omega, rfl, h3⟩
    · rename_i h
      rw [wpl_mem q x k]
      constructor
      · rintro ⟨j, h1, h2, h3⟩; exact ⟨j, by omega, h2, h3⟩
      · rintro ⟨j, h1, rfl, h3⟩
        refine ⟨j, ?_, rfl, h3⟩
        rcases Nat.lt_or_ge j k with g | g
        · exact g
        · have : j = k := by omega
          subst this; exact absurd h3 h
theorem wpl_nodup (q : List Rq) : ∀ k, (wpl q k).Nodup
  | 0 => by simp [wpl]
  | k + 1 => by
    unfold wpl
    split
    · rw [List.nodup_append]
      refine ⟨wpl_nodup q k, by simp, fun a ha b hb => ?_⟩
      rw [List.mem_singleton] at hb
      obtain ⟨j, h1, h2, _⟩ := (wpl_mem q a k).1 ha
      omega
    · exact wpl_nodup q k
theorem wpl_len (q : List Rq) : ∀ k, (wpl q k).length ≤ k
  | 0 => by simp [wpl]
  | k + 1 => by
    unfold wpl
    have := wpl_len q k
    split <;> simp <;> omega
theorem wpl_pl (q : List Rq) : ∀ x ∈ wpl q q.length, isPl q x := fun x hx => by
  obtain ⟨j, h1, h2, _⟩ := (wpl_mem q x _).1 hx
  exact ⟨j, h2, h1⟩
set_option maxRecDepth 100000 in
set_option maxHeartbeats 2000000 in
theorem dTurns1 {w : World} {g0 p b n : Nat} {t r W : Int} {v : Value} {q : List Rq} {c : Int → Int} (h : Ln w g0 p t r W v b n q c) (pb : Nat) (hpb : w.cell? ⟨pb, 0, none⟩ = some (.pointer (some ⟨p, 0, none⟩))) (x y : Int) (hx : isPl q x) (hy : isPl q y) :
    Calls Try.prog 90 #[.int .i64 x, .int .i64 y, .pointer (some ⟨pb, 0, none⟩)] w fun e w' => e = .returned (.int .i64 (tC q x y)) ∧ Nw w w' := by
  obtain ⟨i, rfl, hi⟩ := hx
  obtain ⟨j, rfl, hj⟩ := hy
  have hT := dByTurn q[i] q[j]
  unfold tC
  rw [rqAt_nat q i hi, rqAt_nat q j hj]
  obtain ⟨g, cap, rfl, _, hgl, hce⟩ := RqOwn.at h.own hi
  obtain ⟨g', cap', e, _, _, hde⟩ := RqOwn.at h.own hj
  simp only [Value.slice.injEq, Option.some.injEq, Addr.mk.injEq, and_true, true_and] at e
  obtain ⟨rfl, rfl⟩ := e
  have hii : (i : Int) < (q.length : Int) := by omega
  have hjj : (j : Int) < (q.length : Int) := by omega
  have hpl := hlt h.obj
  have hpbl := World.block_lt_of_cell? _ _ hpb
  have s0 : ∀ z, Nw w z → z.cell? ⟨pb, 0, none⟩ = some (.pointer (some ⟨p, 0, none⟩)) := fun z hz => hz.kp hpb
  have s1 : ∀ z, Nw w z → z.cell? ⟨p, 2, none⟩ = some (.slice (some ⟨g, 0, none⟩) q.length cap) := fun z hz => hz.kp (hcell (j := 2) h.obj)
  obtain ⟨V, hV⟩ : ∃ V, toI q[i] q[j] = V := ⟨_, rfl⟩
  rw [hV] at hT ⊢
  generalize q[i] = R at *
  generalize q[j] = S at *
  obtain ⟨a0, a1, a2, a3, a4⟩ := R
  obtain ⟨b0, b1, b2, b3, b4⟩ := S
  have m0 : ∀ z, Nw w z → z.cell? ⟨g, i * 5, none⟩ = some (.int .i64 a0) := fun z hz => hz.kp (hce 0 _ rfl)
  have m1 : ∀ z, Nw w z → z.cell? ⟨g, i * 5 + 1, none⟩ = some (.int .i64 a1) := fun z hz => hz.kp (hce 1 _ rfl)
  have m2 : ∀ z, Nw w z → z.cell? ⟨g, i * 5 + 2, none⟩ = some (.int .i64 a2) := fun z hz => hz.kp (hce 2 _ rfl)
  have m3 : ∀ z, Nw w z → z.cell? ⟨g, i * 5 + 3, none⟩ = some (.int .i64 a3) := fun z hz => hz.kp (hce 3 _ rfl)
  have m4 : ∀ z, Nw w z → z.cell? ⟨g, i * 5 + 4, none⟩ = some (.int .i64 a4) := fun z hz => hz.kp (hce 4 _ rfl)
  have n0 : ∀ z, Nw w z → z.cell? ⟨g, j * 5, none⟩ = some (.int .i64 b0) := fun z hz => hz.kp (hde 0 _ rfl)
  have n1 : ∀ z, Nw w z → z.cell? ⟨g, j * 5 + 1, none⟩ = some (.int .i64 b1) := fun z hz => hz.kp (hde 1 _ rfl)
  have n2 : ∀ z, Nw w z → z.cell? ⟨g, j * 5 + 2, none⟩ = some (.int .i64 b2) := fun z hz => hz.kp (hde 2 _ rfl)
  have n3 : ∀ z, Nw w z → z.cell? ⟨g, j * 5 + 3, none⟩ = some (.int .i64 b3) := fun z hz => hz.kp (hde 3 _ rfl)
  have n4 : ∀ z, Nw w z → z.cell? ⟨g, j * 5 + 4, none⟩ = some (.int .i64 b4) := fun z hz => hz.kp (hde 4 _ rfl)
  unfold rqV at hT
  have HT := Lib.hid hT
  clear hT hce hde h hpb hV
  have q1 := (Nw.refl w).drew1
  obtain ⟨wc, hwc⟩ : ∃ wc, w.drew = wc := ⟨_, rfl⟩
  go_enter Try.func90, Try.ntmps90
  go_wp2
  refine region_told [some true, some true, some true, some true, some true, some true, some true, some true, some true, some true, some true, some true, some true, some true, some true, some true, some false, none, some true] (Nw w) (by kernel_rfl) (by kernel_rfl) (by kernel_rfl) q1 ?_
  rw [hwc] at q1 ⊢
  clear hwc
  repeat (first
    | (refine HW.off ?_)
    | (refine HW.take' ?_; (apply Exists.intro; refine ⟨Or.inl ⟨by rfl, ?_⟩, ?_⟩; (intro x hx; go_simp; first | done | with_reducible rfl)); (try simp only [Act.put, List.setIfInBounds_toArray, List.set_cons_zero, List.set_cons_succ]))
    | (refine HW.go (fun K hK => ?_); go_simp; (go_at_call 80; (with_reducible refine (HT.out _).mono ?_); rintro e wy ⟨rfl, g2⟩; refine hK.out _ _ (q1.trans g2) ?_; intro _; replace q1 := q1.trans g2; clear hK K g2)))
  refine HW.end_ ?_
  refine NoPanic.normal ?_
  go_wp2
  go_ret
  exact ⟨rfl, q1⟩
theorem own_at {w : World} {v : Value} {l : List Int} (h : IS w v l) {m : Nat} (hf : ∀ g, v.ownBlock = some g → m ≤ g) : ∃ gi, (∀ g, v.ownBlock = some g → g = gi) ∧ m ≤ gi := by
  rcases h.form with ⟨rfl, _⟩ | ⟨g, cap, rfl⟩
  · exact ⟨m, fun g e => by simp [Value.ownBlock] at e, Nat.le_refl _⟩
  · exact ⟨g, fun g' e => (Option.some.inj e).symm, hf g rfl⟩
theorem e_turns1 : ∀ args w, (callFunc 90 args).run Try.prog w = .ok (.enter 90 args) w := enters_of Try.func90 (by kernel_rfl) rfl
set_option maxRecDepth 100000 in
set_option maxHeartbeats 4000000 in
theorem dTurns {w : World} {g0 p b n : Nat} {t r W : Int} {v : Value} {q : List Rq} {c : Int → Int} (h : Ln w g0 p t r W v b n q c) (hl : q.length ≤ 1000) (hst : StOk (tC q) (wpl q q.length)) :
    Calls Try.prog 78 #[.pointer (some ⟨p, 0, none⟩)] w fun e w' => ∃ v', e = .returned v' ∧ Nw w w' ∧ IS w' v' (stR (tC q) (wpl q q.length)) ∧ ∀ g, v'.ownBlock = some g → w.heap.size ≤ g := by
  have hWt := dWaits
  have hB : (w.alloc (.cells #[.pointer (some ⟨p, 0, none⟩)] 68)).cell? ⟨w.heap.size, 0, none⟩ = some (.pointer (some ⟨p, 0, none⟩)) := hcell (j := 0) (allocAt w _)
  have hN1 : Nw w (w.alloc (.cells #[.pointer (some ⟨p, 0, none⟩)] 68)) := (Nw.refl w).alloc _
  obtain ⟨w1, hw1⟩ : ∃ w1, w.alloc (.cells #[.pointer (some ⟨p, 0, none⟩)] 68) = w1 := ⟨_, rfl⟩
  have hs1 : w1.heap.size = w.heap.size + 1 := by rw [← hw1]; simp
  rw [hw1] at hB hN1
  have hL1 := h.nw hN1
  have HW1 := Lib.hid hw1
  have HL := Lib.hid (And.intro hL1 (And.intro hN1 (And.intro hs1 hB)))
  obtain ⟨a0, c0, rfl⟩ := (RqOwn.rd h.own).form
  have hp0 := hlt h.obj
  have m20 := hcell (j := 2) h.obj
  have hpb := World.block_lt_of_cell? _ _ hB
  have hB0 := hB
  clear h hw1 hL1 hs1 hN1
  go_enter Try.func78, Try.ntmps78
  go_wp2
  rw [HW1.out]
  have HW := Lib.hid hWt
  clear hWt hp0 m20 HW1 hpb hB hB0
  go_loopw [3, 12] (fun x i wr => ∃ (k : Nat), k ≤ q.length ∧ i = .int .i64 k ∧ IS wr x (wpl q k) ∧ Nw w1 wr ∧ ∀ g, x.ownBlock = some g → w1.heap.size ≤ g) (fun _ i _ => q.length - (intOf i).toNat)
  case atStart => exact ⟨0, Nat.zero_le _, rfl, IS.nil _, Nw.refl _, fun g e => by simp [Value.ownBlock] at e⟩
  case round =>
    obtain ⟨k, hk, rfl, hI, hN, hfr⟩ := hrel
    by_cases hlt : k < q.length
    · obtain ⟨g, cap, e, _, hgl, hce⟩ := RqOwn.at (onw HL.out.1.own hN) hlt
      simp only [Value.slice.injEq, true_and] at e
      obtain ⟨rfl, rfl⟩ := e
      have hki : (k : Int) < (q.length : Int) := by omega
      have hstep : wpl q (k + 1) = if 0 < (q[k]).sn then wpl q k ++ [(k : Int)] else wpl q k := by
        show (if 0 < (rqAt q k).sn then wpl q k ++ [(k : Int)] else wpl q k) = _
        rw [rqAt_nat q k hlt]
      have HWk := Lib.hid (HW.out q[k])
      generalize q[k] = R at *
      obtain ⟨b0, b1, b2, b3, b4⟩ := R
      have e0 := hce 0 _ rfl
      have e1 := hce 1 _ rfl
      have e2 := hce 2 _ rfl
      have e3 := hce 3 _ rfl
      have e4 := hce 4 _ rfl
      simp only [Nat.add_zero] at e0
      have g6 : Nw wr (wr.alloc (.cells #[.int .i64 b0, .int .i64 b1, .int .i64 b2, .int .i64 b3, .int .i64 b4] 41)) := (Nw.refl wr).alloc _
      unfold rqV at HWk
      simp only at HWk hstep
      obtain ⟨w6, hw6⟩ : ∃ w6, wr.alloc (.cells #[.int .i64 b0, .int .i64 b1, .int .i64 b2, .int .i64 b3, .int .i64 b4] 41) = w6 := ⟨_, rfl⟩
      have hq6 := RqB.made wr b0 b1 b2 b3 b4 41
      rw [hw6] at g6 hq6
      obtain ⟨hlq, y0, y1, y2, y3, y4⟩ := hq6
      have HI := Lib.hid (And.intro (hI.nw g6) (And.intro (hN.trans g6) hfr))
      have HW6 := Lib.hid hw6
      clear hce hI hN hfr g6 hw6
      by_cases hs : 0 < b4
      · have ds : decide (0 < b4) = true := by simpa using hs
        rw [ds] at HWk
        rw [if_pos hs] at hstep
        have HS := Lib.hid hstep
        clear hs ds hstep
        go_wp2_with fail
        rw [HW6.out]
        go_wp2_with fail
        go_at_call 42
        refine (HWk.out _).mono ?_
        rintro e w7 ⟨rfl, g7⟩
        have hI7 := HI.out.1.nw g7
        obtain ⟨v', w8, hr, q1, q2, q3, ⟨g', cap', hv'⟩⟩ := IS.push w7 _ (wpl q k) k hI7 (by have := wpl_len q k; omega)
        have HR := Lib.hid hr
        have HE : Hid (IS w8 v' (wpl q (k + 1)) ∧ Nw w1 w8 ∧ ∀ g, v'.ownBlock = some g → w1.heap.size ≤ g) := Lib.hid ⟨by rw [HS.out]; exact q1, nw_tch (HI.out.2.1.trans g7) q2 (fun i e => HI.out.2.2 i e), fun g e => by
          rcases q3 g e with h | h
          · exact HI.out.2.2 g h
          · have := (HI.out.2.1.trans g7).sz; omega⟩
        clear hr q1 q2 q3 hI7 g7 y0 y1 y2 y3 y4 hlq e0 e1 e2 e3 e4 hv'
        go_wp2_with (at_builtin; (refine wpl_app (by rfl) (.tmp 19) (.tmp 21) 36 rfl _ _ _ _ rfl rfl HR.out ?_))
        go_roundw
        case rel => exact ⟨k + 1, by omega, by go_num, HE.out⟩
        case measure => simp [intOf]; omega
      · have ds : decide (0 < b4) = false := by simpa using hs
        rw [ds] at HWk
        rw [if_neg hs] at hstep
        have HS := Lib.hid hstep
        clear hs ds hstep
        go_wp2_with fail
        rw [HW6.out]
        go_wp2_with fail
        go_at_call 42
        refine (HWk.out _).mono ?_
        rintro e w7 ⟨rfl, g7⟩
        have HE := Lib.hid g7
        clear g7 y0 y1 y2 y3 y4 hlq e0 e1 e2 e3 e4
        go_wp2
        go_roundw
        case rel => exact ⟨k + 1, by omega, by go_num, by rw [HS.out]; exact HI.out.1.nw HE.out, HI.out.2.1.trans HE.out, HI.out.2.2⟩
        case measure => simp [intOf]; omega
    · obtain rfl : k = q.length := by omega
      obtain ⟨gi, hgi, hge⟩ := own_at hI hfr
      have hCm : Cmps wr (.func (.func 90) #[] #[.pointer (some ⟨w.heap.size, 0, none⟩)]) gi (tC q) (isPl q) :=
        ⟨_, _, rfl, e_turns1, fun x y w2 hx hy hT => by
          have hN2 := nw_tch hN hT (fun i e => by subst e; exact hge)
          exact dTurns1 (HL.out.1.nw hN2) w.heap.size (hN2.kp HL.out.2.2.2) x y hx hy⟩
      have HS := Lib.hid (dStable _ (tC q) (isPl q) _ (wpl q q.length) wr gi hst hI (wpl_pl q) hCm hgi)
      have HE := Lib.hid (And.intro hN hfr)
      clear hI hN hfr hgi hge hCm hst
      go_wp2_with (go_at_call 89; refine HS.out.mono ?_; rintro e w9 ⟨rfl, hI9, hT9⟩)
      go_ret
      exact ⟨_, rfl, HL.out.2.1.trans (nw_tch HE.out.1 hT9 (fun i e => HE.out.2 i e)), hI9, fun g e => by have := HE.out.2 g e; have := HL.out.2.2.1; omega⟩
end Go.Proofs.Ytmciiobncfchlaa
end

/- Plain facts: granting in the order of turns. -/
section
namespace Go.Proofs.Ytmciiobncfchlaa
set_option linter.unusedVariables false

theorem steps_pre {W : Int} {q q' : List Rq} {ids : List Int} (h : Steps q ids q') (h0 : Ok W q) : ids <+: (scanQ q).1 := by
  have hw := h.wtg h0
  have := h.scn h0 (wtg q')
  unfold scanQ
  rw [← hw, Nat.add_comm, this]
  exact List.prefix_append _ _
theorem steps_len {W : Int} {q q' : List Rq} {ids : List Int} (h : Steps q ids q') (h0 : Ok W q) : q'.length = q.length := by
  rw [(h.form h0).1]; simp
/-- What holds between two grants. -/
structure TInv (q q' : List Rq) (T : List Int) (i : Nat) : Prop where
  same : ∀ x ∈ T.drop i, rqAt q' x = rqAt q x
  rest : ∀ k : Nat, k < q.length → (k : Int) ∉ T.drop i → ¬ 0 < (rqAt q' k).sn
structure TOk (q : List Rq) (T : List Int) : Prop where
  sorted : T.Pairwise (fun x y => tC q x y < 0)
  mem : ∀ x, x ∈ T ↔ ∃ k : Nat, k < q.length ∧ x = k ∧ 0 < (rqAt q x).sn
  nodup : T.Nodup
theorem ti_start {q : List Rq} {T : List Int} (h : TOk q T) : TInv q q T 0 := ⟨fun _ _ => rfl, fun k hk hn hs => hn (by rw [List.drop_zero]; exact (h.mem _).2 ⟨k, hk, rfl, hs⟩)⟩
theorem tC_tr {W : Int} {q : List Rq} (h : Ok W q) (x y z : Int) (h1 : tC q x y < 0) (h2 : tC q y z < 0) : tC q x z < 0 := by
  unfold tC at *
  rw [ahead_iff] at *
  generalize rqAt q x = a at *
  generalize rqAt q y = b at *
  generalize rqAt q z = c at *
  by_cases za : a.md = 0 <;> by_cases zb : b.md = 0 <;> by_cases zc : c.md = 0 <;> simp [za, zb, zc] at h1 h2 ⊢ <;> omega
theorem tC_tot {W : Int} {q : List Rq} (h : Ok W q) (x y : Int) (hx : ∃ k : Nat, k < q.length ∧ x = k ∧ 0 < (rqAt q x).sn) (hy : ∃ k : Nat, k < q.length ∧ y = k ∧ 0 < (rqAt q y).sn) (ne : x ≠ y) : tC q x y < 0 ∨ tC q y x < 0 := by
  obtain ⟨i, hi, rfl, si⟩ := hx
  obtain ⟨j, hj, rfl, sj⟩ := hy
  unfold tC
  rw [ahead_iff, ahead_iff]
  rw [rqAt_nat q i hi] at *
  rw [rqAt_nat q j hj] at *
  have hs : q[i].sn ≠ q[j].sn := by
    intro e
    have := h.injS _ (List.getElem_mem hi) _ (List.getElem_mem hj) si e
    have hid := List.pairwise_iff_getElem.1 h.pr
    rcases Nat.lt_trichotomy i j with g | g | g
    · exact (hid i j hi hj g).id (by rw [this])
    · exact ne (by rw [g])
    · exact (hid j i hj hi g).id (by rw [this])
  by_cases za : q[i].md = 0 <;> by_cases zb : q[j].md = 0 <;> simp [za, zb] <;> omega
theorem tok_of {W : Int} {q : List Rq} (h : Ok W q) (hst : StOk (tC q) (wpl q q.length)) : TOk q (stR (tC q) (wpl q q.length)) := by
  have hm : ∀ x, x ∈ wpl q q.length ↔ ∃ k : Nat, k < q.length ∧ x = k ∧ 0 < (rqAt q x).sn := fun x => wpl_mem q x _
  have hp := stR_perm (tC q) (wpl q q.length)
  exact ⟨stR_sorted (tC q) (fun x => ∃ k : Nat, k < q.length ∧ x = k ∧ 0 < (rqAt q x).sn) (fun x y z _ _ _ => tC_tr h x y z) (fun x y hx hy => tC_tot h x y hx hy) _ (fun x hx => (hm x).1 hx) (wpl_nodup q _) hst,
    fun x => hp.mem_iff.trans (hm x), hp.nodup_iff.2 (wpl_nodup q _)⟩
theorem at_drop {T : List Int} {i : Nat} (hi : i < T.length) : T.drop i = T[i] :: T.drop (i + 1) := List.drop_eq_getElem_cons hi
/-- Who is next in turn. -/
theorem turn_next {W : Int} {q q' : List Rq} {ids : List Int} {T : List Int} {i : Nat} (h : Ok W q) (hs : Steps q ids q') (hT : TOk q T) (hI : TInv q q' T i) (hi : i < T.length) :
    ∃ k : Nat, T[i] = k ∧ ∃ hk : k < q'.length, q'[k] = rqAt q k ∧ 0 < q'[k].sn ∧ (fitB (cntQ q') q'[k].md q'[k].wt = true → canG q' q'[k] = true) ∧ (fitB (cntQ q') q'[k].md q'[k].wt = false → Done q') := by
  have hm : T[i] ∈ T := List.getElem_mem hi
  obtain ⟨k, hk, e, hsn⟩ := (hT.mem _).1 hm
  have ok := hs.ok h
  have hl := steps_len hs h
  have hk' : k < q'.length := by omega
  have hd := at_drop hi
  have hsm : rqAt q' k = rqAt q k := by rw [← e]; exact hI.same _ (by rw [hd]; exact List.mem_cons_self)
  have hq' : q'[k] = rqAt q k := by rw [← rqAt_nat q' k hk']; exact hsm
  have hsn' : 0 < q'[k].sn := by rw [hq', ← e]; exact hsn
  -- all others that wait come later
  have hlate : ∀ j (hj : j < q'.length), j ≠ k → 0 < q'[j].sn → toI q'[k] q'[j] < 0 := by
    intro j hj ne hsj
    have hjm : (j : Int) ∈ T.drop i := by
      refine Classical.byContradiction fun hn => hI.rest j (by omega) hn ?_
      rw [rqAt_nat q' j hj]; exact hsj
    rw [hd] at hjm
    rcases List.mem_cons.1 hjm with q1 | q1
    · rw [e] at q1; omega
    · have hp := hT.sorted
      rw [List.pairwise_iff_getElem] at hp
      obtain ⟨m, hm1, hm2⟩ := List.getElem_of_mem q1
      simp at hm1 hm2
      have := hp i (i + 1 + m) hi (by omega) (by omega)
      rw [hm2, e] at this
      unfold tC at this
      have h2 : rqAt q' j = rqAt q j := hI.same _ (by rw [hd]; exact List.mem_cons_of_mem _ q1)
      rw [rqAt_nat q' j hj] at h2
      rw [hq', h2]
      exact this
  have hfit : fitB (cntQ q') q'[k].md q'[k].wt = true ↔ ∀ o ∈ q', o.id ≠ q'[k].id → cpI o.md q'[k].wt = true := by
    rw [fit_all q' k hk' _ (fun R hR => (ok.rt R hR).md), List.all_eq_true]
    obtain ⟨hq, hl1, hl2⟩ := ok.nth k hk'
    constructor
    · intro hf o ho ne
      rw [hq] at ho
      rcases List.mem_append.1 ho with g | g
      · exact hf o (List.mem_append_left _ g)
      · rcases List.mem_cons.1 g with rfl | g
        · exact absurd rfl ne
        · exact hf o (List.mem_append_right _ g)
    · intro hf o ho
      rcases List.mem_append.1 ho with g | g
      · exact hf o (List.mem_of_mem_take g) (hl1 o g)
      · exact hf o (List.mem_of_mem_drop g) (hl2 o g)
  have hex : fitB (cntQ q') q'[k].md q'[k].wt = false → ∃ o ∈ q', o.id ≠ q'[k].id ∧ o.md ≠ 0 ∧ cpI o.md q'[k].wt = false := by
    intro hf
    refine Classical.byContradiction fun hn => ?_
    have : fitB (cntQ q') q'[k].md q'[k].wt = true := hfit.2 fun o ho ne => by
      cases hc : cpI o.md q'[k].wt with
      | true => rfl
      | false =>
        refine absurd ⟨o, ho, ne, fun z => ?_, hc⟩ hn
        rw [z, cp_zero _ (ok.rt _ (List.getElem_mem hk')).wt] at hc
        cases hc
    rw [this] at hf; cases hf
  refine ⟨k, e, hk', hq', hsn', fun hf => ?_, fun hf => ?_⟩
  · have hf' := hfit.1 hf
    by_cases z : q'[k].md = 0
    · refine cand_wa ok hk' z (fun a ha za => ?_) (fun a ha hu => ?_) (fun o ho ne _ => hf' o ho ne)
      · obtain ⟨j, hj, rfl⟩ := List.getElem_of_mem ha
        simp at hj za
        have hp := List.pairwise_iff_getElem.1 ok.pr j k (by omega) hk' (by omega)
        have hlt := hlate j (by omega) (by omega) ((ok.rt _ (List.getElem_mem (by omega))).w' za)
        rw [ahead_iff] at hlt
        have := (hp.ord za).2
        simp [z, za] at hlt
        omega
      · obtain ⟨j, hj, rfl⟩ := List.getElem_of_mem ha
        by_cases ne : j = k
        · subst ne; exact hu.1 z
        · have hlt := hlate j hj ne hu.2
          rw [ahead_iff] at hlt
          simp [z, hu.1] at hlt
    · refine cand_up ok (List.getElem_mem hk') ⟨z, hsn'⟩ (fun a ha hu => ?_) (fun o ho ne _ => hf' o ho ne)
      obtain ⟨j, hj, rfl⟩ := List.getElem_of_mem ha
      by_cases ne : j = k
      · subst ne; exact Int.le_refl _
      · have hlt := hlate j hj ne hu.2
        rw [ahead_iff] at hlt
        simp [z, hu.1] at hlt
        omega
  · have hf' := hex hf
    by_cases z : q'[k].md = 0
    · refine done_wa ok hk' z (fun a ha za => ?_) (fun a ha hu => ?_) hf'
      · obtain ⟨j, hj, rfl⟩ := List.getElem_of_mem ha
        simp at hj za
        have hp := List.pairwise_iff_getElem.1 ok.pr j k (by omega) hk' (by omega)
        have hlt := hlate j (by omega) (by omega) ((ok.rt _ (List.getElem_mem (by omega))).w' za)
        rw [ahead_iff] at hlt
        have := (hp.ord za).2
        simp [z, za] at hlt
        omega
      · obtain ⟨j, hj, rfl⟩ := List.getElem_of_mem ha
        by_cases ne : j = k
        · subst ne; exact hu.1 z
        · have hlt := hlate j hj ne hu.2
          rw [ahead_iff] at hlt
          simp [z, hu.1] at hlt
    · refine done_up ok (List.getElem_mem hk') ⟨z, hsn'⟩ (fun a ha hu => ?_) hf'
      obtain ⟨j, hj, rfl⟩ := List.getElem_of_mem ha
      by_cases ne : j = k
      · subst ne; exact Int.le_refl _
      · have hlt := hlate j hj ne hu.2
        rw [ahead_iff] at hlt
        simp [z, hu.1] at hlt
        omega
theorem turn_step {W : Int} {q q' : List Rq} {ids : List Int} {T : List Int} {i k : Nat} (h : Ok W q) (hs : Steps q ids q') (hT : TOk q T) (hI : TInv q q' T i) (hi : i < T.length) (e : T[i] = k) (hk : k < q'.length) (hc : canG q' q'[k] = true) :
    Steps q (ids ++ [q'[k].id]) (q'.set k (grtR q'[k])) ∧ TInv q (q'.set k (grtR q'[k])) T (i + 1) := by
  have ok := hs.ok h
  have hl := steps_len hs h
  have hd := at_drop hi
  have hnd := hT.nodup
  have hnk : (k : Int) ∉ T.drop (i + 1) := by
    have : (T.drop i).Nodup := List.Sublist.nodup (List.drop_sublist _ _) hnd
    rw [hd, e] at this
    exact (List.nodup_cons.1 this).1
  have hst := hs.snoc (List.getElem_mem hk) hc
  rw [chg_set ok grtR k hk] at hst
  have hat : ∀ j : Nat, j ≠ k → rqAt (q'.set k (grtR q'[k])) j = rqAt q' j := by
    intro j ne
    unfold rqAt
    simp only [Int.toNat_natCast, List.getD]
    rw [List.getElem?_set_ne (by omega)]
  refine ⟨hst, fun x hx => ?_, fun j hj hn => ?_⟩
  · obtain ⟨j, hj, rfl, _⟩ := (hT.mem x).1 (List.mem_of_mem_drop hx)
    have ne : j ≠ k := fun q1 => hnk (by rw [← q1]; exact hx)
    rw [hat j ne]
    exact hI.same _ (by rw [hd]; exact List.mem_cons_of_mem _ hx)
  · by_cases ne : j = k
    · subst ne
      rw [rqAt_nat _ j (by simpa using hk)]
      simp [grtR]
    · rw [hat j ne]
      refine hI.rest j hj fun q1 => ?_
      rw [hd] at q1
      rcases List.mem_cons.1 q1 with q2 | q2
      · rw [e] at q2; omega
      · exact hn q2
theorem turn_end {W : Int} {q q' : List Rq} {ids : List Int} {T : List Int} {i : Nat} (h : Ok W q) (hs : Steps q ids q') (hI : TInv q q' T i) (hi : ¬ i < T.length) : Done q' := by
  have hl := steps_len hs h
  intro s hsm
  cases c : canG q' s with
  | false => rfl
  | true =>
    obtain ⟨j, hj, rfl⟩ := List.getElem_of_mem hsm
    refine absurd (can_sn c) ?_
    have := hI.rest j (by omega) (by rw [List.drop_of_length_le (by omega)]; simp)
    rwa [rqAt_nat q' j hj] at this
end Go.Proofs.Ytmciiobncfchlaa
end

/- The document's own: Group (of modes, and of a head's requests). -/
section
namespace Go.Proofs.Ytmciiobncfchlaa
open Go.RowKit
set_option linter.unusedVariables false      -- a contract need not use every name

def mdrow (x : Int) : List Value := [.int .i64 x]
theorem elemMd : Elem Try.prog 84 32 1 8 mdrow where
  und := Try.underlying84
  inf := by
    have h : (Try.prog.info? 32).map (fun i => (i.zero, i.size, i.bytes)) = some (some (.int .i64 0), 1, 8) := by kernel_rfl
    cases e : Try.prog.info? 32 with
    | none => rw [e] at h; cases h
    | some i =>
      rw [e] at h
      simp only [Option.map_some, Option.some.injEq, Prod.mk.injEq] at h
      exact ⟨i, _, rfl, h.1, h.2.1, h.2.2, rfl⟩
  pos := by decide
  byt := by decide
  len := fun _ => rfl
  one := fun a u hu => by
    simp only [mdrow, List.mem_cons, List.not_mem_nil, or_false] at hu
    subst hu; rfl
end Go.Proofs.Ytmciiobncfchlaa
end

/- The developers' package queue: DeleteFunc of requests; without. -/
section
namespace Go.Proofs.Ytmciiobncfchlaa
open Go.RowKit
set_option linter.unusedVariables false      -- a contract need not use every name

abbrev zQ : Value := .agg #[.int .i64 0, .int .i64 0, .int .i64 0, .int .i64 0, .int .i64 0]
theorem zeroQ (w : World) : (zeroValue 41).run Try.prog w = .ok zQ w := by kernel_rfl
theorem clear_rqs (w : World) (g o n c : Nat) (hn : 0 < n) (hc : ∀ j, j < n * 5 → (w.cell? ⟨g, o + j, none⟩).isSome = true) (hf : ∀ j, w.frozen? ⟨g, j, none⟩ = false) :
    ∃ vs, ∀ ty, (Builtin.clear_ #[25] ty #[.slice (some ⟨g, o, none⟩) n c]).run Try.prog w = .ok (.tuple #[]) (w.setCells g o vs) := by
  obtain ⟨m, rfl⟩ : ∃ m, n = m + 1 := ⟨n - 1, by omega⟩
  refine ⟨(Builtin.zeroCells zQ.cells (m + 1)).toList, fun ty => ?_⟩
  have hlen : (Builtin.zeroCells zQ.cells (m + 1)).toList.length = (m + 1) * 5 := by simp [Builtin.zeroCells, Value.cells]
  have hst := run_storeCells_cells (P := Try.prog) g o (Builtin.zeroCells zQ.cells (m + 1)).toList 0 w (by rw [hlen]; simpa using hc) (by intro j _; exact hf _) (by
    intro v hv
    obtain ⟨i, hi, rfl⟩ := List.getElem_of_mem hv
    simp only [Builtin.zeroCells, Array.toList_map, List.getElem_map]
    have h5 : ∀ i : Nat, i < 5 → (zQ.cells[i]!).oneCell' = true := by decide
    exact h5 _ (Nat.mod_lt _ (by decide)))
  simp only [Nat.add_zero] at hst
  simp [Builtin.clear_, run_underlying Try.underlying25, zeroQ, hst]
theorem Nw.rls {a b : World} (h : Nw a b) : (∀ k o, k < a.heap.size → b.cell? ⟨k, o, none⟩ = a.cell? ⟨k, o, none⟩) ∧ (∀ k o, k < a.heap.size → b.frozen? ⟨k, o, none⟩ = a.frozen? ⟨k, o, none⟩) := ⟨fun _ _ h1 => h.cell h1, fun _ _ h1 => h.froz h1⟩
theorem rq_there {w : World} {g0 g n cap : Nat} {l : List Rq} (h : RqOwn w g0 (.slice (some ⟨g, 0, none⟩) n cap) l) (hn : n = l.length) (j : Nat) (hj : j < l.length * 5) : (w.cell? ⟨g, j, none⟩).isSome = true := by
  subst hn
  have e : w.cell? ⟨g, j, none⟩ = (rowsOf rqrow l)[j]? := World.ownsRow.cellAt h j hj
  rw [e, List.getElem?_eq_getElem (by rw [rows_len (sz := 5) (fun _ => rfl)]; exact hj)]; rfl
theorem tch_cells (g : Nat) : ∀ (vs : List Value) (o : Nat) (w : World), Tch (fun k => k = g) w (w.setCells g o vs)
  | [], _, w => Tch.refl _ w
  | v :: r, o, w => by
    rw [World.setCells]
    exact (setCell_at w ⟨g, o, none⟩ v).trans (tch_cells g r (o + 1) _)
def putQ (w : World) (g a : Nat) (s : Rq) : World := ((((w.setCell ⟨g, a * 5, none⟩ (.int .i64 s.id)).setCell ⟨g, a * 5 + 1, none⟩ (.int .i64 s.txn)).setCell ⟨g, a * 5 + 2, none⟩ (.int .i64 s.md)).setCell ⟨g, a * 5 + 3, none⟩ (.int .i64 s.wt)).setCell ⟨g, a * 5 + 4, none⟩ (.int .i64 s.sn)
theorem own_putQ {w : World} {g0 g n cap a : Nat} {R : List Rq} (h : RqOwn w g0 (.slice (some ⟨g, 0, none⟩) n cap) R) (hn : n = R.length) (ha : a < R.length) (s : Rq) : RqOwn (putQ w g a s) g0 (.slice (some ⟨g, 0, none⟩) n cap) (R.set a s) := by
  have l1 : ∀ x : Rq, n = (R.set a x).length := fun x => by rw [List.length_set]; exact hn
  have k1 : ∀ x : Rq, a < (R.set a x).length := fun x => by rw [List.length_set]; exact ha
  have h0 := own_upd h hn a ha 0 (by decide) (.int .i64 s.id) ⟨s.id, R[a].txn, R[a].md, R[a].wt, R[a].sn⟩ rfl
  have h1 := own_upd h0 (l1 _) a (k1 _) 1 (by decide) (.int .i64 s.txn) ⟨s.id, s.txn, R[a].md, R[a].wt, R[a].sn⟩ (by rw [List.getElem_set_self]; rfl)
  rw [List.set_set] at h1
  have h2 := own_upd h1 (l1 _) a (k1 _) 2 (by decide) (.int .i64 s.md) ⟨s.id, s.txn, s.md, R[a].wt, R[a].sn⟩ (by rw [List.getElem_set_self]; rfl)
  rw [List.set_set] at h2
  have h3 := own_upd h2 (l1 _) a (k1 _) 3 (by decide) (.int .i64 s.wt) ⟨s.id, s.txn, s.md, s.wt, R[a].sn⟩ (by rw [List.getElem_set_self]; rfl)
  rw [List.set_set] at h3
  have h4 := own_upd h3 (l1 _) a (k1 _) 4 (by decide) (.int .i64 s.sn) s (by rw [List.getElem_set_self]; rfl)
  rw [List.set_set] at h4
  exact h4
theorem putQ_tch (w : World) (g a : Nat) (s : Rq) : Tch (fun k => k = g) w (putQ w g a s) := by
  unfold putQ
  exact (((((Tch.refl (fun k => k = g) w).set (p := ⟨g, a * 5, none⟩) (.inl rfl) _).set (p := ⟨g, a * 5 + 1, none⟩) (.inl rfl) _).set (p := ⟨g, a * 5 + 2, none⟩) (.inl rfl) _).set (p := ⟨g, a * 5 + 3, none⟩) (.inl rfl) _).set (p := ⟨g, a * 5 + 4, none⟩) (.inl rfl) _
abbrev outQ (p : Rq → Bool) (l : List Rq) : List Rq := l.filter fun s => !p s
/-- What the loop of DeleteFunc keeps: a requests moved to the front, b looked at. -/
structure Del (p : Rq → Bool) (w wr : World) (g0 g n cap a b : Nat) (l R : List Rq) : Prop where
  ab : a < b
  bn : b ≤ l.length
  len : R.length = l.length
  front : R.take a = outQ p (l.take b)
  rest : R.drop b = l.drop b
  row : RqOwn wr g0 (.slice (some ⟨g, 0, none⟩) n cap) R
  tch : Tch (fun k => k = g) w wr
theorem taken {α : Type} {l : List α} {b : Nat} (h : b < l.length) : l.take (b + 1) = l.take b ++ [l[b]] := by
  rw [List.take_add_one, List.getElem?_eq_getElem h]; rfl
theorem out_end {p : Rq → Bool} {L : List Rq} {s : Rq} (h : p s = true) : outQ p (L ++ [s]) = outQ p L := by
  simp only [outQ, List.filter_append, List.filter_cons, h, Bool.not_true, Bool.false_eq_true, if_false, List.filter_nil, List.append_nil]
theorem out_on {p : Rq → Bool} {L : List Rq} {s : Rq} (h : p s = false) : outQ p (L ++ [s]) = outQ p L ++ [s] := by
  simp only [outQ, List.filter_append, List.filter_cons, h, Bool.not_false, if_true, List.filter_nil]
theorem drops_at {α : Type} {R l : List α} {b : Nat} (h : R.drop b = l.drop b) (hb : b < l.length) (hR : R.length = l.length) : ∃ hr : b < R.length, R[b] = l[b] := by
  refine ⟨by omega, ?_⟩
  have := congrArg (fun x => x[0]?) h
  simp only [List.getElem?_drop, Nat.add_zero] at this
  rw [List.getElem?_eq_getElem hb, List.getElem?_eq_getElem (by omega)] at this
  exact Option.some.inj this
theorem drops_up {α : Type} {R l : List α} {b : Nat} (h : R.drop b = l.drop b) : R.drop (b + 1) = l.drop (b + 1) := by
  rw [← List.drop_drop, ← List.drop_drop, h]
section
variable {p : Rq → Bool} {w wr wr' : World} {g0 g n cap a b : Nat} {l R : List Rq}
theorem Del.skip (h : Del p w wr g0 g n cap a b l R) (hb : b < l.length) (he : p l[b] = true) (g' : Nw wr wr') : Del p w wr' g0 g n cap a (b + 1) l R :=
  ⟨by have := h.ab; omega, hb, h.len, by rw [h.front, taken hb, out_end he], drops_up h.rest, onw h.row g', h.tch.trans (Tch.nw g')⟩
theorem Del.move (h : Del p w wr g0 g n cap a b l R) (hn : n = l.length) (hb : b < l.length) (he : p l[b] = false) (g' : Nw wr wr') : Del p w (putQ wr' g a l[b]) g0 g n cap (a + 1) (b + 1) l (R.set a l[b]) := by
  have hab := h.ab
  have hR := h.len
  have ha : a < R.length := by omega
  refine ⟨by omega, hb, by simp [hR], ?_, ?_, ?_, ?_⟩
  · rw [taken (by simpa using ha), taken hb]
    have e1 : (R.set a l[b]).take a = R.take a := List.take_set_of_le (Nat.le_refl a)
    rw [e1, h.front, out_on he]
    simp
  · rw [List.drop_set_of_lt (by omega)]; exact drops_up h.rest
  · exact own_putQ (onw h.row g') (by omega) ha _
  · exact (h.tch.trans (Tch.nw g')).trans (putQ_tch _ _ _ _)
end
theorem takes_filter {p : Rq → Bool} {l : List Rq} {j : Nat} (hj : j < l.length) (he : p l[j] = true) (hF : ∀ i (hi : i < l.length), i < j → p l[i] = false) : l.take j = outQ p (l.take (j + 1)) := by
  rw [taken hj, out_end he]
  symm
  rw [outQ, List.filter_eq_self]
  intro s hs
  obtain ⟨i, hi, rfl⟩ := List.getElem_of_mem hs
  simp at hi
  simp [hF i (by omega) (by omega)]
theorem out_all {p : Rq → Bool} {l : List Rq} (h : ∀ s ∈ l, p s = false) : outQ p l = l := by
  rw [outQ, List.filter_eq_self]
  intro s hs
  simp [h s hs]
set_option maxRecDepth 100000 in
set_option maxHeartbeats 4000000 in
theorem dDelete (p : Rq → Bool) (f : Value) (g0 : Nat) (v : Value) (l : List Rq) (w : World) (hl : l.length ≤ 1000) (h : RqOwn w g0 v l) (hf : Tells w f p) (hfr : ∀ w1, Tch (fun k => v.ownBlock = some k) w w1 → Tells w1 f p) :
    Calls Try.prog 76 #[v, f] w fun e w' => ∃ v', e = .returned v' ∧ RqAt w' v' (outQ p l) ∧ capOk v' ∧ (∀ b o n c, v' = .slice (some ⟨b, o, none⟩) n c → v.ownBlock = some b ∨ (outQ p l) = []) ∧ Tch (fun k => v.ownBlock = some k) w w' := by
  have HI0 := dIndex v f p l w hl (RqOwn.rd h) hf
  have hf' := hf
  obtain ⟨gf, lb, rfl, eg, _⟩ := hf'
  obtain ⟨hfo, -⟩ : True ∧ True := ⟨trivial, trivial⟩
  obtain ⟨px, hpx⟩ : ∃ px, plc p l = px := ⟨_, rfl⟩
  rw [hpx] at HI0
  have HI := Lib.hid HI0
  clear HI0
  rcases plc_form p l with ⟨h1, h2⟩ | ⟨j, h1, hj, he, hF⟩
  · obtain rfl := hpx.symm.trans h1
    obtain ⟨a, c, rfl⟩ := (RqOwn.rd h).form
    have HR := Lib.hid h
    clear h hfr hf
    go_enter Try.func76, Try.ntmps76
    go_wp2_with (go_at_call 70; refine HI.out.mono ?_; rintro e w1 ⟨rfl, g1⟩)
    go_ret
    exact ⟨_, rfl, by rw [out_all h2]; exact RqOwn.rd (onw HR.out g1), RqOwn.cap HR.out, fun b o n k e => by
      rcases oform HR.out with ⟨e2, z⟩ | ⟨g, cap, e2⟩
      · exact .inr (by rw [out_all h2]; exact List.length_eq_zero_iff.1 z)
      · have e3 := e2.symm.trans e
        simp only [Value.slice.injEq, Option.some.injEq, Addr.mk.injEq] at e3
        refine .inl ?_
        rw [e2, ← e3.1.1]; rfl, Tch.nw g1⟩
  obtain rfl := hpx.symm.trans h1
  obtain ⟨g, cap, rfl, hg0, hgl, _⟩ := RqOwn.at h hj
  have hcap := RqOwn.cap h
  have hcap : l.length ≤ cap := hcap
  have d0 : ((j : Int) == -1) = false := by simp
  have HX := Lib.hid (And.intro he hF)
  have HFr := Lib.hid hfr
  have H := Lib.hid h
  clear he hF hfr hf h
  go_enter Try.func76, Try.ntmps76
  go_wp2_with (go_at_call 70; refine HI.out.mono ?_; rintro e w1 ⟨rfl, g1⟩)
  have HD : Hid (Del p w w1 g0 g l.length cap j (j + 1) l l) := Lib.hid ⟨by omega, hj, rfl, takes_filter hj HX.out.1 HX.out.2, rfl, onw H.out g1, Tch.nw g1⟩
  clear HX H HI g1
  case _ =>
    go_loopw [5, 6] (fun i k wr => ∃ (a b : Nat) (R : List Rq), i = .int .i64 a ∧ k = .int .i64 b ∧ Del p w wr g0 g l.length cap a b l R) (fun _ k _ => l.length - (intOf k).toNat)
    case atStart => exact ⟨j, j + 1, l, rfl, by go_num, HD.out⟩
    case round =>
      obtain ⟨a, b, R, rfl, rfl, hD⟩ := hrel
      have hab := hD.ab
      have hbn := hD.bn
      by_cases hlt : b < l.length
      · obtain ⟨hrb, hRb⟩ := drops_at hD.rest hlt hD.len
        obtain ⟨s, hs⟩ : ∃ s, l[b] = s := ⟨_, rfl⟩
        rw [hs] at hRb
        have hcell : ∀ c u, (rqrow s)[c]? = some u → wr.cell? ⟨g, b * 5 + c, none⟩ = some u := fun c u hu => own_cell hD.row hD.len.symm b hrb c u (by rw [hRb]; exact hu)
        have c0 := hcell 0 _ rfl
        have c1 := hcell 1 _ rfl
        have c2 := hcell 2 _ rfl
        have c3 := hcell 3 _ rfl
        have c4 := hcell 4 _ rfl
        simp only [Nat.add_zero] at c0
        have hgl := olt hD.row rfl
        have hT := HFr.out wr (hD.tch.mono fun i _ e => by rw [e]; rfl)
        obtain ⟨gf', lb', eqf, _, hTT⟩ := hT
        simp only [Value.func.injEq, Fn.func.injEq, true_and] at eqf
        obtain ⟨rfl, rfl⟩ := eqf
        have HE := Lib.hid (hTT s)
        obtain ⟨B, hB⟩ : ∃ B, p s = B := ⟨_, rfl⟩
        rw [hB] at HE
        have HB := Lib.hid (show p l[b] = B by rw [hs]; exact hB)
        have HS := Lib.hid hs
        have HR := Lib.hid hD
        clear hB hcell hs hRb hTT
        have g6 : Nw wr (wr.alloc (.cells #[.int .i64 s.id, .int .i64 s.txn, .int .i64 s.md, .int .i64 s.wt, .int .i64 s.sn] 41)) := (Nw.refl wr).alloc _
        have hq6 := Lib.hid (RqB.made wr s.id s.txn s.md s.wt s.sn 41)
        cases B
        case true =>
          clear hD
          go_wp2_with (go_at_fn gf; refine (HE.out _ g6).mono ?_; rintro e w1 ⟨rfl, g1⟩)
          go_roundw
          case rel => exact ⟨a, b + 1, R, rfl, by go_num, HR.out.skip hlt HB.out (g6.trans g1)⟩
          case measure => simp [intOf]; omega
        case false =>
          have har : a < R.length := by have := hD.len; omega
          have k0 : ∀ c, c < 5 → ∃ u, wr.cell? ⟨g, a * 5 + c, none⟩ = some u := fun c hc => by
            have : c < (rqrow R[a]).length := hc
            exact ⟨_, own_cell hD.row hD.len.symm a har c _ (List.getElem?_eq_getElem this)⟩
          obtain ⟨y0, a0⟩ := k0 0 (by omega)
          obtain ⟨y1, a1⟩ := k0 1 (by omega)
          obtain ⟨y2, a2⟩ := k0 2 (by omega)
          obtain ⟨y3, a3⟩ := k0 3 (by omega)
          obtain ⟨y4, a4⟩ := k0 4 (by omega)
          simp only [Nat.add_zero] at a0
          have fz := fun c => own_frz hD.row hD.len.symm c
          have z0 := fz (a * 5)
          have z1 := fz (a * 5 + 1)
          have z2 := fz (a * 5 + 2)
          have z3 := fz (a * 5 + 3)
          have z4 := fz (a * 5 + 4)
          have hRl := hD.len
          have hai : (a : Int) < (l.length : Int) := by omega
          clear k0 fz hD
          go_wp2_with (go_at_fn gf; refine (HE.out _ g6).mono ?_; rintro e w1 ⟨rfl, g1⟩; obtain ⟨hc1, hf1⟩ := g1.rls)
          go_roundw
          case rel => exact ⟨a + 1, b + 1, _, by go_num, by go_num, by have := HR.out.move rfl hlt HB.out (g6.trans g1); rw [HS.out] at this; exact this⟩
          case measure => simp [intOf]; omega
      · have hbe : b = l.length := by omega
        subst hbe
        have HR := Lib.hid hD
        have hlen := hD.len
        have hcc : ∀ q, q < (l.length - a) * 5 → (wr.cell? ⟨g, a * 5 + q, none⟩).isSome = true := fun q hq => rq_there hD.row hlen.symm (a * 5 + q) (by omega)
        obtain ⟨vs, hvs⟩ := clear_rqs wr g (a * 5) (l.length - a) (cap - a) (by omega) hcc (fun q => own_frz hD.row hlen.symm q)
        have e1 : ((l.length : Int) - (a : Int)).toNat = l.length - a := by omega
        have hne : ¬ cap = a := by omega
        clear hD hcc
        go_wp2
        go_ret
        have hfr := HR.out.front
        rw [List.take_length] at hfr
        have hpl : (outQ p l).length = a := by rw [← hfr, List.length_take]; omega
        have hT := tch_cells g vs (a * 5) wr
        refine ⟨_, rfl, ⟨_, cap, by rw [hpl]; rfl, .inr ⟨g, 0, rfl, Nat.lt_of_lt_of_le (olt HR.out.row rfl) hT.size, fun i hi c u hu => ?_⟩⟩, by show a ≤ cap; omega, fun b o n c e => by
          injection e with e _ _
          injection e with e
          injection e with e _ _
          rw [← e]; exact .inl rfl, (HR.out.tch.trans hT).mono fun i _ e => by rw [e]; rfl⟩
        have hc : c < 5 := by have := (List.getElem?_eq_some_iff.1 hu).1; simpa [rqrow] using this
        rw [Nat.zero_add, World.cell?_setCells_out g vs _ wr _ (fun _ _ => .inl (show i * 5 + c < a * 5 by omega))]
        have hiR : i < R.length := by omega
        refine own_cell HR.out.row hlen.symm i hiR c u ?_
        have hx : (outQ p l)[i] = R[i] := by
          have : ∀ (M : List Rq) (e : R.take a = M) (h : i < M.length), M[i] = R[i] := fun M e h => by subst e; simp
          exact this _ hfr hi
        rw [← hx]; exact hu
end Go.Proofs.Ytmciiobncfchlaa
end

/- The developers' package queue: Ask. -/
section
namespace Go.Proofs.Ytmciiobncfchlaa
open Go.RowKit Go.Maps Go.ChangeMaps
set_option linter.unusedVariables false      -- a contract need not use every name

theorem plc_ne (p : Rq → Bool) (q : List Rq) : (plc p q != -1) = q.any p := by
  rw [← plc_any]
  rcases plc_form p q with ⟨h1, _⟩ | ⟨k, h1, _⟩
  · rw [h1]; rfl
  · rw [h1]
    have : ((k : Int) != -1) = true := by rw [bne_iff_ne]; omega
    rw [this]; simp
theorem any_or {α : Type} (q : List α) (a b : α → Bool) : (q.any fun x => a x || b x) = (q.any a || q.any b) := by
  induction q with
  | nil => rfl
  | cons x q ih => rw [List.any_cons, List.any_cons, List.any_cons, ih]; cases a x <;> cases b x <;> cases q.any a <;> cases q.any b <;> rfl
/-- A slice that lies in new blocks. -/
def Fresh (w : World) (v : Value) (q : List Rq) : Prop := ∀ b o n c, v = .slice (some ⟨b, o, none⟩) n c → w.heap.size ≤ b ∨ q = []
theorem Fresh.nil (w : World) (q : List Rq) : Fresh w (.slice none 0 0) q := fun b o n c e => by simp at e
theorem RqOwn.fresh {w w0 : World} {g0 : Nat} {v : Value} {q : List Rq} (h : RqOwn w g0 v q) (hb : w0.heap.size ≤ g0) : Fresh w0 v q := fun b o n c e => by
  subst e
  exact .inl (Nat.le_trans hb (oge h rfl))
theorem Fresh.old {w0 w : World} {v : Value} {q : List Rq} (h : Fresh w v q) (g : Nw w0 w) : Fresh w0 v q := fun b o n c e => (h b o n c e).imp (fun h => Nat.le_trans g.sz h) (fun h => h)
/-- What a call of the developers' gives that returns a head, whether it was granted, and an error; a head and an error. -/
def HD2 (X : Hq × Bool × Int) (w : World) (e : Ending) (w' : World) : Prop := ∃ v', e = .returned (.tuple #[hdV X.1.t X.1.r v' X.1.W, .bool X.2.1, .int .i64 X.2.2]) ∧ Nw w w' ∧ RqAt w' v' X.1.q ∧ capOk v' ∧ Fresh w v' X.1.q
def HD1 (X : Hq × Int) (w : World) (e : Ending) (w' : World) : Prop := ∃ v', e = .returned (.tuple #[hdV X.1.t X.1.r v' X.1.W, .int .i64 X.2]) ∧ Nw w w' ∧ RqAt w' v' X.1.q ∧ capOk v' ∧ Fresh w v' X.1.q
theorem Ln.done {w : World} {g0 p : Nat} {t r W : Int} {v : Value} {b n : Nat} {q : List Rq} {c : Int → Int} (h : Ln w g0 p t r W v b n q c) {rb : Nat} (hb : rb < g0) (u0 u1 u2 u3 : Value) :
    RqAt ((((w.setCell ⟨rb, 0, none⟩ u0).setCell ⟨rb, 1, none⟩ u1).setCell ⟨rb, 2, none⟩ u2).setCell ⟨rb, 3, none⟩ u3) v q ∧ capOk v := ⟨(fill_own h.own hb _ _ _ _).rd, h.own.cap⟩
set_option maxRecDepth 100000 in
set_option maxHeartbeats 8000000 in
theorem dAsk (t r W id x m : Int) (v : Value) (q : List Rq) (w : World) (hl : q.length ≤ 900) (hok : Ok W q) (h : RqAt w v q) :
    Calls Try.prog 8 #[hdV t r v W, .int .i64 id, .int .i64 x, .int .i64 m] w (HD2 (askR ⟨t, r, W, q⟩ id x m) w) := by
  obtain ⟨X, hX⟩ : ∃ X, askR ⟨t, r, W, q⟩ id x m = X := ⟨_, rfl⟩
  rw [hX]
  have HLo := Lib.hid (fun w => dLockable m w)
  have hat := h
  obtain ⟨a, c, rfl⟩ := h.form
  unfold HD2 hdV
  have HX := Lib.hid (two_boxes w (.cells #[.int .i64 t, .int .i64 r, .slice a q.length c, .int .i64 W] 27) (.cells #[.int .i64 0, .int .i64 0, .slice none 0 0, .int .i64 0] 27))
  obtain ⟨y, hy⟩ : ∃ y, ((m != 0) && knI m) = y := ⟨_, rfl⟩
  rw [hy] at HLo
  by_cases hi : id < 0
  · subst hX
    rw [ask_bad (h := ⟨t, r, W, q⟩) (.inl hi)]
    have di : decide (id < 0) = true := by simpa using hi
    have hq1 := HX.out.2.1
    have fz := fun k => hfz (j := k) hq1
    have hsl2 := hlt hq1
    have HQ := Lib.hid HX.out.2.2.1
    have d0 := hcell (j := 0) hq1
    have d1 := hcell (j := 1) hq1
    have d2 := hcell (j := 2) hq1
    have d3 := hcell (j := 3) hq1
    clear hq1 hi hy hat h hok HX HLo
    go_enter Try.func8, Try.ntmps8
    go_wp2
    exact bodyPost_ret (v := .tuple #[.agg #[.int .i64 0, .int .i64 0, .slice none 0 0, .int .i64 0], .bool false, .int .i64 2]) (by simp only [results, Try.results8]; simp [go_sem, *]) rfl ⟨_, rfl, HQ.out, Rd.nil _, Nat.le_refl _, Fresh.nil _ _⟩
  have di : decide (id < 0) = false := by simpa using hi
  cases y
  · subst hX
    rw [ask_bad (h := ⟨t, r, W, q⟩) (by cases e : knI m with | false => exact .inr (.inr rfl) | true => rw [e, Bool.and_true] at hy; exact .inr (.inl (by simpa using hy)))]
    clear hi hy hat h hok
    go_enter Try.func8, Try.ntmps8
    go_wp2_with fail
    go_at_call 35
    refine (HLo.out _).mono ?_
    rintro e w1 ⟨rfl, g1⟩
    have hq1 := g1.at' HX.out.2.1
    have HQ := Lib.hid (HX.out.2.2.1.trans g1)
    have d0 := hcell (j := 0) hq1
    have d1 := hcell (j := 1) hq1
    have d2 := hcell (j := 2) hq1
    have d3 := hcell (j := 3) hq1
    have fz := fun k => hfz (j := k) hq1
    have hsl2 := hlt hq1
    clear g1 hq1 HX HLo
    go_wp2
    exact bodyPost_ret (v := .tuple #[.agg #[.int .i64 0, .int .i64 0, .slice none 0 0, .int .i64 0], .bool false, .int .i64 2]) (by simp only [results, Try.results8]; simp [go_sem, *]) rfl ⟨_, rfl, fill_nw HQ.out (Nat.le_succ _) _ _ _ _, Rd.nil _, Nat.le_refl _, Fresh.nil _ _⟩
  have hgood : ¬ (id < 0 ∨ m = 0 ∨ knI m = false) := by
    rw [Bool.and_eq_true, bne_iff_ne] at hy
    rintro (e | e | e)
    · exact hi e
    · exact hy.1 e
    · rw [hy.2] at e; cases e
  have hkm : knI m = true := by
    rw [Bool.and_eq_true] at hy
    exact hy.2
  obtain ⟨px, hpx⟩ : ∃ px, plc (fun R => R.id == id) q = px := ⟨_, rfl⟩
  obtain ⟨py, hpy⟩ : ∃ py, plc (fun R => R.txn == x) q = py := ⟨_, rfl⟩
  have hFi := fun (w1 : World) (g : Nw w w1) (f : Value) (hf : Tells w1 f (fun R => R.id == id)) => dFind t r W (.slice a q.length c) f _ q w1 (by omega) (hat.nw g) hf
  have hFt := fun (w1 : World) (g : Nw w w1) (f : Value) (hf : Tells w1 f (fun R => R.txn == x)) => dFind t r W (.slice a q.length c) f _ q w1 (by omega) (hat.nw g) hf
  rw [hpx] at hFi
  rw [hpy] at hFt
  unfold hdV at hFi hFt
  have HFi := Lib.hid hFi
  have HFt := Lib.hid hFt
  have HLi := Lib.hid (fun (w1 : World) (g : Nw w w1) => dLineOf t r W (.slice a q.length c) q w1 (by omega) (fun R hR => (hok.rt R hR).md) (hat.nw g))
  unfold hdV at HLi
  have hany : (q.any fun R => R.id == id || R.txn == x) = ((px != -1) || (py != -1)) := by rw [any_or, ← plc_ne (fun R => R.id == id), ← plc_ne (fun R => R.txn == x), hpx, hpy]
  obtain ⟨bx, hbx⟩ : ∃ bx, (px != -1) = bx := ⟨_, rfl⟩
  obtain ⟨b2, hb2⟩ : ∃ b2, (py != -1) = b2 := ⟨_, rfl⟩
  rw [hbx, hb2] at hany
  clear hFi hFt hpx hpy
  have HWi := Lib.hid (dWithID id)
  have HTx := Lib.hid (dOfTxn x)
  go_enter Try.func8, Try.ntmps8
  go_wp2_with fail
  go_at_call 35
  refine (HLo.out _).mono ?_
  rintro e w1 ⟨rfl, g1⟩
  have HB1 := Lib.hid (And.intro (g1.at' HX.out.1) (And.intro (g1.at' HX.out.2.1) (HX.out.2.2.1.trans g1)))
  have hp1 := g1.at' HX.out.1
  have hN1 := HX.out.2.2.1.trans g1
  have s0 : ∀ z, Nw w1 z → z.cell? ⟨w.heap.size, 0, none⟩ = some (.int .i64 t) := fun z hz => hz.kp (hcell (j := 0) hp1)
  have s1 : ∀ z, Nw w1 z → z.cell? ⟨w.heap.size, 1, none⟩ = some (.int .i64 r) := fun z hz => hz.kp (hcell (j := 1) hp1)
  have s2 : ∀ z, Nw w1 z → z.cell? ⟨w.heap.size, 2, none⟩ = some (.slice a q.length c) := fun z hz => hz.kp (hcell (j := 2) hp1)
  have s3 : ∀ z, Nw w1 z → z.cell? ⟨w.heap.size, 3, none⟩ = some (.int .i64 W) := fun z hz => hz.kp (hcell (j := 3) hp1)
  clear hp1 g1 HX HLo
  go_wp2
  have q1 := (Nw.refl w1).drew1
  obtain ⟨wc, hwc⟩ : ∃ wc, w1.drew = wc := ⟨_, rfl⟩
  have HH := Lib.hid (And.intro hok hat)
  clear hok hat h hi
  cases bx <;> cases b2
  all_goals
   refine region_told [some true, some true, some false, none, some false, none, some true, some true, some true, some true, some false, none, some false, none, some true, some true, some true] (Nw w1) (by kernel_rfl) (by kernel_rfl) (by kernel_rfl) q1 ?_
   rw [hwc] at q1 ⊢
   clear hwc
   repeat (first
    | (refine HW.off ?_)
    | (refine HW.take' ?_; (first | (refine ⟨undef, Or.inr ⟨by rfl, rfl⟩, ?_⟩) | (apply Exists.intro; refine ⟨Or.inl ⟨by rfl, ?_⟩, ?_⟩; (intro x hx; go_simp; first | done | with_reducible rfl))); (try simp only [Act.put, List.setIfInBounds_toArray, List.set_cons_zero, List.set_cons_succ]))
    | (refine HW.go (fun K hK => ?_); go_simp; (first
      | (go_at_call 37; (with_reducible refine (HWi.out _).mono ?_); rintro e wy ⟨pa, rfl, g2, hbx⟩; refine hK.out _ _ (q1.trans g2) ?_; intro _; replace q1 := q1.trans g2; clear hK K g2; replace hbx := Tells.withID hbx)
      | (go_at_call 38; (with_reducible refine (HTx.out _).mono ?_); rintro e wy ⟨pa, rfl, g2, hbx⟩; refine hK.out _ _ (q1.trans g2) ?_; intro _; replace q1 := q1.trans g2; clear hK K g2; replace hbx := Tells.ofTxn hbx)
      | (go_at_call 36; (first | (with_reducible refine (HFi.out _ (HB1.out.2.2.trans q1) _ hbx).mono ?_) | (with_reducible refine (HFt.out _ (HB1.out.2.2.trans q1) _ hbx).mono ?_)); rintro e wy ⟨rfl, g2⟩; refine hK.out _ _ (q1.trans g2) ?_; intro _; replace q1 := q1.trans g2; clear hK K g2 hbx)
      | (refine hK.out _ _ q1 ?_; intro _; clear hK K))))
   refine HW.end_ ?_
   refine NoPanic.normal ?_
  · have hq1 := q1.at' HB1.out.2.1
    have hp1 := q1.at' HB1.out.1
    have HQ := Lib.hid (And.intro hq1 (HB1.out.2.2.trans q1))
    have c0 := hcell (j := 0) hp1
    have c1 := hcell (j := 1) hp1
    have c2 := hcell (j := 2) hp1
    have c3 := hcell (j := 3) hp1
    have hpl := hlt hp1
    have HXX := Lib.hid (And.intro hX (And.intro hgood hany))
    clear hq1 hp1 q1 s0 s1 s2 s3 hX hgood hany HB1 HFi HFt HWi HTx hN1 hy
    go_wp2_with fail
    go_at_call 39
    refine (HLi.out _ HQ.out.2).mono ?_
    rintro e w2 ⟨p, v1, b, n, rfl, g2, hL2, hnq⟩
    have HQ2 := Lib.hid HQ.out
    clear c0 c1 c2 c3 hpl HLi HQ
    have hA := dAdd hL2 ⟨id, x, 0, m, 0⟩ rfl (fun y => by have := cntQ_bd q y; omega) (by omega) (by omega)
    unfold rqV at hA
    simp only at hA
    have HA := Lib.hid hA
    have HG2 := Lib.hid g2
    clear hA hL2 g2
    go_wp2_with fail
    go_at_call 41
    refine HA.out.mono ?_
    rintro e w3 ⟨rfl, v2, hL3, g3⟩
    have hlk : q.length < (q ++ [(⟨id, x, 0, m, 0⟩ : Rq)]).length := by simp
    have hke : (q ++ [(⟨id, x, 0, m, 0⟩ : Rq)])[q.length]'hlk = ⟨id, x, 0, m, 0⟩ := by simp
    obtain ⟨fr, hfr⟩ : ∃ fr, free q m = fr := ⟨_, rfl⟩
    have hE := dEnterB (hL3.eq (cntQ_snoc q ⟨id, x, 0, m, 0⟩).symm) q.length hlk ⟨HH.out.1.w0, HH.out.1.wB⟩ (fun R hR => by
      rcases List.mem_append.1 hR with hR | hR
      · exact (HH.out.1.rt R hR).md
      · rw [List.mem_singleton] at hR; subst hR; rfl) (by omega) (by simp; omega) ⟨id, x, 0, m, 0⟩ hke hkm fr ((ask_en HH.out.1 id x m).trans hfr)
    simp only [enR] at hE
    have HE := Lib.hid hE
    have HG3 := Lib.hid (And.intro HG2.out g3)
    clear hE hL3 g3 HA HG2 hke
    go_wp2_with fail
    go_at_call 40
    refine HE.out.mono ?_
    rintro e w5 ⟨rfl, g4, n5, _, hL5⟩
    have g5 : Nw wy w5 := Below.trans (Below.trans HG3.out.1 HG3.out.2) g4
    obtain ⟨hX, hgood, hany⟩ := HXX.out
    clear HE HG3 HXX
    have hset : ∀ R : Rq, (q ++ [(⟨id, x, 0, m, 0⟩ : Rq)]).set q.length R = q ++ [R] := fun R => by simp
    cases fr
    · have hR := hX.symm.trans (ask_no (h := ⟨t, r, W, q⟩) hgood hany (by rw [hfr]; simp))
      subst hR
      simp only [Bool.false_eq_true, if_true, if_false] at hL5
      rw [hset] at hL5
      obtain ⟨a2, k2, hv2⟩ := (RqOwn.rd hL5.own).form
      obtain ⟨n2, hn2⟩ : ∃ n, (q ++ [(⟨id, x, 0, m, W + 1⟩ : Rq)]).length = n := ⟨_, rfl⟩
      rw [hn2] at hv2
      subst hv2
      have HL5 := Lib.hid hL5
      have hpl := hlt hL5.obj
      have e0 := hcell (j := 0) hL5.obj
      have e1 := hcell (j := 1) hL5.obj
      have e2 := hcell (j := 2) hL5.obj
      have e3 := hcell (j := 3) hL5.obj
      have hq5 := g5.at' HQ2.out.1
      have HN5 := Lib.hid (HQ2.out.2.trans g5)
      have HS := Lib.hid (hlt HQ2.out.1)
      have HQF := Lib.hid (HQ2.out.2.sz)
      have d0 := hcell (j := 0) hq5
      have d1 := hcell (j := 1) hq5
      have d2 := hcell (j := 2) hq5
      have d3 := hcell (j := 3) hq5
      have fz := fun k => hfz (j := k) hq5
      have hsl2 := hlt hq5
      clear hL5 hset hq5 g5 HQ2 hn2 hX hfr
      go_wp2
      exact bodyPost_ret (v := .tuple #[.agg #[.int .i64 t, .int .i64 r, .slice a2 n2 k2, .int .i64 (W + 1)], .bool false, .int .i64 0]) (by simp only [results, Try.results8]; simp [go_sem, *]) rfl ⟨_, rfl, fill_nw HN5.out (Nat.le_succ _) _ _ _ _, (HL5.out.done HS.out _ _ _ _).1, HL5.out.own.cap, HL5.out.own.fresh HQF.out⟩
    · have hR := hX.symm.trans (ask_yes (h := ⟨t, r, W, q⟩) hgood hany (by rw [hfr]))
      subst hR
      simp only [Bool.false_eq_true, if_true, if_false] at hL5
      rw [hset] at hL5
      obtain ⟨a2, k2, hv2⟩ := (RqOwn.rd hL5.own).form
      obtain ⟨n2, hn2⟩ : ∃ n, (q ++ [(⟨id, x, m, m, 0⟩ : Rq)]).length = n := ⟨_, rfl⟩
      rw [hn2] at hv2
      subst hv2
      have HL5 := Lib.hid hL5
      have hpl := hlt hL5.obj
      have e0 := hcell (j := 0) hL5.obj
      have e1 := hcell (j := 1) hL5.obj
      have e2 := hcell (j := 2) hL5.obj
      have e3 := hcell (j := 3) hL5.obj
      have hq5 := g5.at' HQ2.out.1
      have HN5 := Lib.hid (HQ2.out.2.trans g5)
      have HS := Lib.hid (hlt HQ2.out.1)
      have HQF := Lib.hid (HQ2.out.2.sz)
      have d0 := hcell (j := 0) hq5
      have d1 := hcell (j := 1) hq5
      have d2 := hcell (j := 2) hq5
      have d3 := hcell (j := 3) hq5
      have fz := fun k => hfz (j := k) hq5
      have hsl2 := hlt hq5
      clear hL5 hset hq5 g5 HQ2 hn2 hX hfr
      go_wp2
      exact bodyPost_ret (v := .tuple #[.agg #[.int .i64 t, .int .i64 r, .slice a2 n2 k2, .int .i64 W], .bool true, .int .i64 0]) (by simp only [results, Try.results8]; simp [go_sem, *]) rfl ⟨_, rfl, fill_nw HN5.out (Nat.le_succ _) _ _ _ _, (HL5.out.done HS.out _ _ _ _).1, HL5.out.own.cap, HL5.out.own.fresh HQF.out⟩
  · have hR := hX.symm.trans (ask_two (h := ⟨t, r, W, q⟩) hgood hany)
    subst hR
    have hq1 := q1.at' HB1.out.2.1
    have HQ := Lib.hid (HB1.out.2.2.trans q1)
    have d0 := hcell (j := 0) hq1
    have d1 := hcell (j := 1) hq1
    have d2 := hcell (j := 2) hq1
    have d3 := hcell (j := 3) hq1
    have fz := fun k => hfz (j := k) hq1
    have hsl2 := hlt hq1
    clear hq1 q1 s0 s1 s2 s3 hX hgood hany HB1 HFi HFt HLi HWi HTx HH hN1 hy hkm
    go_wp2
    exact bodyPost_ret (v := .tuple #[.agg #[.int .i64 0, .int .i64 0, .slice none 0 0, .int .i64 0], .bool false, .int .i64 4]) (by simp only [results, Try.results8]; simp [go_sem, *]) rfl ⟨_, rfl, fill_nw HQ.out (Nat.le_succ _) _ _ _ _, Rd.nil _, Nat.le_refl _, Fresh.nil _ _⟩
  · have hR := hX.symm.trans (ask_two (h := ⟨t, r, W, q⟩) hgood hany)
    subst hR
    have hq1 := q1.at' HB1.out.2.1
    have HQ := Lib.hid (HB1.out.2.2.trans q1)
    have d0 := hcell (j := 0) hq1
    have d1 := hcell (j := 1) hq1
    have d2 := hcell (j := 2) hq1
    have d3 := hcell (j := 3) hq1
    have fz := fun k => hfz (j := k) hq1
    have hsl2 := hlt hq1
    clear hq1 q1 s0 s1 s2 s3 hX hgood hany HB1 HFi HFt HLi HWi HTx HH hN1 hy hkm
    go_wp2
    exact bodyPost_ret (v := .tuple #[.agg #[.int .i64 0, .int .i64 0, .slice none 0 0, .int .i64 0], .bool false, .int .i64 4]) (by simp only [results, Try.results8]; simp [go_sem, *]) rfl ⟨_, rfl, fill_nw HQ.out (Nat.le_succ _) _ _ _ _, Rd.nil _, Nat.le_refl _, Fresh.nil _ _⟩
  · have hR := hX.symm.trans (ask_two (h := ⟨t, r, W, q⟩) hgood hany)
    subst hR
    have hq1 := q1.at' HB1.out.2.1
    have HQ := Lib.hid (HB1.out.2.2.trans q1)
    have d0 := hcell (j := 0) hq1
    have d1 := hcell (j := 1) hq1
    have d2 := hcell (j := 2) hq1
    have d3 := hcell (j := 3) hq1
    have fz := fun k => hfz (j := k) hq1
    have hsl2 := hlt hq1
    clear hq1 q1 s0 s1 s2 s3 hX hgood hany HB1 HFi HFt HLi HWi HTx HH hN1 hy hkm
    go_wp2
    exact bodyPost_ret (v := .tuple #[.agg #[.int .i64 0, .int .i64 0, .slice none 0 0, .int .i64 0], .bool false, .int .i64 4]) (by simp only [results, Try.results8]; simp [go_sem, *]) rfl ⟨_, rfl, fill_nw HQ.out (Nat.le_succ _) _ _ _ _, Rd.nil _, Nat.le_refl _, Fresh.nil _ _⟩
end Go.Proofs.Ytmciiobncfchlaa
end
