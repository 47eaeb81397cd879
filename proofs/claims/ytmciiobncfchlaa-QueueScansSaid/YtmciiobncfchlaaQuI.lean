
/- The document's own queue: without. -/
import Derived.Test.YtmciiobncfchlaaQuG
import Derived.StillTailTactics
namespace Go.Proofs.Ytmciiobncfchlaa
open Go.RowKit
set_option linter.unusedVariables false      -- a contract need not use every name

theorem own_pre {w : World} {g0 e size g n cap i : Nat} {xs : List Value} (h : w.ownsRow g0 e size (.slice (some ⟨g, 0, none⟩) n cap) n xs) (hi : i ≤ n) : w.ownsRow g0 e size (.slice (some ⟨g, 0, none⟩) i cap) i (xs.take (i * size)) := by
  obtain ⟨hl, q | ⟨g', cap', cur, e1, hb, hg, hn, hc, hs, ht⟩⟩ := h
  · simp at q
  · simp only [Value.slice.injEq, Option.some.injEq, Addr.mk.injEq, and_true, true_and] at e1
    obtain ⟨rfl, rfl⟩ := e1
    have hm := Nat.mul_le_mul_right size hi
    refine ⟨by rw [List.length_take, hl]; omega, .inr ⟨g, cap, cur, rfl, hb, hg, by omega, hc, hs, ?_⟩⟩
    rw [← ht, List.take_take, Nat.min_eq_left hm]
theorem rows_take {α : Type} {sz : Nat} {row : α → List Value} (hl : ∀ a, (row a).length = sz) (i : Nat) (l : List α) (hi : i ≤ l.length) : (rowsOf row l).take (i * sz) = rowsOf row (l.take i) := by
  have e : rowsOf row l = rowsOf row (l.take i) ++ rowsOf row (l.drop i) := by rw [← rows_app, List.take_append_drop]
  have hll : (rowsOf row (l.take i)).length = i * sz := by rw [rows_len hl, List.length_take, Nat.min_eq_left hi]
  rw [e, ← hll, List.take_left]
theorem Own.pre {w : World} {g0 g n cap : Nat} {q : List Rq} (h : RqOwn w g0 (.slice (some ⟨g, 0, none⟩) n cap) q) (hn : n = q.length) {i : Nat} (hi : i ≤ n) : RqOwn w g0 (.slice (some ⟨g, 0, none⟩) i cap) (q.take i) := by
  subst hn
  have := own_pre h hi
  unfold RqOwn Own
  rw [List.length_take, Nat.min_eq_left hi, ← rows_take (sz := 5) (row := rqrow) (fun _ => rfl) i q hi]
  exact this
theorem own_cap {w : World} {g0 e size g n cap : Nat} {xs : List Value} (h : w.ownsRow g0 e size (.slice (some ⟨g, 0, none⟩) n cap) n xs) : n ≤ cap := by
  obtain ⟨_, q | ⟨g', cap', cur, e1, _, _, hn, _⟩⟩ := h
  · simp at q
  · simp only [Value.slice.injEq] at e1
    rw [e1.2.2]; exact hn
/-- A part of a slice, as an expression of the language gives it: what an append reads. -/
theorem part_at {w : World} {b o c k : Nat} {q : List Rq} (h : RqC w b o q) (hk : k ≤ q.length) (hc : q.length ≤ c) :
    ∀ j u, (rowsOf rqrow (q.drop k))[j]? = some u → w.cell? ((if c = k then (⟨b, o, none⟩ : Addr) else ⟨b, o + k * 5, none⟩).add j) = some u := by
  by_cases e : c = k
  · intro j u hu
    have : q.drop k = [] := List.drop_eq_nil_of_le (by omega)
    rw [this] at hu
    simp [rowsOf] at hu
  · rw [if_neg e]
    have hp := h.part k (q.length - k)
    rw [List.take_of_length_le (by simp)] at hp
    exact hp.flat (fun _ => rfl) (by decide)
set_option maxRecDepth 100000 in
set_option maxHeartbeats 4000000 in
theorem r9without (t r W : Int) (b o c k : Nat) (q : List Rq) (w : World) (hl : q.length ≤ 1000) (hk : k < q.length) (hcq : q.length ≤ c) (h : RqC w b o q) :
    Calls Try.prog 61 #[.agg #[.int .i64 t, .int .i64 r, .slice (some ⟨b, o, none⟩) q.length c, .int .i64 W], .int .i64 k] w fun e w' => ∃ v', e = .returned (hdV t r v' W) ∧ Nw w w' ∧ RqOwn w' w.heap.size v' (q.take k ++ q.drop (k + 1)) := by
  have HH := Lib.hid h
  have HCp := Lib.hid (fun (w1 : World) (h : RqC w1 b o q) => r9copied t r W (.slice (some ⟨b, o, none⟩) q.length c) q w1 hl ⟨_, c, rfl, .inr ⟨b, o, rfl, h⟩⟩)
  unfold hdV at HCp ⊢
  clear h
  have hp0 := allocAt w (.cells #[.int .i64 t, .int .i64 r, .slice (some ⟨b, o, none⟩) q.length c, .int .i64 W] 27)
  have hp := ((Nw.refl _).alloc (.cells #[.int .i64 0, .int .i64 0, .slice none 0 0, .int .i64 0] 27)).at' hp0
  have hq := allocAt (w.alloc (.cells #[.int .i64 t, .int .i64 r, .slice (some ⟨b, o, none⟩) q.length c, .int .i64 W] 27)) (.cells #[.int .i64 0, .int .i64 0, .slice none 0 0, .int .i64 0] 27)
  have hsz1 : (w.alloc (.cells #[.int .i64 t, .int .i64 r, .slice (some ⟨b, o, none⟩) q.length c, .int .i64 W] 27)).heap.size = w.heap.size + 1 := by simp
  have hsz2 : ((w.alloc (.cells #[.int .i64 t, .int .i64 r, .slice (some ⟨b, o, none⟩) q.length c, .int .i64 W] 27)).alloc (.cells #[.int .i64 0, .int .i64 0, .slice none 0 0, .int .i64 0] 27)).heap.size = w.heap.size + 1 + 1 := by simp
  have hN2 : Nw w ((w.alloc (.cells #[.int .i64 t, .int .i64 r, .slice (some ⟨b, o, none⟩) q.length c, .int .i64 W] 27)).alloc (.cells #[.int .i64 0, .int .i64 0, .slice none 0 0, .int .i64 0] 27)) := ((Nw.refl w).alloc _).alloc _
  rw [hsz1] at hq
  have HX := Lib.hid (And.intro hp (And.intro hq (And.intro hN2 hsz2)))
  clear hp0 hp hq hsz1 hsz2 hN2
  go_enter Try.func61, Try.ntmps61
  go_wp2_with fail
  refine (HCp.out _ (HH.out.nw HX.out.2.2.1)).mono ?_
  rintro e w1 ⟨v1, rfl, g1, hO⟩
  rw [HX.out.2.2.2] at hO
  rcases oform hO with ⟨_, q0⟩ | ⟨g, cap, rfl⟩
  · omega
  have hp1 := g1.at' HX.out.1
  have hq1 := g1.at' HX.out.2.1
  have hN1 := HX.out.2.2.1.trans g1
  have hC1 := HH.out.nw hN1
  have hs1 : w.heap.size + 1 + 1 ≤ w1.heap.size := by rw [← HX.out.2.2.2]; exact g1.sz
  have hcap := own_cap hO
  clear g1 HX HCp
  go_wp2_with fail
  have hal := allocAt w1 (.cells #[.int .i64 t, .int .i64 r, .slice (some ⟨g, 0, none⟩) q.length cap, .int .i64 W] 27)
  have hNa : Nw w1 (w1.alloc (.cells #[.int .i64 t, .int .i64 r, .slice (some ⟨g, 0, none⟩) q.length cap, .int .i64 W] 27)) := (Nw.refl w1).alloc _
  have hlg := olt hO (g := g) rfl
  obtain ⟨pb, hpb⟩ : ∃ pb, w1.heap.size = pb := ⟨_, rfl⟩
  rw [hpb] at hal
  rw [hpb]
  generalize w1.alloc (.cells #[.int .i64 t, .int .i64 r, .slice (some ⟨g, 0, none⟩) q.length cap, .int .i64 W] 27) = y at *
  have hpy := hNa.at' hp1
  have hqy := hNa.at' hq1
  have hCy := (hC1.nw hNa).nw (Nw.refl y).dr
  have hOy := onw (onw hO hNa) (Nw.refl y).dr
  have hNy : Nw w y.drew := (hN1.trans hNa).dr
  have hsy : w.heap.size + 1 + 1 ≤ y.drew.heap.size := Nat.le_trans hs1 hNa.sz
  have hgp : g ≠ pb := by omega
  have hg0 : w.heap.size + 1 + 1 ≤ g := oge hO rfl
  obtain ⟨nx, hnx⟩ : ∃ nx : Nat, k + 1 = nx := ⟨_, rfl⟩
  have hdl : (q.drop (k + 1)).length = q.length - nx := by rw [List.length_drop, hnx]
  obtain ⟨ad, had, hadc⟩ : ∃ ad : Addr, (if c = k + 1 then (⟨b, o, none⟩ : Addr) else ⟨b, o + (k + 1) * 5, none⟩) = ad ∧ ∀ j u, (rowsOf rqrow (q.drop (k + 1)))[j]? = some u → y.drew.cell? (ad.add j) = some u := ⟨_, rfl, part_at hCy (by omega) hcq⟩
  obtain ⟨v2, w2, hrun, hR2, hG2, hbk⟩ := Own.many elemRq (Own.pre hOy rfl (i := k) (by omega)) (q.drop (k + 1)) ad (c - nx) hadc (by rw [List.length_take, List.length_drop]; omega) hsy
  rw [hdl] at hrun
  have hnb : ∀ x, v2.ownBlock = some x → x ≠ pb := by
    intro x hx e
    subst e
    have h1 := hlt hal
    rcases hbk with e | e
    · rw [hx] at e; have e2 : x = g := Option.some.inj e; omega
    · rw [hx] at e; have e2 : x = y.heap.size := Option.some.inj e; omega
  have hg2 : ∀ x, x < y.heap.size → x ≠ g → w2.heap[x]? = y.heap[x]? := fun x h1 h2 => hG2.block x h1 (fun e => h2 (Option.some.inj e))
  have hpb2 := (hg2 pb (hlt hal) (fun e => hgp e.symm)).trans hal
  have hq2 := (hg2 _ (hlt hqy) (by omega)).trans hqy
  have hN2' : Nw w w2 := hNy.gro hG2 (fun x hx => by have e : g = x := Option.some.inj hx; omega)
  have hpc : ∀ j, y.cell? ⟨pb, j, none⟩ = _ := fun j => hcell (j := j) hal
  have c0 := hpc 0
  have c1 := hpc 1
  have c2 := hpc 2
  have c3 := hpc 3
  have hpp : ∀ j, y.cell? ⟨w.heap.size, j, none⟩ = _ := fun j => hcell (j := j) hpy
  have h0 := hpp 0
  have h1 := hpp 1
  have h2 := hpp 2
  have h3 := hpp 3
  have hp2 : ∀ j, w2.cell? ⟨pb, j, none⟩ = _ := fun j => hcell (j := j) hpb2
  have x0 := hp2 0
  have x1 := hp2 1
  have x2 := hp2 2
  have x3 := hp2 3
  have fz := fun j => hfz (j := j) hpb2
  have hqc : ∀ j, w2.cell? ⟨w.heap.size + 1, j, none⟩ = _ := fun j => hcell (j := j) hq2
  have d0 := hqc 0
  have d1 := hqc 1
  have d2 := hqc 2
  have d3 := hqc 3
  have fz' := fun j => hfz (j := j) hq2
  have hrp : ¬ (w.heap.size + 1 = pb) := by omega
  have hrp' : ¬ (pb = w.heap.size + 1) := by omega
  have hpbw : w.heap.size ≤ pb := by omega
  obtain ⟨a2, k2, hv2⟩ := (RqOwn.rd hR2).form
  obtain ⟨n2, hn2⟩ : ∃ n, (q.take k ++ q.drop (k + 1)).length = n := ⟨_, rfl⟩
  rw [hn2] at hv2
  subst hv2
  have k1 : (k : Int) + 1 = (nx : Int) := by omega
  have k3 : nx ≤ c := by omega
  have k4 : (nx : Int) ≤ (q.length : Int) := by omega
  have k5 : (q.length : Int) ≤ (c : Int) := by omega
  have k6 : ((q.length : Int) - (nx : Int)).toNat = q.length - nx := by omega
  have k7 : k ≤ cap := by omega
  have hki : (k : Int) ≤ (cap : Int) := by omega
  have hkn : IntKind.i64.wrap ((k : Int) + 1) = (nx : Int) := by rw [IntKind.wrap_i64] <;> omega
  have hkn2 : IntKind.i64.wrap (nx : Int) = (nx : Int) := by rw [IntKind.wrap_i64] <;> omega
  have HR := Lib.hid hrun
  have HX := Lib.hid (And.intro hR2 (And.intro hN2' (And.intro hg0 (And.intro hpbw hnb))))
  clear hpc hpp hp2 hqc hnb hbk hrun hR2 hG2 hg2 hpb2 hq2 hN2' hal hNa hp1 hq1 hN1 hC1 hs1 hpy hqy hCy hOy hNy hsy hO hdl hadc hn2 hlg hgp hg0
  refine wp_region_still_tail 9 (by kernel_rfl) (by kernel_rfl) ?_
  simp only [List.take_succ_cons, List.take_zero, List.drop_succ_cons, List.drop_zero]
  rw [hnx] at had
  clear hnx
  by_cases hcn : c = nx
  · rw [if_pos hcn] at had
    subst had
    repeat still_step
    try refine wpStill_nil ?_
    change wpList _ _ _ _ _ y.drew
    refine wpl_app (by rfl) (.tmp 11) (.tmp 16) 25 rfl _ _ _ _ (by first | rfl | simp [Act.eval, hcn]) (by first | rfl | simp [Act.eval, hcn]) HR.out ?_
    go_wp2
    refine bodyPost_ret (v := .agg #[.int .i64 t, .int .i64 r, .slice a2 n2 k2, .int .i64 W]) (by simp [results, Try.results61, go_sem, *]) rfl ⟨_, rfl, ?_, ?_⟩
    · exact ((((HX.out.2.1.st HX.out.2.2.2.1 _).st (Nat.le_succ _) _).st (Nat.le_succ _) _).st (Nat.le_succ _) _).st (Nat.le_succ _) _
    · have hO5 := okeep HX.out.1 (sgrown w2 ⟨pb, 2, none⟩ (.slice a2 n2 k2)) (fun x hx e => HX.out.2.2.2.2 x hx (Option.some.inj e).symm)
      have hr := own_st (own_st (own_st (own_st hO5 (p := ⟨w.heap.size + 1, 0, none⟩) (by show w.heap.size + 1 < _; omega) (.int .i64 t)) (p := ⟨w.heap.size + 1, 1, none⟩) (by show w.heap.size + 1 < _; omega) (.int .i64 r)) (p := ⟨w.heap.size + 1, 2, none⟩) (by show w.heap.size + 1 < _; omega) (.slice a2 n2 k2)) (p := ⟨w.heap.size + 1, 3, none⟩) (by show w.heap.size + 1 < _; omega) (.int .i64 W)
      exact olow hr (fun g hg => by have := oge hr hg; omega)
  · rw [if_neg hcn] at had
    subst had
    repeat still_step
    try refine wpStill_nil ?_
    change wpList _ _ _ _ _ y.drew
    refine wpl_app (by rfl) (.tmp 11) (.tmp 16) 25 rfl _ _ _ _ rfl rfl HR.out ?_
    go_wp2
    refine bodyPost_ret (v := .agg #[.int .i64 t, .int .i64 r, .slice a2 n2 k2, .int .i64 W]) (by simp [results, Try.results61, go_sem, *]) rfl ⟨_, rfl, ?_, ?_⟩
    · exact ((((HX.out.2.1.st HX.out.2.2.2.1 _).st (Nat.le_succ _) _).st (Nat.le_succ _) _).st (Nat.le_succ _) _).st (Nat.le_succ _) _
    · have hO5 := okeep HX.out.1 (sgrown w2 ⟨pb, 2, none⟩ (.slice a2 n2 k2)) (fun x hx e => HX.out.2.2.2.2 x hx (Option.some.inj e).symm)
      have hr := own_st (own_st (own_st (own_st hO5 (p := ⟨w.heap.size + 1, 0, none⟩) (by show w.heap.size + 1 < _; omega) (.int .i64 t)) (p := ⟨w.heap.size + 1, 1, none⟩) (by show w.heap.size + 1 < _; omega) (.int .i64 r)) (p := ⟨w.heap.size + 1, 2, none⟩) (by show w.heap.size + 1 < _; omega) (.slice a2 n2 k2)) (p := ⟨w.heap.size + 1, 3, none⟩) (by show w.heap.size + 1 < _; omega) (.int .i64 W)
      exact olow hr (fun g hg => by have := oge hr hg; omega)
end Go.Proofs.Ytmciiobncfchlaa
