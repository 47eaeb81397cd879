
/- The document's own queue: Abandon, Hand. -/
import Derived.Test.YtmciiobncfchlaaQuJ
namespace Go.Proofs.Ytmciiobncfchlaa
open Go.RowKit
set_option linter.unusedVariables false      -- a contract need not use every name

theorem set_in {A M B : List Value} {j : Nat} (hj : j < M.length) (u : Value) : (A ++ (M ++ B)).set (A.length + j) u = A ++ (M.set j u ++ B) := by
  rw [List.set_append_right _ _ (by omega), Nat.add_sub_cancel_left, List.set_append_left _ _ hj]
theorem rows_mid (q : List Rq) (k : Nat) (hk : k < q.length) : rowsOf rqrow q = rowsOf rqrow (q.take k) ++ (rqrow q[k] ++ rowsOf rqrow (q.drop (k + 1))) := by
  have e : q = q.take k ++ q[k] :: q.drop (k + 1) := by rw [← List.drop_eq_getElem_cons hk, List.take_append_drop]
  conv => lhs; rw [e]
  rw [rows_app]
  rfl
theorem rows_upd (q : List Rq) (k : Nat) (hk : k < q.length) (j : Nat) (hj : j < 5) (u : Value) (new : Rq) (e : (rqrow q[k]).set j u = rqrow new) : (rowsOf rqrow q).set (k * 5 + j) u = rowsOf rqrow (q.set k new) := by
  have hA : (rowsOf rqrow (q.take k)).length = k * 5 := by rw [rows_len (sz := 5) (fun _ => rfl), List.length_take, Nat.min_eq_left (Nat.le_of_lt hk)]
  have h2 := rows_mid (q.set k new) k (by rw [List.length_set]; exact hk)
  rw [List.take_set_of_le (Nat.le_refl k), List.drop_set_of_lt (Nat.lt_succ_self k), List.getElem_set_self] at h2
  rw [rows_mid q k hk, h2, ← hA, set_in (by exact hj) u, e]
theorem own_upd {w : World} {g0 g cap n : Nat} {q : List Rq} (h : RqOwn w g0 (.slice (some ⟨g, 0, none⟩) n cap) q) (hn : n = q.length) (k : Nat) (hk : k < q.length) (j : Nat) (hj : j < 5) (u : Value) (new : Rq) (e : (rqrow q[k]).set j u = rqrow new) :
    RqOwn (w.setCell ⟨g, k * 5 + j, none⟩ u) g0 (.slice (some ⟨g, 0, none⟩) n cap) (q.set k new) := by
  subst hn
  have h1 := (World.ownsRow.stored h (k * 5 + j) u).1
  unfold RqOwn Own
  rw [List.length_set, ← rows_upd q k hk j hj u new e]
  exact h1
theorem own_cell {w : World} {g0 g cap n : Nat} {q : List Rq} (h : RqOwn w g0 (.slice (some ⟨g, 0, none⟩) n cap) q) (hn : n = q.length) (k : Nat) (hk : k < q.length) (j : Nat) (u : Value) (hu : (rqrow q[k])[j]? = some u) : w.cell? ⟨g, k * 5 + j, none⟩ = some u := by
  subst hn
  have hj : j < 5 := by have := (List.getElem?_eq_some_iff.1 hu).1; simpa [rqrow] using this
  refine (World.ownsRow.cellAt h (k * 5 + j) (by omega)).trans ?_
  rw [rows_at' (sz := 5) (fun _ => rfl) q k j hk hj]; exact hu
theorem own_frz {w : World} {g0 g cap n : Nat} {q : List Rq} (h : RqOwn w g0 (.slice (some ⟨g, 0, none⟩) n cap) q) (hn : n = q.length) (j : Nat) : w.frozen? ⟨g, j, none⟩ = false := by
  subst hn
  exact World.ownsRow.frozenAt h j
theorem ab_at {W : Int} {q : List Rq} {k : Nat} (h : Ok W q) (hk : k < q.length) (hm : q[k].md ≠ 0) : abQ q[k] q = q.set k (abR q[k]) := by
  unfold abQ
  rw [if_neg hm, chg_set h abR k hk]
theorem ab_lv {W : Int} {q : List Rq} {k : Nat} (h : Ok W q) (hk : k < q.length) (hm : q[k].md = 0) : abQ q[k] q = q.take k ++ q.drop (k + 1) := by
  unfold abQ
  rw [if_pos hm, lv_erase h k hk]

set_option maxRecDepth 100000 in
set_option maxHeartbeats 8000000 in
theorem r9abandon (t r W id : Int) (v : Value) (q : List Rq) (w : World) (hl : q.length ≤ 1000) (hok : Ok W q) (hcap : capOk v) (h : RqAt w v q) :
    Calls Try.prog 27 #[hdV t r v W, .int .i64 id] w (HR1 (abRes ⟨t, r, W, q⟩ id) w) := by
  have HOk := Lib.hid hok
  clear hok
  obtain ⟨X, hX⟩ : ∃ X, abRes ⟨t, r, W, q⟩ id = X := ⟨_, rfl⟩
  rw [hX]
  have HXx := Lib.hid hX
  clear hX
  have HA := Lib.hid (fun (w1 : World) (g : Nw w w1) => r9at t r W id v q w1 hl (h.nw g))
  have HCp := Lib.hid (fun (w1 : World) (g : Nw w w1) => r9copied t r W v q w1 hl (h.nw g))
  unfold hdV at HA HCp
  unfold HR1 hdV
  obtain ⟨a, c, rfl, h⟩ := h
  have HH := Lib.hid h
  have hcq : q.length ≤ c := hcap
  clear h hcap
  have HX := Lib.hid (two_boxes w (.cells #[.int .i64 t, .int .i64 r, .slice a q.length c, .int .i64 W] 27) (.cells #[.int .i64 0, .int .i64 0, .slice none 0 0, .int .i64 0] 27))
  go_enter Try.func27, Try.ntmps27
  go_wp2_with fail
  refine (HA.out _ HX.out.2.2.1).mono ?_
  rintro e w1 ⟨i, rfl, g1, hi⟩
  have hp1 := g1.at' HX.out.1
  have hq1 := g1.at' HX.out.2.1
  have HN1 := Lib.hid (HX.out.2.2.1.trans g1)
  have c0 := hcell (j := 0) hp1
  have c1 := hcell (j := 1) hp1
  have c2 := hcell (j := 2) hp1
  have c3 := hcell (j := 3) hp1
  have hsl := hlt hp1
  have hsl2 := hlt hq1
  rcases hi with ⟨rfl, hf⟩ | ⟨k, rfl, hk, hf⟩
  · have hR := HXx.out.symm.trans (show abRes ⟨t, r, W, q⟩ id = (noH, 5) by unfold abRes; rw [hf])
    subst hR
    have d0 := hcell (j := 0) hq1
    have d1 := hcell (j := 1) hq1
    have d2 := hcell (j := 2) hq1
    have d3 := hcell (j := 3) hq1
    have fz := fun k => hfz (j := k) hq1
    clear hf hp1 hq1 g1 HA HCp HX HOk HXx HH
    go_wp2
    refine bodyPost_ret (v := .tuple #[.agg #[.int .i64 0, .int .i64 0, .slice none 0 0, .int .i64 0], .int .i64 5]) (by simp [results, Try.results27, go_sem, *]) rfl ⟨_, rfl, fill_nw HN1.out (Nat.le_succ _) _ _ _ _, Rd.nil _, Nat.le_refl _⟩
  · rcases HH.out with ⟨e, _⟩ | ⟨b, o, rfl, hc⟩
    · subst e; simp at hk
    have hC1 := hc.nw HN1.out
    have hce := hC1.cell k hk
    have hki : (k : Int) < (q.length : Int) := by omega
    have HNw := Lib.hid (show ¬ 0 < q[k].sn → abRes ⟨t, r, W, q⟩ id = (noH, 7) from fun e => by unfold abRes; rw [hf]; exact if_neg e)
    have HLv := Lib.hid (show 0 < q[k].sn → q[k].md = 0 → abRes ⟨t, r, W, q⟩ id = (⟨t, r, W, q.take k ++ q.drop (k + 1)⟩, 0) from fun e m => by unfold abRes; rw [hf]; simp only [if_pos e]; rw [ab_lv HOk.out hk m])
    have HAb := Lib.hid (show 0 < q[k].sn → q[k].md ≠ 0 → abRes ⟨t, r, W, q⟩ id = (⟨t, r, W, q.set k (abR q[k])⟩, 0) from fun e m => by unfold abRes; rw [hf]; simp only [if_pos e]; rw [ab_at HOk.out hk m])
    have HWo := Lib.hid (fun (w2 : World) (g : Nw w w2) => r9without t r W b o c k q w2 hl hk hcq (hc.nw g))
    unfold hdV at HWo
    have HOC := Lib.hid (fun (w2 : World) (g0 g cap : Nat) (h : RqOwn w2 g0 (.slice (some ⟨g, 0, none⟩) q.length cap) q) => own_cell h rfl k hk)
    have HOU := Lib.hid (fun (w2 : World) (g0 g cap : Nat) (md wt : Int) (h : RqOwn w2 g0 (.slice (some ⟨g, 0, none⟩) q.length cap) q) (hm : md = q[k].md) => own_upd (own_upd h rfl k hk 3 (by decide) (.int .i64 md) ⟨q[k].id, q[k].txn, q[k].md, md, q[k].sn⟩ rfl) (by rw [List.length_set]) k (by rw [List.length_set]; exact hk) 4 (by decide) (.int .i64 0) (abR q[k]) (by rw [List.getElem_set_self, hm]; rfl))
    simp only [List.set_set] at HOU
    have hIdx := hk
    generalize q[k] = R at *
    obtain ⟨b0, b1, b2, b3, b4⟩ := R
    have e0 := hce 0 _ rfl
    have e1 := hce 1 _ rfl
    have e2 := hce 2 _ rfl
    have e3 := hce 3 _ rfl
    have e4 := hce 4 _ rfl
    simp only [Nat.add_zero] at e0
    clear hce
    have HC := Lib.hid hc
    clear hc hC1 hf HA HX HH
    go_wp2_with fail
    refine (r9waits _ _ _ _ _ _).mono ?_
    rintro e w2 ⟨rfl, g2⟩
    have hp2 := g2.at' hp1
    have hq2 := g2.at' hq1
    have HN2 := Lib.hid (HN1.out.trans g2)
    clear c0 c1 c2 c3
    have c0 := hcell (j := 0) hp2
    have c1 := hcell (j := 1) hp2
    have c2 := hcell (j := 2) hp2
    have c3 := hcell (j := 3) hp2
    have hsl := hlt hp2
    have hsl2 := hlt hq2
    replace e0 := g2.kp e0
    replace e1 := g2.kp e1
    replace e2 := g2.kp e2
    replace e3 := g2.kp e3
    replace e4 := g2.kp e4
    by_cases hs : 0 < b4
    rotate_left
    · have d : decide (0 < b4) = false := by simpa using hs
      have hR := HXx.out.symm.trans (HNw.out (by first | exact hs | exact Int.not_lt.1 hs))
      subst hR
      have d0 := hcell (j := 0) hq2
      have d1 := hcell (j := 1) hq2
      have d2 := hcell (j := 2) hq2
      have d3 := hcell (j := 3) hq2
      have fz := fun k => hfz (j := k) hq2
      clear hs HNw HLv HAb HXx HOk HWo HOC HOU HCp HC
      go_wp2
      refine bodyPost_ret (v := .tuple #[.agg #[.int .i64 0, .int .i64 0, .slice none 0 0, .int .i64 0], .int .i64 7]) (by simp [results, Try.results27, go_sem, *]) rfl ⟨_, rfl, fill_nw HN2.out (Nat.le_succ _) _ _ _ _, Rd.nil _, Nat.le_refl _⟩
    have d : decide (0 < b4) = true := by simpa using hs
    clear HNw
    go_wp2_with fail
    refine (r9holds _ _ _ _ _ _).mono ?_
    rintro e w3 ⟨rfl, g3⟩
    have hp3 := g3.at' hp2
    have hq3 := g3.at' hq2
    have HN3 := Lib.hid (HN2.out.trans g3)
    clear c0 c1 c2 c3
    have c0 := hcell (j := 0) hp3
    have c1 := hcell (j := 1) hp3
    have c2 := hcell (j := 2) hp3
    have c3 := hcell (j := 3) hp3
    have hsl := hlt hp3
    have hsl2 := hlt hq3
    by_cases hm : b2 = 0
    · have d2 : (b2 != 0) = false := by simpa using hm
      have hR := HXx.out.symm.trans (HLv.out hs hm)
      subst hR
      have hs1 : w.heap.size + 1 < w3.heap.size := hsl2
      have HQ1 := Lib.hid hq3
      clear hs hm HLv HAb HXx HOk HOC HOU HCp hp1 hp2 hq1 hq2 hp3 hq3 g1 g2 g3
      go_wp2_with fail
      refine (HWo.out _ HN3.out).mono ?_
      rintro e w4 ⟨v2, rfl, g4, hO⟩
      have hq4 := g4.at' HQ1.out
      obtain ⟨a2, k2, hv2⟩ := (RqOwn.rd hO).form
      have HO := Lib.hid hO
      have HN4 := Lib.hid (HN3.out.trans g4)
      obtain ⟨n2, hn2⟩ : ∃ n, (q.take k ++ q.drop (k + 1)).length = n := ⟨_, rfl⟩
      rw [hn2] at hv2
      subst hv2
      have d0 := hcell (j := 0) hq4
      have d1 := hcell (j := 1) hq4
      have d2 := hcell (j := 2) hq4
      have d3 := hcell (j := 3) hq4
      have fz := fun k => hfz (j := k) hq4
      have hsl3 := hlt hq4
      clear hO g4 hq4 hn2 HWo HQ1
      go_wp2
      refine bodyPost_ret (v := .tuple #[.agg #[.int .i64 t, .int .i64 r, .slice a2 n2 k2, .int .i64 W], .int .i64 0]) (by simp [results, Try.results27, go_sem, *]) rfl ⟨_, rfl, fill_nw HN4.out (Nat.le_succ _) _ _ _ _, (fill_own HO.out (by omega) _ _ _ _).rd, HO.out.cap⟩
    · have d2 : (b2 != 0) = true := by simpa using hm
      have hR := HXx.out.symm.trans (HAb.out hs hm)
      subst hR
      have hs1 : w.heap.size + 1 < w3.heap.size := hsl2
      have HQ1 := Lib.hid hq3
      clear hs hm HLv HAb HXx HOk HWo hp1 hp2 hq1 hq2 hp3 hq3 g1 g2 g3 e0 e1 e2 e3 e4
      go_wp2_with fail
      refine (HCp.out _ HN3.out).mono ?_
      rintro e w4 ⟨v1, rfl, g4, hO⟩
      rcases oform hO with ⟨_, q0⟩ | ⟨g, cap, rfl⟩
      · omega
      have hq4 := g4.at' HQ1.out
      have hg0 := oge hO (g := g) rfl
      have hgl := olt hO (g := g) rfl
      have hal := allocAt w4 (.cells #[.int .i64 t, .int .i64 r, .slice (some ⟨g, 0, none⟩) q.length cap, .int .i64 W] 27)
      have hNa : Nw w4 (w4.alloc (.cells #[.int .i64 t, .int .i64 r, .slice (some ⟨g, 0, none⟩) q.length cap, .int .i64 W] 27)) := (Nw.refl w4).alloc _
      have HNy := Lib.hid (HN3.out.trans (g4.trans hNa))
      have hOy := onw hO hNa
      have hqy := hNa.at' hq4
      have hs4 := g4.sz
      obtain ⟨pb, hpb⟩ : ∃ pb, w4.heap.size = pb := ⟨_, rfl⟩
      rw [hpb] at hal hgl
      clear hO
      go_wp2_with fail
      try rw [hpb]
      have hpl4 : w4.heap.size = pb := hpb
      generalize w4.alloc (.cells #[.int .i64 t, .int .i64 r, .slice (some ⟨g, 0, none⟩) q.length cap, .int .i64 W] 27) = y at *
      have hpc : ∀ j, y.cell? ⟨pb, j, none⟩ = _ := fun j => hcell (j := j) hal
      have p0 := hpc 0
      have p1 := hpc 1
      have p2 := hpc 2
      have p3 := hpc 3
      have pz := fun j => hfz (j := j) hal
      have r2 := HOC.out _ _ _ _ hOy 2 _ rfl
      have r3 := HOC.out _ _ _ _ hOy 3 _ rfl
      have r4 := HOC.out _ _ _ _ hOy 4 _ rfl
      have rz := own_frz hOy rfl
      have hU := HOU.out _ _ _ _ b2 b3 hOy rfl
      have d0 := hcell (j := 0) hqy
      have d1 := hcell (j := 1) hqy
      have d2 := hcell (j := 2) hqy
      have d3 := hcell (j := 3) hqy
      have fz := fun k => hfz (j := k) hqy
      have n1 : ¬ (w.heap.size + 1 = g) := by omega
      have n2 : ¬ (g = w.heap.size + 1) := by omega
      have n3 : ¬ (pb = g) := by omega
      have n4 : ¬ (g = pb) := by omega
      have hgw : w.heap.size ≤ g := by omega
      have hrb : w.heap.size + 1 < w3.heap.size := hs1
      have HU := Lib.hid hU
      have HG := Lib.hid (And.intro hgw hrb)
      clear hU hpc hOy hal hqy hNa g4 hq4 hgw hrb HCp HOC HOU HQ1 hg0 hgl hpb hpl4 hs4 hs1 hsl hsl2 c0 c1 c2 c3
      obtain ⟨y0, hy0⟩ : ∃ y0, y.drew = y0 := ⟨_, rfl⟩
      obtain ⟨S, hSe⟩ : ∃ S : World → Prop, S = fun x => x = y0 ∨ x = y0.setCell ⟨g, k * 5 + 3, none⟩ (.int .i64 b2) ∨ x = (y0.setCell ⟨g, k * 5 + 3, none⟩ (.int .i64 b2)).setCell ⟨g, k * 5 + 4, none⟩ (.int .i64 0) := ⟨_, rfl⟩
      have s0 : y0.cell? ⟨pb, 0, none⟩ = some (.int .i64 t) := by subst hy0; exact p0
      have s1 : y0.cell? ⟨pb, 1, none⟩ = some (.int .i64 r) := by subst hy0; exact p1
      have s2 : y0.cell? ⟨pb, 2, none⟩ = some (.slice (some ⟨g, 0, none⟩) q.length cap) := by subst hy0; exact p2
      have s3 : y0.cell? ⟨pb, 3, none⟩ = some (.int .i64 W) := by subst hy0; exact p3
      have s4 : y0.cell? ⟨g, k * 5 + 2, none⟩ = some (.int .i64 b2) := by subst hy0; exact r2
      have s5 : y0.cell? ⟨g, k * 5 + 3, none⟩ = some (.int .i64 b3) := by subst hy0; exact r3
      have s6 : y0.cell? ⟨g, k * 5 + 4, none⟩ = some (.int .i64 b4) := by subst hy0; exact r4
      have s7 : ∀ j, y0.frozen? ⟨g, j, none⟩ = false := by subst hy0; exact rz
      have s8 : ∀ j, y0.cell? ⟨w.heap.size + 1, j, none⟩ = _ := fun j => (by subst hy0; rfl : y0.cell? ⟨w.heap.size + 1, j, none⟩ = y.cell? ⟨w.heap.size + 1, j, none⟩)
      have t0 : ∀ x, Hs S x → x.cell? ⟨pb, 0, none⟩ = some (.int .i64 t) := fun x h => by subst hSe; rcases h with rfl | rfl | rfl <;> simp [go_sem, n3, n4, s0]
      have t1 : ∀ x, Hs S x → x.cell? ⟨pb, 1, none⟩ = some (.int .i64 r) := fun x h => by subst hSe; rcases h with rfl | rfl | rfl <;> simp [go_sem, n3, n4, s1]
      have t2 : ∀ x, Hs S x → x.cell? ⟨pb, 2, none⟩ = some (.slice (some ⟨g, 0, none⟩) q.length cap) := fun x h => by subst hSe; rcases h with rfl | rfl | rfl <;> simp [go_sem, n3, n4, s2]
      have t3 : ∀ x, Hs S x → x.cell? ⟨pb, 3, none⟩ = some (.int .i64 W) := fun x h => by subst hSe; rcases h with rfl | rfl | rfl <;> simp [go_sem, n3, n4, s3]
      have t4 : ∀ x, Hs S x → x.cell? ⟨g, k * 5 + 2, none⟩ = some (.int .i64 b2) := fun x h => by subst hSe; rcases h with rfl | rfl | rfl <;> simp [go_sem, s4]
      have hS0 : Hs S y.drew := by rw [hy0, hSe]; exact .inl rfl
      have hS1 : Hs S (y0.setCell ⟨g, k * 5 + 3, none⟩ (.int .i64 b2)) := by rw [hSe]; exact .inr (.inl rfl)
      have hS2 : Hs S ((y0.setCell ⟨g, k * 5 + 3, none⟩ (.int .i64 b2)).setCell ⟨g, k * 5 + 4, none⟩ (.int .i64 0)) := by rw [hSe]; exact .inr (.inr rfl)
      clear hSe
      refine region_plan (.take (.take (.take (.take (.take (.take (.take (.take (.take (.take (.take (.take (.take (.take (.off (.go1 (.take (.take (.off (.go1 .fin)))))))))))))))))))) (Hs S) (by kernel_rfl) (by kernel_rfl) (by kernel_rfl) hS0 ?_
      rw [hy0]
      iterate 14 (refine HP.take' ?_; (first | (refine ⟨undef, Or.inr ⟨by rfl, rfl⟩, ?_⟩) | (apply Exists.intro; refine ⟨Or.inl ⟨by rfl, ?_⟩, ?_⟩; (intro x hx'; go_simp; first | done | with_reducible rfl))); (try simp only [Act.put, List.setIfInBounds_toArray, List.set_cons_zero, List.set_cons_succ]))
      refine HP.off ?_
      refine HP.go1 (fun KK hKK => ?_)
      go_simp
      refine hKK.out _ _ hS1 ?_
      intro _
      clear hKK KK
      (try simp only [Act.put, List.setIfInBounds_toArray, List.set_cons_zero, List.set_cons_succ])
      iterate 2 (refine HP.take' ?_; (first | (refine ⟨undef, Or.inr ⟨by rfl, rfl⟩, ?_⟩) | (apply Exists.intro; refine ⟨Or.inl ⟨by rfl, ?_⟩, ?_⟩; (intro x hx'; go_simp; first | done | with_reducible rfl))); (try simp only [Act.put, List.setIfInBounds_toArray, List.set_cons_zero, List.set_cons_succ]))
      refine HP.off ?_
      refine HP.go1 (fun KK hKK => ?_)
      go_simp
      refine hKK.out _ _ hS2 ?_
      intro _
      clear hKK KK
      (try simp only [Act.put, List.setIfInBounds_toArray, List.set_cons_zero, List.set_cons_succ])
      refine HP.end_ ?_
      refine NoPanic.normal ?_
      subst hy0
      clear hS0 hS1 hS2 t0 t1 t2 t3 t4 s0 s1 s2 s3 s4 s5 s6 s7 s8
      go_wp2
      refine bodyPost_ret (v := .tuple #[.agg #[.int .i64 t, .int .i64 r, .slice (some ⟨g, 0, none⟩) q.length cap, .int .i64 W], .int .i64 0]) (by simp [results, Try.results27, go_sem, *]) rfl ⟨_, rfl, (fill_nw ((HNy.out.st HG.out.1 _).st HG.out.1 _) (Nat.le_succ _) _ _ _ _).dr, ?_, ?_⟩
      · have := (fill_own HU.out HG.out.2 (.int .i64 t) (.int .i64 r) (.slice (some ⟨g, 0, none⟩) q.length cap) (.int .i64 W)).rd.nw (Nw.refl _).dr
        exact this
      · exact HU.out.cap
end Go.Proofs.Ytmciiobncfchlaa
