
/- Complete. -/
import Derived.Test.YtekjmgdockfaiaaDoorHsQ
import Derived.Test.YtekjmgdockfaiaaDoorHsU
namespace Go.Proofs.YtekjmgdockfaiaaDoor
open Go.RowKit
set_option linter.unusedVariables false      -- a contract need not use every name

theorem erows_len : ∀ l : List Ev, (l.flatMap erow).length = l.length * 9
  | [] => rfl
  | s :: r => by
    show (erow s ++ r.flatMap erow).length = _
    rw [List.length_append, erows_len r, erow_len, List.length_cons]; omega
theorem ERow.many {w : World} {g0 : Nat} {v : Value} {l : List Ev} (h : ERow w g0 v l) (sg : List Ev) (a : Addr) (c : Nat) (hc : ∀ j u, (sg.flatMap erow)[j]? = some u → w.cell? (a.add j) = some u) (hsm : l.length + sg.length ≤ 10000) (hg0 : g0 ≤ w.heap.size) :
    ∃ v' w1, (Builtin.append_ #[23, 23] 23 #[v, .slice (some a) sg.length c]).run Tryd.prog w = .ok v' w1 ∧ ERow w1 g0 v' (l ++ sg) ∧ w.grownBy w1 v.ownBlock := by
  obtain ⟨i0, hi, hz0, hz1, hz2⟩ := info_parts infoE
  obtain ⟨v', w1, hrun, ho, hg, _⟩ := run_append_fresh (P := Tryd.prog) w g0 23 23 31 i0 _ 9 72 Tryd.underlying23 hi hz0 hz1 hz2 rfl (by decide) v l.length _ h
    a sg.length c (sg.flatMap erow) (erows_len sg) hc (by
      intro u hu
      obtain ⟨e, _, hu⟩ := List.mem_flatMap.1 hu
      exact erow_one e u hu) (by unfold maxLen; omega) (by omega) hg0
  refine ⟨v', w1, hrun, ?_, hg⟩
  unfold ERow
  rw [List.length_append, List.flatMap_append]
  exact ho
theorem rows_of {w : World} {b o : Nat} {l : List Ev} (h : ECells w b o l) (nx m : Nat) : ∀ j u, (((l.drop nx).take m).flatMap erow)[j]? = some u → w.cell? ((⟨b, o + nx * 9, none⟩ : Addr).add j) = some u := by
  intro j u hu
  have hj := (List.getElem?_eq_some_iff.1 hu).1
  rw [erows_len] at hj
  have hq : j / 9 < ((l.drop nx).take m).length := by omega
  have e : j = j / 9 * 9 + j % 9 := by omega
  rw [e, erows_at _ (j / 9) (j % 9) hq (by omega)] at hu
  simp only [List.length_take, List.length_drop] at hq
  simp only [List.getElem_take, List.getElem_drop] at hu
  have := h.2 (nx + j / 9) (by omega) (j % 9) u hu
  rw [Addr.add_lit]
  rw [show o + nx * 9 + j = o + (nx + j / 9) * 9 + j % 9 by omega]
  exact this
set_option maxRecDepth 100000 in
set_option maxHeartbeats 1000000 in
theorem complete_rows (b o c : Nat) (l : List Ev) (S Pd : List Sp) (w : World) (hl : l.length ≤ 900) (hcap : l.length ≤ c) (h : ECells w b o l) (cut : Cut l S Pd) (hm : Pd.length ≤ 900)
    (HP : Hid (Calls Tryd.prog 19 #[.slice (some ⟨b, o, none⟩) l.length c] w fun e w' => ∃ v', e = .returned v' ∧ Nw w w' ∧ SpAt w' v' Pd)) :
    Calls Tryd.prog 11 #[.slice (some ⟨b, o, none⟩) l.length c] w fun e w' => ∃ v', e = .returned v' ∧ Nw w w' ∧ EvAt w' v' (keepE (doneC S) l) := by
  have H := Lib.hid h
  have HCt := Lib.hid cut
  clear h cut
  go_enter Tryd.func11, Tryd.ntmps11
  go_wp2_with (go_at_call 19; refine HP.out.mono ?_; rintro e w1 ⟨v1, rfl, g1, ⟨a, c1, rfl, hr⟩⟩)
  have H1 := Lib.hid hr
  have G1 := Lib.hid g1
  clear hr g1
  go_loopw [3, 4, 10] (fun u x i wr => ∃ j nx : Nat, j ≤ Pd.length ∧ i = .int .i64 j ∧ x = .int .i64 nx ∧ nx ≤ l.length ∧ (∀ m (hm : m < Pd.length), m < j → (Pd[m]).fr < nx) ∧ (∀ m (hm : m < Pd.length), j ≤ m → (nx : Int) ≤ (Pd[m]).fr) ∧ ERow wr w1.heap.size u (keepE (doneC S) (l.take nx)) ∧ Nw w1 wr) (fun _ _ i _ => Pd.length - (intOf i).toNat)
  case atStart => exact ⟨0, 0, Nat.zero_le _, rfl, rfl, Nat.zero_le _, fun _ _ h => by omega, fun m hm _ => (HCt.out.fr _ (List.getElem_mem hm)).1, World.ownsRow_nil _ _ _ _, Nw.refl _⟩
  case round =>
    obtain ⟨j, nx, hj, rfl, rfl, hnl, hlo, hhi, hR, hN⟩ := hrel
    have hGw := G1.out.trans hN
    have hkl : (keepE (doneC S) (l.take nx)).length ≤ 900 := Nat.le_trans (List.length_filter_le _ _) (by simp; omega)
    by_cases hlt : j < Pd.length
    · obtain ⟨b3, o3, ha3, hc3⟩ : ∃ b o, a = some ⟨b, o, none⟩ ∧ SCells w1 b o Pd := by
        rcases H1.out with q | q
        · rw [q] at hlt; simp at hlt
        · exact q
      subst ha3
      have hse := (hc3.nw hN).2 j hlt
      have hb3 := (hc3.nw hN).1
      have hfr := HCt.out.fr _ (List.getElem_mem hlt)
      have hnf := hhi j hlt (Nat.le_refl _)
      have his := HCt.out.is _ (List.getElem_mem hlt)
      have hbt := HCt.out.between hlo (Pd[j]).fr.toNat (fun m hm hjm => by
        have : (Pd[j]).fr ≤ (Pd[m]).fr := by
          rcases Nat.lt_or_eq_of_le hjm with r | r
          · have := List.pairwise_iff_getElem.1 HCt.out.rise j m hlt hm r; omega
          · subst r; omega
        omega)
      have hlo2 : ∀ m (hm : m < Pd.length), m < j + 1 → (Pd[m]).fr < ((Pd[j]).fr.toNat + 1 : Nat) := fun m hm hmj => by
        rcases Nat.lt_or_eq_of_le (Nat.le_of_lt_succ hmj) with r | r
        · have := List.pairwise_iff_getElem.1 HCt.out.rise m j hm hlt r; omega
        · subst r; omega
      have hhi2 : ∀ m (hm : m < Pd.length), j + 1 ≤ m → (((Pd[j]).fr.toNat + 1 : Nat) : Int) ≤ (Pd[m]).fr := fun m hm hmj => by
        have := List.pairwise_iff_getElem.1 HCt.out.rise j m hlt hm (by omega); omega
      obtain ⟨f, hf⟩ : ∃ f : Nat, (Pd[j]).fr = f := ⟨(Pd[j]).fr.toNat, by omega⟩
      rw [hf] at hfr hnf
      rw [hf, Int.toNat_natCast] at his hbt hlo2 hhi2
      have hfl : f < l.length := by omega
      have hnf' : nx ≤ f := by omega
      have hsg := seg (P := doneC S) l nx (f - nx) (by omega) (fun i hi h1 h2 => hbt i hi h1 (by omega))
      rw [show nx + (f - nx) = f by omega] at hsg
      have hsk := seg_skip (P := doneC S) l f hfl (his hfl)
      rw [hsg] at hsk
      have hsl : ((l.drop nx).take (f - nx)).length = f - nx := by simp; omega
      generalize hPs : Pd[j] = s at *
      have c0 := hse 0 _ rfl
      have c1' := hse 1 _ rfl
      have c2 := hse 2 _ rfl
      have c3 := hse 3 _ rfl
      have c4 := hse 4 _ rfl
      have c5 := hse 5 _ rfl
      have c6 := hse 6 _ rfl
      have c7 := hse 7 _ rfl
      have c8 := hse 8 _ rfl
      have c9 := hse 9 _ rfl
      rw [hf] at c2
      simp only [Nat.add_zero] at c0
      have hgrow : Nw wr (wr.alloc (.cells #[.int .i64 s.call, .int .i64 s.thread, .int .i64 (f : Int), .int .i64 s.to, .int .i64 s.act.kind, .int .i64 s.act.txn, .int .i64 s.act.tab, .int .i64 s.act.rcd, .int .i64 s.act.mode, .int .i64 s.act.code] 45)) := (Nw.refl wr).alloc _
      obtain ⟨v', w2, hrun, hR2, hG2⟩ := ERow.many (own_keep hR (hgrow.grownBy none) (fun _ _ => by simp)) ((l.drop nx).take (f - nx)) ⟨b, o + nx * 9, none⟩ (c - nx) (rows_of (H.out.nw (hGw.trans hgrow)) nx (f - nx)) (by rw [hsl]; omega) (Nat.le_trans hN.sz hgrow.sz)
      rw [hsl] at hrun
      rw [← hsk] at hR2
      have hN2 : Nw w1 w2 := Below.grown (hN.trans hgrow) hG2 (Nat.le_trans hN.sz hgrow.sz) (fun k hk => own_ge hR hk)
      have cq : w2.cell? ⟨wr.heap.size, 2, none⟩ = some (.int .i64 (f : Int)) := by
        have hx := alloc_at wr #[.int .i64 s.call, .int .i64 s.thread, .int .i64 (f : Int), .int .i64 s.to, .int .i64 s.act.kind, .int .i64 s.act.txn, .int .i64 s.act.tab, .int .i64 s.act.rcd, .int .i64 s.act.mode, .int .i64 s.act.code] 45
        exact heap_cell ((hG2.block wr.heap.size (heap_lt hx) (fun q => by have := own_lt hR q.symm; omega)).trans hx)
      have hq2 : wr.heap.size < w2.heap.size := Nat.lt_of_lt_of_le (by simp) hG2.size
      obtain ⟨ua, uc, hu⟩ : ∃ a c, u3 = .slice a (keepE (doneC S) (l.take nx)).length c := by
        obtain ⟨a, c, q, _⟩ := hR.at
        exact ⟨a, c, q⟩
      obtain ⟨va, vc, hv⟩ : ∃ a c, v' = .slice a (keepE (doneC S) (l.take (f + 1))).length c := by
        obtain ⟨a, c, q, _⟩ := hR2.at
        exact ⟨a, c, q⟩
      subst hu hv
      have HR := Lib.hid hrun
      have HX := Lib.hid (And.intro hR2 (And.intro hN2 (And.intro hlo2 hhi2)))
      have e0 : ¬ c = nx := by omega
      have e1 : f ≤ c := by omega
      have e2 : (nx : Int) ≤ (f : Int) := by omega
      have e3 : (f : Int) ≤ (c : Int) := by omega
      have e4 : ((f : Int) - (nx : Int)).toNat = f - nx := by omega
      generalize hNN : (keepE (doneC S) (l.take (f + 1))).length = N at *
      generalize hNM : (keepE (doneC S) (l.take nx)).length = M at *
      clear hse hR hN hrun hR2 hG2 hN2 hlo hhi hlo2 hhi2 hGw hc3 hsg hsk hbt his hgrow hsl hkl hnf hfr
      go_wp2_with (at_builtin; refine wpList_append_run rfl (.tmp 14) (.tmp 19) 23 rfl _ _ _ _ rfl rfl HR.out ?_)
      go_roundw
      case rel => exact ⟨j + 1, f + 1, by omega, by go_num, by go_num, by omega, HX.out.2.2.1, HX.out.2.2.2, HX.out.1, HX.out.2.1⟩
      case measure => simp [intOf]; omega
    · have hje : j = Pd.length := by omega
      subst hje
      have hbt := HCt.out.between hlo l.length (fun m hm hjm => by omega)
      have hsg := seg (P := doneC S) l nx (l.length - nx) (by omega) (fun i hi h1 h2 => hbt i hi h1 (by omega))
      rw [show nx + (l.length - nx) = l.length by omega, List.take_length] at hsg
      have hsl : ((l.drop nx).take (l.length - nx)).length = l.length - nx := by simp
      obtain ⟨ad, had, hadc⟩ : ∃ ad : Addr, (if c = nx then (⟨b, o, none⟩ : Addr) else ⟨b, o + nx * 9, none⟩) = ad ∧ ∀ j u, (((l.drop nx).take (l.length - nx)).flatMap erow)[j]? = some u → wr.cell? (ad.add j) = some u := by
        by_cases q : c = nx
        · refine ⟨_, if_pos q, fun j u hu => ?_⟩
          have : (l.drop nx).take (l.length - nx) = [] := List.length_eq_zero_iff.1 (by rw [hsl]; omega)
          rw [this] at hu
          simp at hu
        · exact ⟨_, if_neg q, rows_of (H.out.nw hGw) nx (l.length - nx)⟩
      obtain ⟨v', w2, hrun, hR2, hG2⟩ := ERow.many hR ((l.drop nx).take (l.length - nx)) ad (c - nx) hadc (by rw [hsl]; omega) hN.sz
      rw [hsl] at hrun
      rw [← hsg] at hR2
      have hN2 : Nw w1 w2 := Below.grown hN hG2 hN.sz (fun k hk => own_ge hR hk)
      obtain ⟨ua, uc, hu⟩ : ∃ a c, u3 = .slice a (keepE (doneC S) (l.take nx)).length c := by
        obtain ⟨a, c, q, _⟩ := hR.at
        exact ⟨a, c, q⟩
      subst hu
      have HR := Lib.hid hrun
      have HX := Lib.hid (And.intro hR2 hN2)
      have e1 : nx ≤ c := by omega
      have e2 : (nx : Int) ≤ (l.length : Int) := by omega
      have e3 : (l.length : Int) ≤ (c : Int) := by omega
      have e4 : ((l.length : Int) - (nx : Int)).toNat = l.length - nx := by omega
      generalize hNM : (keepE (doneC S) (l.take nx)).length = M at *
      clear hR hN hrun hR2 hG2 hN2 hlo hhi hGw hsg hbt hsl hadc hkl
      by_cases q : c = nx
      · rw [if_pos q] at had
        subst had
        go_wp2_with (at_builtin; refine wpList_append_run rfl (.tmp 25) (.tmp 28) 23 rfl _ _ _ _ rfl (by first | rfl | simp [q, Act.eval]) HR.out ?_)
        go_ret
        exact ⟨_, rfl, G1.out.trans HX.out.2, HX.out.1.at⟩
      · rw [if_neg q] at had
        subst had
        go_wp2_with (at_builtin; refine wpList_append_run rfl (.tmp 25) (.tmp 28) 23 rfl _ _ _ _ rfl rfl HR.out ?_)
        go_ret
        exact ⟨_, rfl, G1.out.trans HX.out.2, HX.out.1.at⟩
end Go.Proofs.YtekjmgdockfaiaaDoor
