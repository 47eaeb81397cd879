
/- HistorySpans: the walk. -/
import Derived.Test.YtekjmgdockfaiaaHsX
import Derived.Test.YtekjmgdockfaiaaHsT
namespace Go.Proofs.Ytekjmgdockfaiaa.historySpans
open Go.RowKit
set_option linter.unusedVariables false      -- a contract need not use every name

/-- What the law asks of each span. -/
structure Fits (l : List Ev) (S : List Sp) : Prop where
  fr : ∀ s ∈ S, ∃ f : Nat, s.fr = f ∧ ∃ h : f < l.length, l[f] = begOf s
  to : ∀ s ∈ S, s.to < 0 ∨ ∃ t : Nat, s.to = t ∧ s.fr < t ∧ ∃ h : t < l.length, l[t] = endOf s
  rise : ∀ i j (hi : i < S.length) (hj : j < S.length), i < j → (S[i]).fr < (S[j]).fr
  apart : ∀ i j (hi : i < S.length) (hj : j < S.length), i < j → (S[i]).thread = (S[j]).thread → befS S[i] S[j] = true
  cnt : S.length + (S.filter fun s => decide (0 ≤ s.to)).length = l.length
theorem at_some {α : Type} {l : List α} {i : Nat} {x : α} (h : l[i]? = some x) : ∃ h : i < l.length, l[i] = x := List.getElem?_eq_some_iff.1 h
theorem fits_of {l : List Ev} {S : List Sp} (h : (trk l 0 []).2.2 = 0) (hS : (trk l 0 []).1 = S) : Fits l S := by
  have hg := Good.trk l 0 [] Good.nil h
  have ht := Told.trk l [] [] Told.nil Good.nil h
  simp only [List.nil_append, List.length_nil, Nat.zero_add] at ht hg
  rw [hS] at hg ht
  refine ⟨fun s hs => ?_, fun s hs => ?_, fun i j hi hj hij => List.pairwise_iff_getElem.1 hg.rise i j hi hj hij, fun i j hi hj hij he => ?_, ht.cnt⟩
  · have := hg.fr s hs
    exact ⟨s.fr.toNat, by omega, at_some (ht.beg s hs)⟩
  · by_cases q : s.to < 0
    · exact .inl q
    · have := hg.to s hs
      exact .inr ⟨s.to.toNat, by omega, by omega, at_some (ht.ends s hs (by omega))⟩
  · have := List.pairwise_iff_getElem.1 hg.apart i j hi hj hij he
    unfold befS
    simp; omega
theorem pend_len : ∀ S : List Sp, (pendL S).length = S.length - (S.filter fun s => decide (0 ≤ s.to)).length
  | [] => rfl
  | s :: r => by
    have ih := pend_len r
    have hle : (r.filter fun s => decide (0 ≤ s.to)).length ≤ r.length := List.length_filter_le _ _
    simp only [pendL, List.filter_cons] at ih ⊢
    by_cases q : decide (0 ≤ s.to) = true
    · rw [if_pos q, if_neg (by unfold endB; rw [q]; simp), ih]
      simp only [List.length_cons]; omega
    · rw [if_neg q, if_pos (by unfold endB; simpa using q)]
      simp only [List.length_cons, ih]; omega
theorem cnt_snoc (S : List Sp) {k : Nat} (hk : k < S.length) : ((S.take (k + 1)).filter fun s => decide (0 ≤ s.to)).length = ((S.take k).filter fun s => decide (0 ≤ s.to)).length + (if 0 ≤ (S[k]).to then 1 else 0) := by
  rw [List.take_add_one, List.getElem?_eq_getElem hk, List.filter_append, List.length_append]
  congr 1
  simp only [Option.toList_some, List.filter_cons, List.filter_nil]
  by_cases q : 0 ≤ (S[k]).to
  · rw [if_pos q, if_pos (by simpa using q)]; rfl
  · rw [if_neg q, if_neg (by simpa using q)]; rfl
/-- What the loop over the spans keeps. -/
def Rd (w3 wr : World) (S : List Sp) (k : Nat) (n : Int) : Prop := n = (((S.take k).filter fun s => decide (0 ≤ s.to)).length : Int) ∧ Nw w3 wr
set_option maxRecDepth 100000 in
set_option maxHeartbeats 1000000 in
theorem walk_long (a0 : Option Addr) (n0 c0 : Nat) (w : World) (h : 60 < n0) :
    Calls Try.prog 3 #[.slice a0 n0 c0] w fun e w' => e = .returned (.bool true) ∧ Nw w w' := by
  have k0 : (60 : Int) < (n0 : Int) := by omega
  go_enter Try.func3, Try.ntmps3
  go_wp2_with fail
  refine (lives_ok _).mono ?_
  rintro e wl ⟨rfl, g0⟩
  go_wp2
  go_ret
  exact ⟨rfl, g0⟩

set_option maxRecDepth 100000 in
set_option maxHeartbeats 16000000 in
theorem walk (a0 : Option Addr) (cp0 : Nat) (l : List Ev) (w : World) (hl : l.length ≤ 60) (hcap : l.length ≤ cp0) (hfit : ∀ e ∈ l, fitE e) (h : EvAt w (.slice a0 l.length cp0) l) (hx : (trk l 0 []).2.2 = 0) :
    Calls Try.prog 3 #[.slice a0 l.length cp0] w fun e w' => e = .returned (.bool true) ∧ Nw w w' := by
  have HF := Lib.hid hfit
  have H0 := Lib.hid h
  have HX := Lib.hid hx
  have hSl := historyThreads.trk_len l 0 []
  simp only [List.length_nil, Nat.zero_add] at hSl
  have HC := Lib.hid (fun (w1 : World) (g : Nw w w1) => check_any _ l w1 (by omega) hfit (h.nw g))
  have HS := Lib.hid (fun (w1 : World) (g : Nw w w1) => spans_any _ l w1 (by omega) hfit (h.nw g))
  have HP := Lib.hid (fun (w1 : World) (g : Nw w w1) => pending_any _ l w1 (by omega) hfit (h.nw g) (by omega))
  have k0 : ¬ (60 : Int) < (l.length : Int) := by omega
  rw [hx, trk_at0 l 0 [] hx] at HC
  obtain ⟨S, hS⟩ : ∃ S, (trk l 0 []).1 = S := ⟨_, rfl⟩
  have HCm := Lib.hid (fun (w1 : World) (g : Nw w w1) => complete_any a0 cp0 l w1 (by omega) hcap hfit (h.nw g) hx hS (by rw [← hS]; omega))
  have HFt := Lib.hid (fits_of hx hS)
  have HDn := Lib.hid (done_right hx hS)
  rw [hS] at HS HP hSl
  clear hx hfit hS h
  go_enter Try.func3, Try.ntmps3
  go_wp2_with fail
  refine (lives_ok _).mono ?_
  rintro e wl ⟨rfl, g0⟩
  go_wp2_with fail
  refine (HC.out wl g0).mono ?_
  rintro e w1 ⟨rfl, g1⟩
  have g01 := g0.trans g1
  go_wp2_with fail
  refine (HS.out w1 g01).mono ?_
  rintro e w3 ⟨v3, rfl, g3, hR3⟩
  have hA3 := hR3.at
  obtain ⟨a3, c3, hv3, hr3⟩ := hA3
  have G3 := Lib.hid (g01.trans g3)
  have R3 := Lib.hid hr3
  subst hv3
  clear g0 g1 g01 g3 hR3 hr3 HC HS
  go_wp2
  go_loopw [8, 9] (fun n i wr => ∃ (k : Nat) (N : Int), k ≤ S.length ∧ i = .int .i64 k ∧ n = .int .i64 N ∧ Rd w3 wr S k N) (fun _ i _ => S.length - (intOf i).toNat)
  case atStart => exact ⟨0, 0, Nat.zero_le _, rfl, rfl, rfl, Nw.refl _⟩
  case round =>
    obtain ⟨k, N, hk, rfl, rfl, rfl, hN⟩ := hrel
    by_cases hlt : k < S.length
    · obtain ⟨b3, o3, ha3, hc3⟩ : ∃ b o, a3 = some ⟨b, o, none⟩ ∧ SCells w3 b o S := by
        rcases R3.out with q | q
        · rw [q] at hlt; simp at hlt
        · exact q
      subst ha3
      obtain ⟨f, hf, hfl, hfe⟩ := HFt.out.fr _ (List.getElem_mem hlt)
      obtain ⟨b, o, ha, hc⟩ : ∃ b o, a0 = some ⟨b, o, none⟩ ∧ ECells w b o l := by
        obtain ⟨a, c, q, q2⟩ := H0.out
        simp only [Value.slice.injEq] at q
        obtain ⟨rfl, _, _⟩ := q
        rcases q2 with q2 | q2
        · rw [q2] at hfl; simp at hfl
        · exact q2
      subst ha
      have hGw : Nw w wr := G3.out.trans hN
      have hse := (hc3.nw hN).2 k hlt
      have hb3 := (hc3.nw hN).1
      have hee := (hc.nw hGw).2 f hfl
      have hbe := (hc.nw hGw).1
      have hGe := hGw
      obtain ⟨s, hsk⟩ : ∃ s, S[k] = s := ⟨_, rfl⟩
      rw [hfe] at hee
      rw [hsk] at hse hf hee
      obtain ⟨x0, x1, x2, x3, ⟨x4, x5, x6, x7, x8, x9⟩⟩ := s
      simp only at hf
      subst hf
      have s0 := hse 0 _ rfl
      have s1 := hse 1 _ rfl
      have s2 := hse 2 _ rfl
      have s3 := hse 3 _ rfl
      have s4 := hse 4 _ rfl
      have s5 := hse 5 _ rfl
      have s6 := hse 6 _ rfl
      have s7 := hse 7 _ rfl
      have s8 := hse 8 _ rfl
      have s9 := hse 9 _ rfl
      simp only [Nat.add_zero] at s0
      have e0 := hee 0 _ rfl
      have e1 := hee 1 _ rfl
      have e2 := hee 2 _ rfl
      simp only [begOf] at e0 e1 e2
      simp only [Nat.add_zero] at e0
      clear hfe
      have i1 : ¬ ((l.length : Int) ≤ (f : Int)) := by omega
      have i2 : decide (l.length ≤ f) = false := by simp; omega
      have i3 : (0 : Int) ≤ (f : Int) := by omega
      have i4 : (f : Int) < (l.length : Int) := by omega
      have i5 : (0 : Int) ≤ (k : Int) := by omega
      have i6 : (k : Int) < (S.length : Int) := by omega
      have i7 : (x0 != x0) = false := by simp
      have i8 : (x1 != x1) = false := by simp
      have i9 : ¬ ((f : Int) < 0) := by omega
      have i9b : decide ((f : Int) < 0) = false := by first | (simp; done) | (simp; omega)
      by_cases hto : 0 ≤ x3
      · by_cases hk0 : k = 0
        ·
          subst hk0
          simp only [Nat.zero_mul, Nat.add_zero] at s0 s1 s2 s3 s4 s5 s6 s7 s8 s9
          obtain ⟨t, ht0, htf, htl, hte⟩ := (HFt.out.to _ (List.getElem_mem hlt)).resolve_left (by rw [hsk]; simp only; omega)
          rw [hsk] at ht0 htf hte
          simp only at ht0 htf hte
          subst ht0
          have hle := (hc.nw hGw).2 t htl
          rw [hte] at hle
          have t0 := hle 0 _ rfl
          have t2 := hle 2 _ rfl
          have t8 := hle 8 _ rfl
          simp only [endOf] at t0 t2 t8
          simp only [Nat.add_zero] at t0
          have u0 : ¬ ((t : Int) ≤ (f : Int)) := by omega
          have u1 : decide (t ≤ f) = false := by first | (simp; done) | (simp; omega)
          have u2 : ¬ ((l.length : Int) ≤ (t : Int)) := by omega
          have u3 : decide (l.length ≤ t) = false := by first | (simp; done) | (simp; omega)
          have u4 : (0 : Int) ≤ (t : Int) := by omega
          have u5 : (t : Int) < (l.length : Int) := by omega
          have u6 : (x9 != x9) = false := by simp
          have u7 : decide ((0 : Int) ≤ (t : Int)) = true := by simp
          have hcs := cnt_snoc S hlt
          rw [hsk] at hcs
          simp only at hcs
          rw [if_pos (by omega)] at hcs
          have HCs := Lib.hid hcs
          have HN := Lib.hid hN
          have HSk := Lib.hid hsk
          have HC3 := Lib.hid hc3
          have HGw := Lib.hid hGw
          clear hcs hN hsk hc3 hGw hc hse hee hGe
          obtain ⟨CN, hCN⟩ : ∃ CN, ((S.take 0).filter fun s => decide (0 ≤ s.to)).length = CN := ⟨_, rfl⟩
          rw [hCN]
          rw [hCN] at HCs
          have hCNl : CN ≤ 900 := by rw [← hCN]; exact Nat.le_trans (List.length_filter_le _ _) (by first | (simp; done) | (simp; omega))
          have HCN := Lib.hid hCN
          clear hCN
          go_wp2
          go_big_quiet (fail)
          go_wp2
          go_big_quiet (fail)
          go_wp2
          generalize wr = w4 at *
          go_loopw [11] (fun y z => ∃ m : Nat, m ≤ 0 ∧ y = .int .i64 m ∧ z.heap[w4.heap.size]? = some (.cells #[.int .i64 x0, .int .i64 x1, .int .i64 (f : Int), .int .i64 (t : Int), .int .i64 x4, .int .i64 x5, .int .i64 x6, .int .i64 x7, .int .i64 x8, .int .i64 x9] 36 (0, 0)) ∧ Nw w4 z) (fun y _ => 0 - (intOf y).toNat)
          case atStart => exact ⟨0, Nat.zero_le _, rfl, alloc_at w4 #[.int .i64 x0, .int .i64 x1, .int .i64 (f : Int), .int .i64 (t : Int), .int .i64 x4, .int .i64 x5, .int .i64 x6, .int .i64 x7, .int .i64 x8, .int .i64 x9] 36, by first | exact ((Nw.refl w4).alloc _).drewN _ | exact (((Nw.refl w4).alloc _).drewN _).drewN _ | exact ((Nw.refl w4).alloc _).drew1⟩
          case round =>
            obtain ⟨m, hm, rfl, hX, hN4⟩ := hrel
            by_cases hlm : m < 0
            · omega
            · have hmk : m = 0 := by omega
              subst hmk
              have HX4 := Lib.hid hN4
              clear hX hN4
              go_wp2
              go_roundw
              case rel => exact ⟨1, _, by omega, by go_num, by go_num, by rw [HCs.out]; rfl, HN.out.trans HX4.out⟩
              case measure => simp [intOf]; omega
        ·
          obtain ⟨k1, hk1⟩ : ∃ k1, k = k1 + 1 := ⟨k - 1, by omega⟩
          have hpr := HFt.out.rise k1 k (by omega) hlt (by omega)
          obtain ⟨fp, hfp, hfq⟩ := HFt.out.fr _ (List.getElem_mem (show k1 < S.length by omega))
          rw [hsk, hfp] at hpr
          simp only at hpr
          have cp := (hc3.nw hN).2 k1 (by omega) 2 (.int .i64 (fp : Int)) (by rw [← hfp]; rfl)
          have j1 : ¬ ((f : Int) ≤ (fp : Int)) := by omega
          have j2 : decide (f ≤ fp) = false := by first | (simp; done) | (simp; omega)
          have j3 : IntKind.i64.wrap ((k : Int) - 1) = (k1 : Int) := by rw [IntKind.wrap_i64]; omega
          have j6 : decide (0 < k) = true := by first | (simp; done) | (simp; omega)
          have j7 : (0 : Int) < (k : Int) := by omega
          have HK1 := Lib.hid hk1
          have j4 : (0 : Int) ≤ (k1 : Int) := by omega
          have j5 : (k1 : Int) < (S.length : Int) := by omega
          clear hfp hk1 hk0 hpr hfq
          obtain ⟨t, ht0, htf, htl, hte⟩ := (HFt.out.to _ (List.getElem_mem hlt)).resolve_left (by rw [hsk]; simp only; omega)
          rw [hsk] at ht0 htf hte
          simp only at ht0 htf hte
          subst ht0
          have hle := (hc.nw hGw).2 t htl
          rw [hte] at hle
          have t0 := hle 0 _ rfl
          have t2 := hle 2 _ rfl
          have t8 := hle 8 _ rfl
          simp only [endOf] at t0 t2 t8
          simp only [Nat.add_zero] at t0
          have u0 : ¬ ((t : Int) ≤ (f : Int)) := by omega
          have u1 : decide (t ≤ f) = false := by first | (simp; done) | (simp; omega)
          have u2 : ¬ ((l.length : Int) ≤ (t : Int)) := by omega
          have u3 : decide (l.length ≤ t) = false := by first | (simp; done) | (simp; omega)
          have u4 : (0 : Int) ≤ (t : Int) := by omega
          have u5 : (t : Int) < (l.length : Int) := by omega
          have u6 : (x9 != x9) = false := by simp
          have u7 : decide ((0 : Int) ≤ (t : Int)) = true := by simp
          have hcs := cnt_snoc S hlt
          rw [hsk] at hcs
          simp only at hcs
          rw [if_pos (by omega)] at hcs
          have HCs := Lib.hid hcs
          have HN := Lib.hid hN
          have HSk := Lib.hid hsk
          have HC3 := Lib.hid hc3
          have HGw := Lib.hid hGw
          clear hcs hN hsk hc3 hGw hc hse hee hGe
          obtain ⟨CN, hCN⟩ : ∃ CN, ((S.take k).filter fun s => decide (0 ≤ s.to)).length = CN := ⟨_, rfl⟩
          rw [hCN]
          rw [hCN] at HCs
          have hCNl : CN ≤ 900 := by rw [← hCN]; exact Nat.le_trans (List.length_filter_le _ _) (by first | (simp; done) | (simp; omega))
          have HCN := Lib.hid hCN
          clear hCN
          go_wp2
          go_big_quiet (fail)
          go_wp2
          go_big_quiet (fail)
          go_wp2
          generalize wr = w4 at *
          go_loopw [11] (fun y z => ∃ m : Nat, m ≤ k ∧ y = .int .i64 m ∧ z.heap[w4.heap.size]? = some (.cells #[.int .i64 x0, .int .i64 x1, .int .i64 (f : Int), .int .i64 (t : Int), .int .i64 x4, .int .i64 x5, .int .i64 x6, .int .i64 x7, .int .i64 x8, .int .i64 x9] 36 (0, 0)) ∧ Nw w4 z) (fun y _ => k - (intOf y).toNat)
          case atStart => exact ⟨0, Nat.zero_le _, rfl, alloc_at w4 #[.int .i64 x0, .int .i64 x1, .int .i64 (f : Int), .int .i64 (t : Int), .int .i64 x4, .int .i64 x5, .int .i64 x6, .int .i64 x7, .int .i64 x8, .int .i64 x9] 36, by first | exact ((Nw.refl w4).alloc _).drewN _ | exact (((Nw.refl w4).alloc _).drewN _).drewN _ | exact ((Nw.refl w4).alloc _).drew1⟩
          case round =>
            obtain ⟨m, hm, rfl, hX, hN4⟩ := hrel
            by_cases hlm : m < k
            · have hmS : m < S.length := by omega
              have hme := (HC3.out.nw (HN.out.trans hN4)).2 m hmS
              have hbb := (HC3.out.nw (HN.out.trans hN4)).1
              have q0 := heap_cell (j := 0) hX
              have q1 := heap_cell (j := 1) hX
              have q2 := heap_cell (j := 2) hX
              have q3 := heap_cell (j := 3) hX
              have q4 := heap_cell (j := 4) hX
              have q5 := heap_cell (j := 5) hX
              have q6 := heap_cell (j := 6) hX
              have q7 := heap_cell (j := 7) hX
              have q8 := heap_cell (j := 8) hX
              have q9 := heap_cell (j := 9) hX
              simp at q0 q1 q2 q3 q4 q5 q6 q7 q8 q9
              have hXl := heap_lt hX
              have hap := HFt.out.apart m k hmS hlt hlm
              rw [HSk.out] at hap
              generalize S[m] = y at *
              have hBy := before_any y ⟨x0, x1, (f : Int), (t : Int), ⟨x4, x5, x6, x7, x8, x9⟩⟩
              obtain ⟨y0, y1, y2, y3, ⟨y4, y5, y6, y7, y8, y9⟩⟩ := y
              have r0 := hme 0 _ rfl
              have r1 := hme 1 _ rfl
              have r2 := hme 2 _ rfl
              have r3 := hme 3 _ rfl
              have r4 := hme 4 _ rfl
              have r5 := hme 5 _ rfl
              have r6 := hme 6 _ rfl
              have r7 := hme 7 _ rfl
              have r8 := hme 8 _ rfl
              have r9 := hme 9 _ rfl
              simp only [Nat.add_zero] at r0
              have i10 : (0 : Int) ≤ (m : Int) := by omega
              have i11 : (m : Int) < (S.length : Int) := by omega
              have HX4 := Lib.hid (And.intro hX hN4)
              by_cases hth : y1 = x1
              · rw [hap hth] at hBy
                subst hth
                have hyy : (y1 == y1) = true := by simp
                have HBy := Lib.hid hBy
                clear hap hBy hme hX hN4
                go_wp2
                refine wp_region_still_tail 14 (by kernel_rfl) (by kernel_rfl) ?_
                simp only [List.take_succ_cons, List.take_zero, List.drop_succ_cons, List.drop_zero]
                repeat still_step
                try refine wpStill_nil ?_
                change wpList _ _ _ _ _ wr.drew
                go_wp2_with (go_at_call 10; refine (HBy.out _).mono ?_; rintro e w6 ⟨rfl, g6⟩)
                go_roundw
                case rel => exact ⟨m + 1, by omega, by go_num, (((Nw.refl wr).drew1.trans g6).block _ (heap_lt HX4.out.1)).trans HX4.out.1, HX4.out.2.trans ((Nw.refl wr).drew1.trans g6)⟩
                case measure => simp [intOf]; omega
              · have hyy : (y1 == x1) = false := by simpa using hth
                clear hap hBy hme hX hN4 hth
                go_wp2
                go_big_quiet (fail)
                go_wp2
                go_roundw
                case rel => exact ⟨m + 1, by omega, by go_num, HX4.out.1, HX4.out.2.drewN _⟩
                case measure => simp [intOf]; omega
            · have hmk : m = k := by omega
              subst hmk
              have HX4 := Lib.hid hN4
              clear hX hN4
              go_wp2
              go_roundw
              case rel => exact ⟨m + 1, _, by omega, by go_num, by go_num, by rw [HCs.out]; rfl, HN.out.trans HX4.out⟩
              case measure => simp [intOf]; omega
      · by_cases hk0 : k = 0
        ·
          subst hk0
          simp only [Nat.zero_mul, Nat.add_zero] at s0 s1 s2 s3 s4 s5 s6 s7 s8 s9
          have u0 : ¬ ((0 : Int) ≤ x3) := by omega
          have u1 : decide (0 ≤ x3) = false := by first | (simp; done) | (simp; omega)
          have hcs := cnt_snoc S hlt
          rw [hsk] at hcs
          simp only at hcs
          rw [if_neg (by omega)] at hcs
          have HCs := Lib.hid hcs
          have HN := Lib.hid hN
          have HSk := Lib.hid hsk
          have HC3 := Lib.hid hc3
          have HGw := Lib.hid hGw
          clear hcs hN hsk hc3 hGw hc hse hee hGe
          obtain ⟨CN, hCN⟩ : ∃ CN, ((S.take 0).filter fun s => decide (0 ≤ s.to)).length = CN := ⟨_, rfl⟩
          rw [hCN]
          rw [hCN] at HCs
          have hCNl : CN ≤ 900 := by rw [← hCN]; exact Nat.le_trans (List.length_filter_le _ _) (by first | (simp; done) | (simp; omega))
          have HCN := Lib.hid hCN
          clear hCN
          go_wp2
          go_big_quiet (fail)
          go_wp2
          generalize wr = w4 at *
          go_loopw [11] (fun y z => ∃ m : Nat, m ≤ 0 ∧ y = .int .i64 m ∧ z.heap[w4.heap.size]? = some (.cells #[.int .i64 x0, .int .i64 x1, .int .i64 (f : Int), .int .i64 x3, .int .i64 x4, .int .i64 x5, .int .i64 x6, .int .i64 x7, .int .i64 x8, .int .i64 x9] 36 (0, 0)) ∧ Nw w4 z) (fun y _ => 0 - (intOf y).toNat)
          case atStart => exact ⟨0, Nat.zero_le _, rfl, alloc_at w4 #[.int .i64 x0, .int .i64 x1, .int .i64 (f : Int), .int .i64 x3, .int .i64 x4, .int .i64 x5, .int .i64 x6, .int .i64 x7, .int .i64 x8, .int .i64 x9] 36, by first | exact ((Nw.refl w4).alloc _).drewN _ | exact (((Nw.refl w4).alloc _).drewN _).drewN _ | exact ((Nw.refl w4).alloc _).drew1⟩
          case round =>
            obtain ⟨m, hm, rfl, hX, hN4⟩ := hrel
            by_cases hlm : m < 0
            · omega
            · have hmk : m = 0 := by omega
              subst hmk
              have HX4 := Lib.hid hN4
              clear hX hN4
              go_wp2
              go_roundw
              case rel => exact ⟨1, _, by omega, by go_num, rfl, by rw [HCs.out]; rfl, HN.out.trans HX4.out⟩
              case measure => simp [intOf]; omega
        ·
          obtain ⟨k1, hk1⟩ : ∃ k1, k = k1 + 1 := ⟨k - 1, by omega⟩
          have hpr := HFt.out.rise k1 k (by omega) hlt (by omega)
          obtain ⟨fp, hfp, hfq⟩ := HFt.out.fr _ (List.getElem_mem (show k1 < S.length by omega))
          rw [hsk, hfp] at hpr
          simp only at hpr
          have cp := (hc3.nw hN).2 k1 (by omega) 2 (.int .i64 (fp : Int)) (by rw [← hfp]; rfl)
          have j1 : ¬ ((f : Int) ≤ (fp : Int)) := by omega
          have j2 : decide (f ≤ fp) = false := by first | (simp; done) | (simp; omega)
          have j3 : IntKind.i64.wrap ((k : Int) - 1) = (k1 : Int) := by rw [IntKind.wrap_i64]; omega
          have j6 : decide (0 < k) = true := by first | (simp; done) | (simp; omega)
          have j7 : (0 : Int) < (k : Int) := by omega
          have HK1 := Lib.hid hk1
          have j4 : (0 : Int) ≤ (k1 : Int) := by omega
          have j5 : (k1 : Int) < (S.length : Int) := by omega
          clear hfp hk1 hk0 hpr hfq
          have u0 : ¬ ((0 : Int) ≤ x3) := by omega
          have u1 : decide (0 ≤ x3) = false := by first | (simp; done) | (simp; omega)
          have hcs := cnt_snoc S hlt
          rw [hsk] at hcs
          simp only at hcs
          rw [if_neg (by omega)] at hcs
          have HCs := Lib.hid hcs
          have HN := Lib.hid hN
          have HSk := Lib.hid hsk
          have HC3 := Lib.hid hc3
          have HGw := Lib.hid hGw
          clear hcs hN hsk hc3 hGw hc hse hee hGe
          obtain ⟨CN, hCN⟩ : ∃ CN, ((S.take k).filter fun s => decide (0 ≤ s.to)).length = CN := ⟨_, rfl⟩
          rw [hCN]
          rw [hCN] at HCs
          have hCNl : CN ≤ 900 := by rw [← hCN]; exact Nat.le_trans (List.length_filter_le _ _) (by first | (simp; done) | (simp; omega))
          have HCN := Lib.hid hCN
          clear hCN
          go_wp2
          go_big_quiet (fail)
          go_wp2
          generalize wr = w4 at *
          go_loopw [11] (fun y z => ∃ m : Nat, m ≤ k ∧ y = .int .i64 m ∧ z.heap[w4.heap.size]? = some (.cells #[.int .i64 x0, .int .i64 x1, .int .i64 (f : Int), .int .i64 x3, .int .i64 x4, .int .i64 x5, .int .i64 x6, .int .i64 x7, .int .i64 x8, .int .i64 x9] 36 (0, 0)) ∧ Nw w4 z) (fun y _ => k - (intOf y).toNat)
          case atStart => exact ⟨0, Nat.zero_le _, rfl, alloc_at w4 #[.int .i64 x0, .int .i64 x1, .int .i64 (f : Int), .int .i64 x3, .int .i64 x4, .int .i64 x5, .int .i64 x6, .int .i64 x7, .int .i64 x8, .int .i64 x9] 36, by first | exact ((Nw.refl w4).alloc _).drewN _ | exact (((Nw.refl w4).alloc _).drewN _).drewN _ | exact ((Nw.refl w4).alloc _).drew1⟩
          case round =>
            obtain ⟨m, hm, rfl, hX, hN4⟩ := hrel
            by_cases hlm : m < k
            · have hmS : m < S.length := by omega
              have hme := (HC3.out.nw (HN.out.trans hN4)).2 m hmS
              have hbb := (HC3.out.nw (HN.out.trans hN4)).1
              have q0 := heap_cell (j := 0) hX
              have q1 := heap_cell (j := 1) hX
              have q2 := heap_cell (j := 2) hX
              have q3 := heap_cell (j := 3) hX
              have q4 := heap_cell (j := 4) hX
              have q5 := heap_cell (j := 5) hX
              have q6 := heap_cell (j := 6) hX
              have q7 := heap_cell (j := 7) hX
              have q8 := heap_cell (j := 8) hX
              have q9 := heap_cell (j := 9) hX
              simp at q0 q1 q2 q3 q4 q5 q6 q7 q8 q9
              have hXl := heap_lt hX
              have hap := HFt.out.apart m k hmS hlt hlm
              rw [HSk.out] at hap
              generalize S[m] = y at *
              have hBy := before_any y ⟨x0, x1, (f : Int), x3, ⟨x4, x5, x6, x7, x8, x9⟩⟩
              obtain ⟨y0, y1, y2, y3, ⟨y4, y5, y6, y7, y8, y9⟩⟩ := y
              have r0 := hme 0 _ rfl
              have r1 := hme 1 _ rfl
              have r2 := hme 2 _ rfl
              have r3 := hme 3 _ rfl
              have r4 := hme 4 _ rfl
              have r5 := hme 5 _ rfl
              have r6 := hme 6 _ rfl
              have r7 := hme 7 _ rfl
              have r8 := hme 8 _ rfl
              have r9 := hme 9 _ rfl
              simp only [Nat.add_zero] at r0
              have i10 : (0 : Int) ≤ (m : Int) := by omega
              have i11 : (m : Int) < (S.length : Int) := by omega
              have HX4 := Lib.hid (And.intro hX hN4)
              by_cases hth : y1 = x1
              · rw [hap hth] at hBy
                subst hth
                have hyy : (y1 == y1) = true := by simp
                have HBy := Lib.hid hBy
                clear hap hBy hme hX hN4
                go_wp2
                refine wp_region_still_tail 14 (by kernel_rfl) (by kernel_rfl) ?_
                simp only [List.take_succ_cons, List.take_zero, List.drop_succ_cons, List.drop_zero]
                repeat still_step
                try refine wpStill_nil ?_
                change wpList _ _ _ _ _ wr.drew
                go_wp2_with (go_at_call 10; refine (HBy.out _).mono ?_; rintro e w6 ⟨rfl, g6⟩)
                go_roundw
                case rel => exact ⟨m + 1, by omega, by go_num, (((Nw.refl wr).drew1.trans g6).block _ (heap_lt HX4.out.1)).trans HX4.out.1, HX4.out.2.trans ((Nw.refl wr).drew1.trans g6)⟩
                case measure => simp [intOf]; omega
              · have hyy : (y1 == x1) = false := by simpa using hth
                clear hap hBy hme hX hN4 hth
                go_wp2
                go_big_quiet (fail)
                go_wp2
                go_roundw
                case rel => exact ⟨m + 1, by omega, by go_num, HX4.out.1, HX4.out.2.drewN _⟩
                case measure => simp [intOf]; omega
            · have hmk : m = k := by omega
              subst hmk
              have HX4 := Lib.hid hN4
              clear hX hN4
              go_wp2
              go_roundw
              case rel => exact ⟨m + 1, _, by omega, by go_num, rfl, by rw [HCs.out]; rfl, HN.out.trans HX4.out⟩
              case measure => simp [intOf]; omega
    · have hke : k = S.length := by omega
      subst hke
      rw [List.take_length]
      have hGw := G3.out.trans hN
      have hcnt := HFt.out.cnt
      have hpn : (pendL S).length = S.length - (S.filter fun s => decide (0 ≤ s.to)).length := pend_len S
      obtain ⟨n, hn⟩ : ∃ n, (S.filter fun s => decide (0 ≤ s.to)).length = n := ⟨_, rfl⟩
      obtain ⟨d1, d2, d3⟩ := HDn.out
      rw [hn] at hcnt hpn d3 ⊢
      have hCf : ∀ e ∈ keepE (doneC S) l, fitE e := fun e he => HF.out e (List.mem_filter.1 he).1
      have hCl : (keepE (doneC S) l).length ≤ l.length := List.length_filter_le _ _
      have hML := historyThreads.trk_len (keepE (doneC S) l) 0 []
      simp only [List.length_nil, Nat.zero_add] at hML
      generalize keepE (doneC S) l = C at *
      obtain ⟨q, hq⟩ : ∃ q, S.length - n = q := ⟨_, rfl⟩
      rw [hq] at hpn
      have z1 : IntKind.i64.wrap ((S.length : Int) + (n : Int)) = (l.length : Int) := by rw [IntKind.wrap_i64]; omega
      have z2 : ((l.length : Int) == (l.length : Int)) = true := by simp
      have z4 : IntKind.i64.wrap ((S.length : Int) - (n : Int)) = (q : Int) := by rw [IntKind.wrap_i64]; omega
      have z5 : ((q : Int) == (q : Int)) = true := by simp
      have z6 : IntKind.i64.wrap (2 * (n : Int)) = (C.length : Int) := by rw [IntKind.wrap_i64]; omega
      have z7 : ((C.length : Int) == (C.length : Int)) = true := by simp
      have hMl : (trk C 0 []).1.length ≤ 900 := by omega
      have hCl2 : C.length ≤ 800 := by omega
      have HPN := Lib.hid hpn
      clear hpn hq d3 hcnt hML
      have d2' : (pendL (trk C 0 []).1).map Sp.call = [] := by rw [show pendL (trk C 0 []).1 = [] from d2]; rfl
      have HCm' := Lib.hid (HCm.out wr hGw)
      clear hN
      go_wp2_with fail
      refine HCm'.out.mono ?_
      rintro e w5 ⟨v5, rfl, g5, hE5⟩
      have HCC := Lib.hid (check_any v5 C w5 hCl2 hCf hE5)
      rw [d1, trk_at0 C 0 [] d1] at HCC
      have HPC := Lib.hid (fun (w1 : World) (g : Nw w5 w1) => pending_any v5 C w1 hCl2 hCf (hE5.nw g) hMl)
      rw [d2'] at HPC
      have hE5' := hE5
      obtain ⟨a5, c5, hv5, _⟩ := hE5'
      subst hv5
      have G5 := Lib.hid (hGw.trans g5)
      clear g5 hE5 hGw HCm HCm'
      go_wp2_with fail
      refine HCC.out.mono ?_
      rintro e w6 ⟨rfl, g6⟩
      go_wp2_with fail
      refine (HP.out w6 (G5.out.trans g6)).mono ?_
      rintro e w7 ⟨v7, rfl, g7, hI7⟩
      obtain ⟨a7, c7, hv7, _⟩ := hI7.box
      subst hv7
      have z3 : ((pendL S).map Sp.call).length = q := by rw [List.length_map]; exact HPN.out
      rw [z3]
      clear hI7 z3
      go_wp2_with fail
      refine (HPC.out w7 (g6.trans g7)).mono ?_
      rintro e w8 ⟨v8, rfl, g8, hI8⟩
      obtain ⟨a8, c8, hv8, _⟩ := hI8.box
      subst hv8
      clear hI8
      go_wp2
      go_ret
      exact ⟨by simp, ((G5.out.trans g6).trans g7).trans g8⟩
end Go.Proofs.Ytekjmgdockfaiaa.historySpans
