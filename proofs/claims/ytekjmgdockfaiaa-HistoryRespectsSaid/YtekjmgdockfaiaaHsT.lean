
/- HistoryThreads: the walk. -/
import Derived.Test.YtekjmgdockfaiaaHsQ
namespace Go.Proofs.Ytekjmgdockfaiaa.historyThreads
open Go.RowKit
set_option linter.unusedVariables false      -- a contract need not use every name

theorem trk_len : ∀ (r : List Ev) (i : Nat) (l : List Sp), (trk r i l).1.length ≤ l.length + r.length
  | [], _, _ => Nat.le_refl _
  | e :: r, i, l => by
    by_cases hx : nxt l e = 0
    · rw [trk_ok r i hx]
      have h1 := trk_len r (i + 1) (upd l i e)
      have h2 := upd_len (l := l) (i := i) (e := e)
      simp only [List.length_cons]; omega
    · rw [trk_no r i hx]; simp
theorem trk_pos : ∀ (r : List Ev) (i : Nat) (l : List Sp), (trk r i l).2.2 = 0 → ∀ e ∈ r, 0 ≤ e.call ∧ 0 ≤ e.thread
  | [], _, _, _ => by simp
  | e :: r, i, l, h => by
    by_cases hx : nxt l e = 0
    · rw [trk_ok r i hx] at h
      intro x hm
      rcases List.mem_cons.1 hm with rfl | hm
      · exact okE_pos (nxt_okE hx)
      · exact trk_pos r (i + 1) _ h x hm
    · rw [trk_no r i hx] at h; exact absurd h hx
set_option maxRecDepth 100000 in
set_option maxHeartbeats 1000000 in
theorem walk_long (a0 : Option Addr) (n0 c0 : Nat) (w : World) (h : 60 < n0) :
    Calls Try.prog 5 #[.slice a0 n0 c0] w fun e w' => e = .returned (.bool true) ∧ Nw w w' := by
  have k0 : (60 : Int) < (n0 : Int) := by omega
  go_enter Try.func5, Try.ntmps5
  go_wp2_with fail
  refine (lives_ok _).mono ?_
  rintro e wl ⟨rfl, g0⟩
  go_wp2
  go_ret
  exact ⟨rfl, g0⟩
set_option maxRecDepth 100000 in
set_option maxHeartbeats 1000000 in
theorem walk_bad (v : Value) (l : List Ev) (w : World) (hl : l.length ≤ 60) (hfit : ∀ e ∈ l, fitE e) (h : EvAt w v l) (hx : (trk l 0 []).2.2 ≠ 0) :
    Calls Try.prog 5 #[v] w fun e w' => e = .returned (.bool true) ∧ Nw w w' := by
  have HC := Lib.hid (fun (w1 : World) (g : Nw w w1) => check_any v l w1 (by omega) hfit (h.nw g))
  obtain ⟨a0, c0, rfl, _⟩ := h
  have k0 : ¬ (60 : Int) < (l.length : Int) := by omega
  generalize (trk l 0 []).2.1 = at' at *
  generalize (trk l 0 []).2.2 = E at *
  have d0 : (E != 0) = true := by simpa using hx
  go_enter Try.func5, Try.ntmps5
  go_wp2_with fail
  refine (lives_ok _).mono ?_
  rintro e wl ⟨rfl, g0⟩
  go_wp2_with fail
  refine (HC.out wl g0).mono ?_
  rintro e w1 ⟨rfl, g1⟩
  go_wp2
  go_ret
  exact ⟨rfl, g0.trans g1⟩
/-- What the loop over the events keeps. -/
def Rd (w3 wr : World) (l : List Ev) (k : Nat) (tot : Int) : Prop := ∃ (T : List Int) (n : Nat), tot = (ofT l T : Int) ∧ n ≤ k ∧ SeenM wr w3.heap.size n T ∧ (∀ e ∈ l.take k, T.contains e.thread = true) ∧ Nw w3 wr
set_option maxRecDepth 100000 in
set_option maxHeartbeats 4000000 in
theorem walk (v : Value) (l : List Ev) (w : World) (hl : l.length ≤ 60) (hfit : ∀ e ∈ l, fitE e) (h : EvAt w v l) (hx : (trk l 0 []).2.2 = 0) :
    Calls Try.prog 5 #[v] w fun e w' => e = .returned (.bool true) ∧ Nw w w' := by
  have HF := Lib.hid hfit
  have H0 := Lib.hid h
  have HX := Lib.hid hx
  have HC := Lib.hid (fun (w1 : World) (g : Nw w w1) => check_any v l w1 (by omega) hfit (h.nw g))
  have HS := Lib.hid (fun (w1 : World) (g : Nw w w1) => spans_any v l w1 (by omega) hfit (h.nw g))
  have HO := Lib.hid (fun (t : Int) (w1 : World) (g : Nw w w1) => of_any v l t w1 (by omega) (h.nw g))
  obtain ⟨a0, c0, rfl, _⟩ := h
  have k0 : ¬ (60 : Int) < (l.length : Int) := by omega
  rw [hx, trk_at0 l 0 [] hx] at HC
  have hSl := trk_len l 0 []
  obtain ⟨S, hS⟩ : ∃ S, (trk l 0 []).1 = S := ⟨_, rfl⟩
  rw [hS] at HS hSl
  have HSe := Lib.hid hS
  have hmm := @run_makeMap Try.prog
  simp only [List.length_nil, Nat.zero_add] at hSl
  clear hx hfit hS
  go_enter Try.func5, Try.ntmps5
  go_wp2_with fail
  refine (lives_ok _).mono ?_
  rintro e wl ⟨rfl, g0⟩
  go_wp2_with fail
  refine (HC.out wl g0).mono ?_
  rintro e w1 ⟨rfl, g1⟩
  have g01 := g0.trans g1
  go_wp2_with fail
  refine (HS.out w1 g01).mono ?_
  rintro e w3 ⟨v3, rfl, g3, hR3⟩
  have hA3 := hR3.at
  obtain ⟨a3, c3, hv3, hr3⟩ := hA3
  have G3 := Lib.hid (g01.trans g3)
  have R3 := Lib.hid hr3
  subst hv3
  clear g0 g1 g01 g3 hR3 hr3 HC HS
  go_wp2
  go_loopw [6, 8] (fun t i wr => ∃ (k : Nat) (tot : Int), k ≤ l.length ∧ i = .int .i64 k ∧ t = .int .i64 tot ∧ Rd w3 wr l k tot) (fun _ i _ => l.length - (intOf i).toNat)
  case atStart => exact ⟨0, 0, Nat.zero_le _, rfl, rfl, [], 0, by rw [ofT_nil]; rfl, Nat.le_refl _, SeenM.made w3, by simp, (Nw.refl w3).alloc _⟩
  case round =>
    obtain ⟨k, tot, hk, rfl, rfl, T, n, rfl, hn, hM, hT, hN⟩ := hrel
    by_cases hlt : k < l.length
    · obtain ⟨b, o, ha, hc⟩ : ∃ b o, a0 = some ⟨b, o, none⟩ ∧ ECells w b o l := by
        obtain ⟨a, c, q, q2⟩ := H0.out
        simp only [Value.slice.injEq] at q
        obtain ⟨rfl, _, _⟩ := q
        rcases q2 with q2 | q2
        · rw [q2] at hlt; simp at hlt
        · exact q2
      subst ha
      have hGw : Nw w wr := G3.out.trans hN
      have hce := (hc.nw hGw).2 k hlt 1 _ rfl
      have hbl := (hc.nw hGw).1
      have hel := List.getElem_mem hlt
      have hpos := trk_pos l 0 [] HX.out _ hel
      have hfe := HF.out _ hel
      obtain ⟨t, ht⟩ : ∃ t, (l[k]).thread = t := ⟨_, rfl⟩
      rw [ht] at hce
      have hp0 : 0 ≤ t := by rw [← ht]; exact hpos.2
      have hp1 : t ≤ 9223372036854775807 := by rw [← ht]; exact hfe.2
      have hLk := hM.look hp0 hp1
      by_cases hq : T.contains t = true
      · rw [if_pos hq] at hLk
        have HR : Hid (Rd w3 wr l (k + 1) (ofT l T)) := by
          refine Lib.hid ⟨T, n, rfl, by omega, hM, fun e he => ?_, hN⟩
          rw [take_snoc' hlt] at he
          rcases List.mem_append.1 he with he | he
          · exact hT e he
          · simp at he; subst he; rw [ht]; exact hq
        clear hM hT hN hGw hc hel hpos hfe ht hq
        go_wp2
        go_roundw
        case rel => exact ⟨k + 1, _, by omega, by go_num, rfl, HR.out⟩
        case measure => simp [intOf]; omega
      · have hq' : T.contains t = false := by simpa using hq
        rw [if_neg hq] at hLk
        obtain ⟨w5, hU, hM5, hG5⟩ := hM.add hp0 hp1 (by omega)
        have hN5 : Nw w3 w5 := Below.grown hN hG5 hN.sz (fun k hk => by simp at hk; omega)
        have HU := Lib.hid hU
        have HM5 := Lib.hid hM5
        have HN5 := Lib.hid hN5
        have HT := Lib.hid hT
        have Hq := Lib.hid hq'
        have Ht := Lib.hid ht
        have htot := ofT_le l T
        clear hM hT hN hU hM5 hN5 hG5 hGw hc hel hpos hfe ht hq hq'
        go_wp2_with (at_mapUpdate; refine wpList_mapUpdate_run rfl (.tmp 46) (.tmp 47) (.const (.int .i64 1)) 47 rfl _ _ _ _ rfl rfl rfl HU.out ?_)
        refine (HO.out t w5 (G3.out.trans HN5.out)).mono ?_
        rintro e w6 ⟨v6, rfl, g6, hE6⟩
        have hmine := mine_ab HX.out t
        rw [HSe.out] at hmine
        have hol : (keepE (byT t) l).length ≤ l.length := List.length_filter_le _ _
        have hofit : ∀ e ∈ keepE (byT t) l, fitE e := fun e he => HF.out e (List.mem_filter.1 he).1
        have hsum : ofT l (t :: T) = ofT l T + (keepE (byT t) l).length := ofT_cons l T t Hq.out
        have hsum2 := ofT_le l (t :: T)
        generalize hown : keepE (byT t) l = own at *
        have HC := Lib.hid (check_any v6 own w6 (by omega) hofit hE6)
        rw [hmine.1, trk_at0 own 0 [] hmine.1] at HC
        have HS := Lib.hid (fun (w1 : World) (g : Nw w6 w1) => spans_any v6 own w1 (by omega) hofit (hE6.nw g))
        have hgood := Good.trk own 0 [] Good.nil hmine.1
        have hML := trk_len own 0 []
        have HPd := Lib.hid (fun (w1 : World) (g : Nw w6 w1) => pending_any v6 own w1 (by omega) hofit (hE6.nw g) (by have := hML; simp at this; omega))
        obtain ⟨M, hMe⟩ : ∃ M, (trk own 0 []).1 = M := ⟨_, rfl⟩
        rw [hMe] at HS hgood hML HPd hmine
        have hthr : ∀ s ∈ M, s.thread = t := ab_thread hmine.2 (fun s hs => by have := (List.mem_filter.1 hs).2; simpa [byT] using this)
        have hone : (pendL M).length ≤ 1 := by
          have e1 : pendL M = M.filter fun s => decide (s.to < 0) := List.filter_congr fun s _ => by
            unfold endB
            rw [Bool.eq_iff_iff]
            simp
          rw [e1]; exact one_pending hgood t hthr
        have hcnt := count_all hmine.2
        have HAb := Lib.hid (fun (k : Nat) (hk : k < S.length) => place_ab hmine.2 hk)
        obtain ⟨a6, c6, hv6, _⟩ := hE6
        subst hv6
        have G6 := Lib.hid g6
        have Hone := Lib.hid hone
        have Hcnt := Lib.hid hcnt
        have Hsum := Lib.hid hsum
        simp only [List.length_nil, Nat.zero_add] at hML
        clear hmine hofit hgood hthr hone hcnt g6 hown hMe hsum
        go_wp2_with fail
        refine HC.out.mono ?_
        rintro e w7 ⟨rfl, g7⟩
        go_wp2_with fail
        refine (HS.out w7 g7).mono ?_
        rintro e w8 ⟨v8, rfl, g8, hR8⟩
        have hA8 := hR8.at
        obtain ⟨a8, c8, hv8, hr8⟩ := hA8
        subst hv8
        have R8 := Lib.hid hr8
        have G8 := Lib.hid (g7.trans g8)
        clear g7 g8 hR8 hr8 HC HS HO
        go_wp2
        go_loopw [14, 15] (fun x y wr => ∃ (k2 cn : Nat), k2 ≤ S.length ∧ y = .int .i64 k2 ∧ x = .int .i64 cn ∧ cn = (S.take k2).countP (fun s => s.thread == t) ∧ Nw w8 wr) (fun _ y _ => S.length - (intOf y).toNat)
        case atStart => exact ⟨0, 0, Nat.zero_le _, rfl, rfl, rfl, Nw.refl _⟩
        case round =>
          obtain ⟨k2, cn, hk2, rfl, rfl, hcn, hN2⟩ := hrel
          by_cases hlt2 : k2 < S.length
          · obtain ⟨b3, o3, ha3, hc3⟩ : ∃ b o, a3 = some ⟨b, o, none⟩ ∧ SCells w3 b o S := by
              rcases R3.out with q | q
              · rw [q] at hlt2; simp at hlt2
              · exact q
            subst ha3
            have hG2 : Nw w3 wr := (HN5.out.trans G6.out).trans (G8.out.trans hN2)
            have hse := (hc3.nw hG2).2 k2 hlt2
            have hb3 := (hc3.nw hG2).1
            have hcs := count_snoc S (fun s => s.thread == t) hlt2
            by_cases hth : (S[k2]).thread = t
            · obtain ⟨hn8, hab⟩ := HAb.out k2 hlt2 hth
              rw [← hcn] at hn8
              have hab' : ab (M[cn]'hn8) = ab S[k2] := by
                have : ∀ j (h : j < M.length), j = cn → ab M[j] = ab S[k2] → ab (M[cn]'hn8) = ab S[k2] := fun j h e q => by subst e; exact q
                exact this _ _ hcn.symm hab
              obtain ⟨b8, o8, ha8, hc8⟩ : ∃ b o, a8 = some ⟨b, o, none⟩ ∧ SCells w8 b o M := by
                rcases R8.out with q | q
                · rw [q] at hn8; simp at hn8
                · exact q
              subst ha8
              have hme := (hc8.nw hN2).2 cn hn8
              have hb8 := (hc8.nw hN2).1
              obtain ⟨p1, p2, p3⟩ := ab_parts hab'
              rw [if_pos (by simpa using hth)] at hcs
              generalize M[cn] = m at *
              generalize S[k2] = s at *
              obtain ⟨m0, m1, m2, m3, mk0, mk1, mk2, mk3, mk4, mk5⟩ := m
              obtain ⟨s0, s1, s2, s3, sk⟩ := s
              simp only at p1 p2 p3 hth
              subst p1 p2 hth
              have s0' := hse 0 _ rfl
              have s1' := hse 1 _ rfl
              have s2' := hse 2 _ rfl
              have s3' := hse 3 _ rfl
              have s4' := hse 4 _ rfl
              have s5' := hse 5 _ rfl
              have s6' := hse 6 _ rfl
              have s7' := hse 7 _ rfl
              have s8' := hse 8 _ rfl
              have s9' := hse 9 _ rfl
              simp only [Nat.add_zero] at s0'
              have m0' := hme 0 _ rfl
              have m1' := hme 1 _ rfl
              have m2' := hme 2 _ rfl
              have m3' := hme 3 _ rfl
              have m4' := hme 4 _ rfl
              have m5' := hme 5 _ rfl
              have m6' := hme 6 _ rfl
              have m7' := hme 7 _ rfl
              have m8' := hme 8 _ rfl
              have m9' := hme 9 _ rfl
              simp only [Nat.add_zero] at m0'
              obtain ⟨B, hB⟩ : ∃ B, decide (s3 < 0) = B := ⟨_, rfl⟩
              rw [hB] at p3
              have n0 : (m0 != m0) = false := by simp
              have n1 : (B != B) = false := by simp
              have i1 : ¬ ((M.length : Int) ≤ (cn : Int)) := by omega
              have i2 : decide (M.length ≤ cn) = false := by simp; omega
              have i3 : (0 : Int) ≤ (cn : Int) := by omega
              have i4 : (cn : Int) < (M.length : Int) := by omega
              have i5 : (0 : Int) ≤ (k2 : Int) := by omega
              have i6 : (k2 : Int) < (S.length : Int) := by omega
              have HX2 := Lib.hid (And.intro hN2 (And.intro hcn hcs))
              clear hse hme hN2 hG2 hc3 hc8 hcn hcs hab hab'
              go_wp2
              go_quiet (fail)
              go_wp2
              go_roundw
              case rel => exact ⟨k2 + 1, cn + 1, by omega, by go_num, by go_num, by rw [HX2.out.2.2, HX2.out.2.1], HX2.out.1.drewN _⟩
              case measure => simp [intOf]; omega
            · have s1 := hse 1 _ rfl
              have n0 : ((S[k2]).thread != t) = true := by simpa using hth
              rw [if_neg (by simpa using hth)] at hcs
              have HX2 := Lib.hid (And.intro hN2 (And.intro hcn hcs))
              generalize (S[k2]).thread = th at *
              clear hse hN2 hG2 hc3 hcn hcs
              go_wp2
              go_roundw
              case rel => exact ⟨k2 + 1, cn, by omega, by go_num, rfl, by rw [HX2.out.2.2, Nat.add_zero, HX2.out.2.1], HX2.out.1⟩
              case measure => simp [intOf]; omega
          · have hke : k2 = S.length := by omega
            subst hke
            rw [List.take_length, Hcnt.out] at hcn
            subst hcn
            have HN2 := Lib.hid hN2
            clear hN2
            have n0 : (M.length != M.length) = false := by simp
            have n1 : ((M.length : Int) != (M.length : Int)) = false := by simp
            go_wp2_with fail
            refine (HPd.out _ (G8.out.trans HN2.out)).mono ?_
            rintro e w9 ⟨v9, rfl, g9, hI9⟩
            obtain ⟨a9, c9, hv9, _⟩ := hI9.box
            subst hv9
            have hone2 : ¬ (1 : Int) < (((pendL M).map Sp.call).length : Int) := by have := Hone.out; simp only [List.length_map]; omega
            generalize ((pendL M).map Sp.call).length = q9 at *
            have hone3 : decide (1 < q9) = false := by simp; omega
            have HR : Hid (Rd w3 w9 l (k + 1) (ofT l (t :: T))) := by
              refine Lib.hid ⟨t :: T, n + 1, rfl, by omega, HM5.out.nw (G6.out.trans ((G8.out.trans HN2.out).trans g9)), fun e he => ?_, HN5.out.trans (G6.out.trans ((G8.out.trans HN2.out).trans g9))⟩
              rw [take_snoc' hlt] at he
              rcases List.mem_append.1 he with he | he
              · have := HT.out e he
                rw [List.contains_cons, this, Bool.or_true]
              · simp at he; subst he; rw [Ht.out, List.contains_cons]; simp
            have hZ : (ofT l T : Int) + (own.length : Int) = (ofT l (t :: T) : Int) := by rw [Hsum.out]; omega
            clear hI9 g9
            go_wp2
            go_roundw
            case rel => exact ⟨k + 1, _, by omega, by go_num, by first | rfl | (rw [hZ]) | (go_num; omega), HR.out⟩
            case measure => simp [intOf]; omega
    · have hke : k = l.length := by omega
      subst hke
      rw [List.take_length] at hT
      have e1 := ofT_all hT
      have HN := Lib.hid hN
      rw [e1]
      clear hM hT hN e1
      go_wp2
      go_ret
      exact ⟨rfl, G3.out.trans HN.out⟩
/-- HistoryThreads returns true. -/
theorem law_any (v : Value) (l : List Ev) (w : World) (h : EvAt w v l) (hfit : ∀ e ∈ l, fitE e) : Calls Try.prog 5 #[v] w fun e w' => e = .returned (.bool true) ∧ Nw w w' := by
  by_cases hl : l.length ≤ 60
  · by_cases hx : (trk l 0 []).2.2 = 0
    · exact walk v l w hl hfit h hx
    · exact walk_bad v l w hl hfit h hx
  · obtain ⟨a, c, rfl, _⟩ := h
    exact walk_long a _ c w (by omega)
end Go.Proofs.Ytekjmgdockfaiaa.historyThreads
