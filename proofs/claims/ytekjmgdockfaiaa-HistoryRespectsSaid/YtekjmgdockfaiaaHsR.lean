
/- HistoryRespects: the walk. -/
import Derived.Test.YtekjmgdockfaiaaHsP
import Derived.Test.YtekjmgdockfaiaaHsT
import Derived.Deep.RegionHeld3
import Derived.Test.YtekjmgdockfaiaaOrd
namespace Go.Proofs.Ytekjmgdockfaiaa.historyRespects
open Go.RowKit
set_option linter.unusedVariables false      -- a contract need not use every name

theorem pickN (k : Int) (n : Nat) (h : 0 < n) : ∃ j : Nat, k % (n : Int) = j ∧ j < n := by
  have h0 := Int.emod_nonneg k (show (n : Int) ≠ 0 by omega)
  have h1 := Int.emod_lt_of_pos k (show (0 : Int) < n by omega)
  exact ⟨(k % (n : Int)).toNat, by omega, by omega⟩
theorem nwS {W : World} : ∀ a b, Nw W a → Nw a b → Nw W b := fun _ _ h g => h.trans g
set_option maxRecDepth 100000 in
set_option maxHeartbeats 1000000 in
theorem walk_long (a0 : Option Addr) (n0 c0 : Nat) (x y : Int) (w : World) (h : 60 < n0) :
    Calls Try.prog 4 #[.slice a0 n0 c0, .int .i64 x, .int .i64 y] w fun e w' => e = .returned (.bool true) ∧ Nw w w' := by
  have k0 : (60 : Int) < (n0 : Int) := by omega
  go_enter Try.func4, Try.ntmps4
  go_wp2_with fail
  refine (lives_ok _).mono ?_
  rintro e wl ⟨rfl, g0⟩
  go_wp2
  go_ret
  exact ⟨rfl, g0⟩
theorem pair_at {w : World} {B : Nat} {a b : Sp} {T : TypeId} {fr : Nat × Nat} (h : w.heap[B]? = some (.cells ⟨srows [a, b]⟩ T fr)) : SpAt w (.slice (some ⟨B, 0, none⟩) 2 2) [a, b] := by
  refine ⟨_, 2, rfl, .inr ⟨B, 0, rfl, heap_lt h, fun i hi c u hu => ?_⟩⟩
  have hc : c < 10 := by have := (List.getElem?_eq_some_iff.1 hu).1; simpa [srow] using this
  rw [Nat.zero_add, heap_cell h, ← Array.getElem?_toList]
  show (srows [a, b])[i * 10 + c]? = _
  rw [srows_at _ i c hi hc]; exact hu
theorem ints_two {w : World} {B : Nat} {a b : Int} {T : TypeId} {fr : Nat × Nat} (h : w.heap[B]? = some (.cells #[.int .i64 a, .int .i64 b] T fr)) : IntsAt w (.slice (some ⟨B, 0, none⟩) 2 2) [a, b] := by
  refine ⟨_, 2, rfl, .inr ⟨B, 0, rfl, heap_lt h, fun i hi => ?_⟩⟩
  rw [Nat.zero_add, heap_cell h]
  match i, hi with
  | 0, _ => rfl
  | 1, _ => rfl
theorem ints_new (w : World) (a b : Int) : IntsAt (w.alloc (.cells #[.int .i64 a, .int .i64 b] 3)) (.slice (some ⟨w.heap.size, 0, none⟩) 2 2) [a, b] := ints_two (alloc_at w #[.int .i64 a, .int .i64 b] 3)

set_option maxRecDepth 100000 in
set_option maxHeartbeats 4000000 in
theorem walk (v : Value) (l : List Ev) (px py : Int) (w : World) (hl : l.length ≤ 60) (hfit : ∀ e ∈ l, fitE e) (h : EvAt w v l) :
    Calls Try.prog 4 #[v, .int .i64 px, .int .i64 py] w fun e w' => e = .returned (.bool true) ∧ Nw w w' := by
  have hSl := historyThreads.trk_len l 0 []
  simp only [List.length_nil, Nat.zero_add] at hSl
  have HS := Lib.hid (fun (w1 : World) (g : Nw w w1) => spans_any v l w1 (by omega) hfit (h.nw g))
  have HNi := Lib.hid (nice_of l)
  obtain ⟨a0, c0, rfl, _⟩ := h
  have k0 : ¬ (60 : Int) < (l.length : Int) := by omega
  obtain ⟨S, hS⟩ : ∃ S, (trk l 0 []).1 = S := ⟨_, rfl⟩
  rw [hS] at HS hSl HNi
  clear hS hfit
  go_enter Try.func4, Try.ntmps4
  go_wp2_with fail
  refine (lives_ok _).mono ?_
  rintro e wl ⟨rfl, g0⟩
  go_wp2_with fail
  refine (HS.out wl g0).mono ?_
  rintro e w3 ⟨v3, rfl, g3, hR3⟩
  obtain ⟨a3, c3, hv3, _⟩ := hR3.at
  subst hv3
  have R3 := Lib.hid hR3
  have G3 := Lib.hid (g0.trans g3)
  clear g0 g3 hR3 HS k0
  go_wp2
  go_loopw [8, 9] (fun u i wr => ∃ k : Nat, k ≤ S.length ∧ i = .int .i64 k ∧ IS wr u (rng k) ∧ (∀ g, u.ownBlock = some g → w3.heap.size ≤ g) ∧ Nw w3 wr) (fun _ i _ => S.length - (intOf i).toNat)
  case atStart => exact ⟨0, Nat.zero_le _, rfl, IS.nil _, fun g hg => by simp [Value.ownBlock] at hg, Nw.refl _⟩
  case round =>
    obtain ⟨k, hk, rfl, hI, hO, hN⟩ := hrel
    by_cases hlt : k < S.length
    · obtain ⟨v', w2, hrun, hI2, hT2, hb2, g, cap, hv'⟩ := IS.push wr u8 _ (k : Int) hI (by rw [rng_len]; omega)
      have HX : Hid (IS w2 v' (rng (k + 1)) ∧ (∀ g, v'.ownBlock = some g → w3.heap.size ≤ g) ∧ Nw w3 w2) := by
        refine Lib.hid ⟨by rw [rng_snoc]; exact hI2, fun g hg => ?_, nw_tch hN hT2 (fun i hi => hO i hi)⟩
        rcases hb2 g hg with q | q
        · exact hO g q
        · exact Nat.le_trans hN.sz q
      rw [rng_len] at hv'
      subst hv'
      obtain ⟨ua, uc, hu, _⟩ := hI.box
      rw [rng_len] at hu
      subst hu
      have HR := Lib.hid hrun
      clear hI hO hN hrun hI2 hT2 hb2
      go_wp2_with (at_builtin; refine wpList_append_run rfl (.tmp 24) (.tmp 26) 41 rfl _ _ _ _ rfl rfl HR.out ?_)
      go_roundw
      case rel => exact ⟨k + 1, by omega, by go_num, HX.out.1, HX.out.2.1, HX.out.2.2⟩
      case measure => simp [intOf]; omega
    · have hke : k = S.length := by omega
      subst hke
      have hRr := resp_rng HNi.out
      have hRow : SRow wr wl.heap.size (.slice a3 S.length c3) S := own_keep R3.out (hN.grownBy none) (fun _ _ => by simp)
      have HRs := Lib.hid (fun (w1 : World) (g : Nw wr w1) => respects_any _ _ S (rng S.length) w1 (by rw [rng_len]; omega) (hRow.at.nw g) (hI.at.nw g))
      rw [hRr] at HRs
      obtain ⟨ua, uc, hu, hug⟩ := hI.box
      rw [rng_len] at hu hug
      have G4 := Lib.hid (G3.out.trans hN)
      have HI := Lib.hid hI
      have HO := Lib.hid hO
      have HN34 := Lib.hid hN
      have HR4 := Lib.hid hRow
      clear hN hI hRr hRow
      by_cases h2 : S.length < 2
      · have d0 : decide (S.length < 2) = true := by simpa using h2
        have d1 : (S.length : Int) < 2 := by omega
        subst hu
        go_wp2_with fail
        refine (HRs.out _ (Nw.refl _)).mono ?_
        rintro e w5 ⟨rfl, g5⟩
        go_wp2_with fail
        refine (HRs.out _ g5).mono ?_
        rintro e w6 ⟨rfl, g6⟩
        go_wp2
        go_ret
        exact ⟨rfl, (G4.out.trans g5).trans g6⟩
      · have d0 : decide (S.length < 2) = false := by simpa using h2
        have d1 : ¬ (S.length : Int) < 2 := by omega
        obtain ⟨go, rfl, _⟩ := hug (by omega)
        subst hu
        obtain ⟨j1, hj1, hl1⟩ := pickN px S.length (by omega)
        obtain ⟨j2, hj2, hl2⟩ := pickN py S.length (by omega)
        go_wp2_with fail
        refine (HRs.out _ (Nw.refl _)).mono ?_
        rintro e w5 ⟨rfl, g5⟩
        go_wp2_with fail
        refine (pick_any px (S.length : Int) _ (by omega) (by omega)).mono ?_
        rintro e wq ⟨rfl, rfl⟩
        rw [hj1]
        go_wp2_with fail
        refine (pick_any py (S.length : Int) _ (by omega) (by omega)).mono ?_
        rintro e wq ⟨rfl, rfl⟩
        rw [hj2]
        have G5 := Lib.hid (G4.out.trans g5)
        have HR5 : Hid (SRow w5 wl.heap.size (.slice a3 S.length c3) S) := Lib.hid (own_keep HR4.out (g5.grownBy none) (fun _ _ => by simp))
        have HI5 := Lib.hid (HI.out.nw g5)
        have HO5 := HO
        have HN35 := Lib.hid (HN34.out.trans g5)
        clear hj1 hj2 g5 HR4 HI G4 HRs
        rcases own_form HR5.out with ⟨_, q⟩ | ⟨gS, capS, q⟩
        · omega
        simp only [Value.slice.injEq, true_and] at q
        obtain ⟨rfl, rfl⟩ := q
        have n1 := HNi.out.to _ (List.getElem_mem hl1)
        have n2 := HNi.out.to _ (List.getElem_mem hl2)
        have m1 := HNi.out.fr _ (List.getElem_mem hl1)
        have m2 := HNi.out.fr _ (List.getElem_mem hl2)
        have HJ := Lib.hid (show j1 = j2 → S[j1] = S[j2] from fun e => by subst e; rfl)
        have hr1 : ∀ (c : Nat) u, c < 10 → (srow S[j1])[c]? = some u → w5.cell? ⟨gS, j1 * 10 + c, none⟩ = some u := fun c u hc hu => HR5.out.cell hl1 hc hu
        have hr2 : ∀ (c : Nat) u, c < 10 → (srow S[j2])[c]? = some u → w5.cell? ⟨gS, j2 * 10 + c, none⟩ = some u := fun c u hc hu => HR5.out.cell hl2 hc hu
        have P01 := resp_01 (a := S[j1]) (b := S[j2]) m1
        have P10 := resp_10 (a := S[j1]) (b := S[j2]) m2
        generalize S[j1] = s1 at *
        generalize S[j2] = s2 at *
        have C12 := fun W => before_any s1 s2 W
        have C21 := fun W => before_any s2 s1 W
        have C11 := fun W => before_any s1 s1 W
        rw [bef_self n1] at C11
        have HNot := Lib.hid (show befS s1 s2 = true → befS s2 s1 = false from bef_not n1 n2)
        obtain ⟨B1, hB1⟩ : ∃ B, befS s1 s2 = B := ⟨_, rfl⟩
        obtain ⟨B2, hB2⟩ : ∃ B, befS s2 s1 = B := ⟨_, rfl⟩
        rw [hB1] at C12 HNot P10
        rw [hB2] at C21 HNot P01
        clear hB1 hB2
        have HRe := Lib.hid (fun (W : World) (ord : List Int) (vp vo : Value) (hp : SpAt W vp [s1, s2]) (ho : IntsAt W vo ord) (hm : ord.length ≤ 900) => respects_any vp vo [s1, s2] ord W hm hp ho)
        obtain ⟨x0, x1, x2, x3, ⟨x4, x5, x6, x7, x8, x9⟩⟩ := s1
        obtain ⟨y0, y1, y2, y3, ⟨y4, y5, y6, y7, y8, y9⟩⟩ := s2
        have H12 : Hid (∀ W, Calls Try.prog 10 #[.agg #[.int .i64 x0, .int .i64 x1, .int .i64 x2, .int .i64 x3, .int .i64 x4, .int .i64 x5, .int .i64 x6, .int .i64 x7, .int .i64 x8, .int .i64 x9], .agg #[.int .i64 y0, .int .i64 y1, .int .i64 y2, .int .i64 y3, .int .i64 y4, .int .i64 y5, .int .i64 y6, .int .i64 y7, .int .i64 y8, .int .i64 y9]] W fun x w' => x = .returned (.bool B1) ∧ Nw W w') := Lib.hid C12
        have H21 : Hid (∀ W, Calls Try.prog 10 #[.agg #[.int .i64 y0, .int .i64 y1, .int .i64 y2, .int .i64 y3, .int .i64 y4, .int .i64 y5, .int .i64 y6, .int .i64 y7, .int .i64 y8, .int .i64 y9], .agg #[.int .i64 x0, .int .i64 x1, .int .i64 x2, .int .i64 x3, .int .i64 x4, .int .i64 x5, .int .i64 x6, .int .i64 x7, .int .i64 x8, .int .i64 x9]] W fun x w' => x = .returned (.bool B2) ∧ Nw W w') := Lib.hid C21
        have H11 : Hid (∀ W, Calls Try.prog 10 #[.agg #[.int .i64 x0, .int .i64 x1, .int .i64 x2, .int .i64 x3, .int .i64 x4, .int .i64 x5, .int .i64 x6, .int .i64 x7, .int .i64 x8, .int .i64 x9], .agg #[.int .i64 x0, .int .i64 x1, .int .i64 x2, .int .i64 x3, .int .i64 x4, .int .i64 x5, .int .i64 x6, .int .i64 x7, .int .i64 x8, .int .i64 x9]] W fun x w' => x = .returned (.bool false) ∧ Nw W w') := Lib.hid C11
        clear C12 C21 C11
        have i1 : (0 : Int) ≤ (j1 : Int) := by omega
        have i2 : (j1 : Int) < (S.length : Int) := by omega
        have i3 : (0 : Int) ≤ (j2 : Int) := by omega
        have i4 : (j2 : Int) < (S.length : Int) := by omega
        have u10 := hr1 0 _ (by omega) rfl
        have u11 := hr1 1 _ (by omega) rfl
        have u12 := hr1 2 _ (by omega) rfl
        have u13 := hr1 3 _ (by omega) rfl
        have u14 := hr1 4 _ (by omega) rfl
        have u15 := hr1 5 _ (by omega) rfl
        have u16 := hr1 6 _ (by omega) rfl
        have u17 := hr1 7 _ (by omega) rfl
        have u18 := hr1 8 _ (by omega) rfl
        have u19 := hr1 9 _ (by omega) rfl
        simp only [Nat.add_zero] at u10
        have u20 := hr2 0 _ (by omega) rfl
        have u21 := hr2 1 _ (by omega) rfl
        have u22 := hr2 2 _ (by omega) rfl
        have u23 := hr2 3 _ (by omega) rfl
        have u24 := hr2 4 _ (by omega) rfl
        have u25 := hr2 5 _ (by omega) rfl
        have u26 := hr2 6 _ (by omega) rfl
        have u27 := hr2 7 _ (by omega) rfl
        have u28 := hr2 8 _ (by omega) rfl
        have u29 := hr2 9 _ (by omega) rfl
        simp only [Nat.add_zero] at u20
        clear hr1 hr2 n1 n2 m1 m2
        have hW : Hid (Nw w5 w5) := Lib.hid (Nw.refl _)
        have HU := Lib.hid (And.intro P01 P10)
        clear P01 P10
        go_wp2
        cases B1
        case true =>
          obtain rfl : B2 = false := HNot.out rfl
          refine region_in (fun y => Nw w5 y) (by kernel_rfl) (by kernel_rfl) (Nw.refl _).drew1 ?_
          have d10 : ∀ d : Wd (fun y => Nw w5 y), d.w.cell? _ = _ := fun d => d.h.keep' u10
          have d11 : ∀ d : Wd (fun y => Nw w5 y), d.w.cell? _ = _ := fun d => d.h.keep' u11
          have d12 : ∀ d : Wd (fun y => Nw w5 y), d.w.cell? _ = _ := fun d => d.h.keep' u12
          have d13 : ∀ d : Wd (fun y => Nw w5 y), d.w.cell? _ = _ := fun d => d.h.keep' u13
          have d14 : ∀ d : Wd (fun y => Nw w5 y), d.w.cell? _ = _ := fun d => d.h.keep' u14
          have d15 : ∀ d : Wd (fun y => Nw w5 y), d.w.cell? _ = _ := fun d => d.h.keep' u15
          have d16 : ∀ d : Wd (fun y => Nw w5 y), d.w.cell? _ = _ := fun d => d.h.keep' u16
          have d17 : ∀ d : Wd (fun y => Nw w5 y), d.w.cell? _ = _ := fun d => d.h.keep' u17
          have d18 : ∀ d : Wd (fun y => Nw w5 y), d.w.cell? _ = _ := fun d => d.h.keep' u18
          have d19 : ∀ d : Wd (fun y => Nw w5 y), d.w.cell? _ = _ := fun d => d.h.keep' u19
          have d20 : ∀ d : Wd (fun y => Nw w5 y), d.w.cell? _ = _ := fun d => d.h.keep' u20
          have d21 : ∀ d : Wd (fun y => Nw w5 y), d.w.cell? _ = _ := fun d => d.h.keep' u21
          have d22 : ∀ d : Wd (fun y => Nw w5 y), d.w.cell? _ = _ := fun d => d.h.keep' u22
          have d23 : ∀ d : Wd (fun y => Nw w5 y), d.w.cell? _ = _ := fun d => d.h.keep' u23
          have d24 : ∀ d : Wd (fun y => Nw w5 y), d.w.cell? _ = _ := fun d => d.h.keep' u24
          have d25 : ∀ d : Wd (fun y => Nw w5 y), d.w.cell? _ = _ := fun d => d.h.keep' u25
          have d26 : ∀ d : Wd (fun y => Nw w5 y), d.w.cell? _ = _ := fun d => d.h.keep' u26
          have d27 : ∀ d : Wd (fun y => Nw w5 y), d.w.cell? _ = _ := fun d => d.h.keep' u27
          have d28 : ∀ d : Wd (fun y => Nw w5 y), d.w.cell? _ = _ := fun d => d.h.keep' u28
          have d29 : ∀ d : Wd (fun y => Nw w5 y), d.w.cell? _ = _ := fun d => d.h.keep' u29
          have hne : Nonempty (Wd (fun y => Nw w5 y)) := ⟨⟨_, Nw.refl w5⟩⟩
          repeat (first | go_big_quiet_step ((first | (with_reducible exact quietN nwS (H12.out _)) | (with_reducible exact quietN nwS (H21.out _)) | (with_reducible exact quietN nwS (H11.out _)))) | quiet_step ((first | (with_reducible exact quietN nwS (H12.out _)) | (with_reducible exact quietN nwS (H21.out _)) | (with_reducible exact quietN nwS (H11.out _)))))
          refine wpQuiet_nil ?_
          intro d
          have h6 := d.h
          clear d10 d11 d12 d13 d14 d15 d16 d17 d18 d19 d20 d21 d22 d23 d24 d25 d26 d27 d28 d29 hne
          revert h6
          generalize d.w = w6
          intro h6
          replace u10 := h6.keep' u10
          replace u11 := h6.keep' u11
          replace u12 := h6.keep' u12
          replace u13 := h6.keep' u13
          replace u14 := h6.keep' u14
          replace u15 := h6.keep' u15
          replace u16 := h6.keep' u16
          replace u17 := h6.keep' u17
          replace u18 := h6.keep' u18
          replace u19 := h6.keep' u19
          replace u20 := h6.keep' u20
          replace u21 := h6.keep' u21
          replace u22 := h6.keep' u22
          replace u23 := h6.keep' u23
          replace u24 := h6.keep' u24
          replace u25 := h6.keep' u25
          replace u26 := h6.keep' u26
          replace u27 := h6.keep' u27
          replace u28 := h6.keep' u28
          replace u29 := h6.keep' u29
          have hSp := alloc_at w6.drew #[.int .i64 x0, .int .i64 x1, .int .i64 x2, .int .i64 x3, .int .i64 x4, .int .i64 x5, .int .i64 x6, .int .i64 x7, .int .i64 x8, .int .i64 x9, .int .i64 y0, .int .i64 y1, .int .i64 y2, .int .i64 y3, .int .i64 y4, .int .i64 y5, .int .i64 y6, .int .i64 y7, .int .i64 y8, .int .i64 y9] 36
          have hsz : w6.drew.heap.size = w6.heap.size := rfl
          rw [hsz] at hSp
          have N7 : Nw w6 (w6.drew.alloc (.cells #[.int .i64 x0, .int .i64 x1, .int .i64 x2, .int .i64 x3, .int .i64 x4, .int .i64 x5, .int .i64 x6, .int .i64 x7, .int .i64 x8, .int .i64 x9, .int .i64 y0, .int .i64 y1, .int .i64 y2, .int .i64 y3, .int .i64 y4, .int .i64 y5, .int .i64 y6, .int .i64 y7, .int .i64 y8, .int .i64 y9] 36)) := ((Nw.refl w6).drew1).alloc _
          have hle := h6.sz
          have G6 := Lib.hid (G5.out.trans h6)
          have HN37 := Lib.hid (HN35.out.trans h6)
          have HR6 : Hid (SRow w6 wl.heap.size (.slice (some ⟨gS, 0, none⟩) S.length c3) S) := Lib.hid (own_keep HR5.out (h6.grownBy none) (fun _ _ => by simp))
          have HI6 := Lib.hid (HI5.out.nw h6)
          clear hW h6
          by_cases hj : j1 = j2
          · have b1 : (j1 == j2) = true := by simpa using hj
            have b2 : ((j1 : Int) == (j2 : Int)) = true := by simp; omega
            clear hj
            go_wp2
            refine wp_region_still_tail 8 (by kernel_rfl) (by kernel_rfl) ?_
            simp only [List.take_succ_cons, List.take_zero, List.drop_succ_cons, List.drop_zero]
            repeat still_step
            try refine wpStill_nil ?_
            change wpList _ _ _ _ _ w6.drew
            go_wp2
            have HP7 : Hid (SpAt (w6.alloc (.cells #[.int .i64 x0, .int .i64 x1, .int .i64 x2, .int .i64 x3, .int .i64 x4, .int .i64 x5, .int .i64 x6, .int .i64 x7, .int .i64 x8, .int .i64 x9, .int .i64 y0, .int .i64 y1, .int .i64 y2, .int .i64 y3, .int .i64 y4, .int .i64 y5, .int .i64 y6, .int .i64 y7, .int .i64 y8, .int .i64 y9] 36)).drew (.slice (some ⟨w6.heap.size, 0, none⟩) 2 2) [⟨x0, x1, x2, x3, ⟨x4, x5, x6, x7, x8, x9⟩⟩, ⟨y0, y1, y2, y3, ⟨y4, y5, y6, y7, y8, y9⟩⟩]) := Lib.hid (pair_at (T := 36) (fr := (0, 0)) (show (w6.alloc (.cells #[.int .i64 x0, .int .i64 x1, .int .i64 x2, .int .i64 x3, .int .i64 x4, .int .i64 x5, .int .i64 x6, .int .i64 x7, .int .i64 x8, .int .i64 x9, .int .i64 y0, .int .i64 y1, .int .i64 y2, .int .i64 y3, .int .i64 y4, .int .i64 y5, .int .i64 y6, .int .i64 y7, .int .i64 y8, .int .i64 y9] 36)).heap[w6.heap.size]? = _ from alloc_at w6 _ _))
            have N7' : Nw w6 (w6.alloc (.cells #[.int .i64 x0, .int .i64 x1, .int .i64 x2, .int .i64 x3, .int .i64 x4, .int .i64 x5, .int .i64 x6, .int .i64 x7, .int .i64 x8, .int .i64 x9, .int .i64 y0, .int .i64 y1, .int .i64 y2, .int .i64 y3, .int .i64 y4, .int .i64 y5, .int .i64 y6, .int .i64 y7, .int .i64 y8, .int .i64 y9] 36)).drew := ((Nw.refl w6).alloc _).drew1
            generalize (w6.alloc (.cells #[.int .i64 x0, .int .i64 x1, .int .i64 x2, .int .i64 x3, .int .i64 x4, .int .i64 x5, .int .i64 x6, .int .i64 x7, .int .i64 x8, .int .i64 x9, .int .i64 y0, .int .i64 y1, .int .i64 y2, .int .i64 y3, .int .i64 y4, .int .i64 y5, .int .i64 y6, .int .i64 y7, .int .i64 y8, .int .i64 y9] 36)).drew = w7 at *
            have hI7 := (HI6.out.nw N7')
            have hn900 : S.length ≤ 900 := by omega
            have hrow7 : SRow w7 wl.heap.size (.slice (some ⟨gS, 0, none⟩) S.length c3) S := own_keep HR6.out (N7'.grownBy none) (fun _ _ => by simp)
            have hcapS : S.length ≤ uc := by
              rcases hI7.2 with ⟨q, _⟩ | ⟨g', cap', cur, q, _, _, q3, _⟩
              · simp at q
              · simp only [Value.slice.injEq, Option.some.injEq, Addr.mk.injEq, and_true, true_and] at q; rw [rng_len] at q3; omega
            obtain ⟨v8, w8, hrun, hI8, hG8, a8, c8, hv8⟩ := order_app (hI7.nw (Nw.refl w7).drew1) (by omega) hn900 hcapS
            subst hv8
            have hsz8 : w7.drew.heap.size = w7.heap.size := rfl
            rw [hsz8] at hrun
            have hGo : w3.heap.size ≤ go := HO5.out go rfl
            have hgoS : gS ≠ go := by
              rintro rfl
              obtain ⟨c, hc⟩ := own_heap hrow7 rfl
              obtain ⟨c', hc'⟩ := own_heap hI7 rfl
              rw [hc] at hc'
              cases hc'
            have hrow8 : SRow w8 wl.heap.size (.slice (some ⟨gS, 0, none⟩) S.length c3) S := own_keep (own_keep hrow7 ((Nw.refl w7).drew1.grownBy none) (fun _ _ => by simp)) hG8 (fun g q r => by simp only [Value.ownBlock, Option.some.injEq] at q; subst q; exact hgoS (Option.some.inj r).symm)
            have hRe8 := respects_any _ _ S ((rng S.length).drop 1 ++ [1]) w8 (by rw [List.length_append, List.length_drop, rng_len]; simp; omega) hrow8.at hI8
            rw [resp_twice S (by omega)] at hRe8
            have HR8 := Lib.hid hrun
            have HRe8 := Lib.hid hRe8
            have hN8 : Nw w3 w8 := Below.grown ((HN37.out.trans N7').drew1) hG8 (Nat.le_trans HN37.out.sz N7'.sz) (fun k hk => by have := Option.some.inj hk; omega)
            have HN8 := Lib.hid (G3.out.trans hN8)
            have c1 : w7.cell? ⟨go, 1, none⟩ = some (.int .i64 1) := by rw [hI7.cell 1 (by rw [rng_len]; omega)]; simp [rng, List.getD, show 1 < S.length by omega]
            have c1d : ∀ y, Nw w7 y → y.cell? ⟨go, 1, none⟩ = some (.int .i64 1) := fun y h => h.keep' c1
            have e1 : ¬ uc = 1 := by omega
            have e2 : (1 : Int) ≤ (S.length : Int) := by omega
            have e3 : (S.length : Int) ≤ (uc : Int) := by omega
            have e4 : (1 : Int) < (S.length : Int) := by omega
            have e5 : ((S.length : Int) - 1).toNat = S.length - 1 := by omega
            have e6 : 1 ≤ uc := by omega
            clear hI7 hrow7 hrun hI8 hG8 hrow8 hRe8 hN8 c1d N7'
            go_region_law (first | (refine step_append rfl (.tmp 93) (.tmp 97) 41 rfl _ _ _ _ rfl rfl HR8.out ?_) | (go_simp; go_at_call 13; refine HRe8.out.mono ?_; rintro e w9 ⟨rfl, g9⟩))
            all_goals
              go_wp2
              go_ret
              exact ⟨by first | rfl | simp, HN8.out.trans g9⟩
          · have b1 : (j1 == j2) = false := by simpa using hj
            have b2 : ((j1 : Int) == (j2 : Int)) = false := by simp; omega
            clear hj
            go_wp2
            refine wp_region_still_tail 8 (by kernel_rfl) (by kernel_rfl) ?_
            simp only [List.take_succ_cons, List.take_zero, List.drop_succ_cons, List.drop_zero]
            repeat still_step
            try refine wpStill_nil ?_
            change wpList _ _ _ _ _ w6.drew
            go_wp2
            have HP7 : Hid (SpAt (w6.alloc (.cells #[.int .i64 x0, .int .i64 x1, .int .i64 x2, .int .i64 x3, .int .i64 x4, .int .i64 x5, .int .i64 x6, .int .i64 x7, .int .i64 x8, .int .i64 x9, .int .i64 y0, .int .i64 y1, .int .i64 y2, .int .i64 y3, .int .i64 y4, .int .i64 y5, .int .i64 y6, .int .i64 y7, .int .i64 y8, .int .i64 y9] 36)).drew (.slice (some ⟨w6.heap.size, 0, none⟩) 2 2) [⟨x0, x1, x2, x3, ⟨x4, x5, x6, x7, x8, x9⟩⟩, ⟨y0, y1, y2, y3, ⟨y4, y5, y6, y7, y8, y9⟩⟩]) := Lib.hid (pair_at (T := 36) (fr := (0, 0)) (show (w6.alloc (.cells #[.int .i64 x0, .int .i64 x1, .int .i64 x2, .int .i64 x3, .int .i64 x4, .int .i64 x5, .int .i64 x6, .int .i64 x7, .int .i64 x8, .int .i64 x9, .int .i64 y0, .int .i64 y1, .int .i64 y2, .int .i64 y3, .int .i64 y4, .int .i64 y5, .int .i64 y6, .int .i64 y7, .int .i64 y8, .int .i64 y9] 36)).heap[w6.heap.size]? = _ from alloc_at w6 _ _))
            have N7' : Nw w6 (w6.alloc (.cells #[.int .i64 x0, .int .i64 x1, .int .i64 x2, .int .i64 x3, .int .i64 x4, .int .i64 x5, .int .i64 x6, .int .i64 x7, .int .i64 x8, .int .i64 x9, .int .i64 y0, .int .i64 y1, .int .i64 y2, .int .i64 y3, .int .i64 y4, .int .i64 y5, .int .i64 y6, .int .i64 y7, .int .i64 y8, .int .i64 y9] 36)).drew := ((Nw.refl w6).alloc _).drew1
            generalize (w6.alloc (.cells #[.int .i64 x0, .int .i64 x1, .int .i64 x2, .int .i64 x3, .int .i64 x4, .int .i64 x5, .int .i64 x6, .int .i64 x7, .int .i64 x8, .int .i64 x9, .int .i64 y0, .int .i64 y1, .int .i64 y2, .int .i64 y3, .int .i64 y4, .int .i64 y5, .int .i64 y6, .int .i64 y7, .int .i64 y8, .int .i64 y9] 36)).drew = w7 at *
            have d10 : ∀ y, Nw w7 y → y.cell? _ = _ := fun y h => h.keep' (N7'.keep' u10)
            have d11 : ∀ y, Nw w7 y → y.cell? _ = _ := fun y h => h.keep' (N7'.keep' u11)
            have d12 : ∀ y, Nw w7 y → y.cell? _ = _ := fun y h => h.keep' (N7'.keep' u12)
            have d13 : ∀ y, Nw w7 y → y.cell? _ = _ := fun y h => h.keep' (N7'.keep' u13)
            have d14 : ∀ y, Nw w7 y → y.cell? _ = _ := fun y h => h.keep' (N7'.keep' u14)
            have d15 : ∀ y, Nw w7 y → y.cell? _ = _ := fun y h => h.keep' (N7'.keep' u15)
            have d16 : ∀ y, Nw w7 y → y.cell? _ = _ := fun y h => h.keep' (N7'.keep' u16)
            have d17 : ∀ y, Nw w7 y → y.cell? _ = _ := fun y h => h.keep' (N7'.keep' u17)
            have d18 : ∀ y, Nw w7 y → y.cell? _ = _ := fun y h => h.keep' (N7'.keep' u18)
            have d19 : ∀ y, Nw w7 y → y.cell? _ = _ := fun y h => h.keep' (N7'.keep' u19)
            have d20 : ∀ y, Nw w7 y → y.cell? _ = _ := fun y h => h.keep' (N7'.keep' u20)
            have d21 : ∀ y, Nw w7 y → y.cell? _ = _ := fun y h => h.keep' (N7'.keep' u21)
            have d22 : ∀ y, Nw w7 y → y.cell? _ = _ := fun y h => h.keep' (N7'.keep' u22)
            have d23 : ∀ y, Nw w7 y → y.cell? _ = _ := fun y h => h.keep' (N7'.keep' u23)
            have d24 : ∀ y, Nw w7 y → y.cell? _ = _ := fun y h => h.keep' (N7'.keep' u24)
            have d25 : ∀ y, Nw w7 y → y.cell? _ = _ := fun y h => h.keep' (N7'.keep' u25)
            have d26 : ∀ y, Nw w7 y → y.cell? _ = _ := fun y h => h.keep' (N7'.keep' u26)
            have d27 : ∀ y, Nw w7 y → y.cell? _ = _ := fun y h => h.keep' (N7'.keep' u27)
            have d28 : ∀ y, Nw w7 y → y.cell? _ = _ := fun y h => h.keep' (N7'.keep' u28)
            have d29 : ∀ y, Nw w7 y → y.cell? _ = _ := fun y h => h.keep' (N7'.keep' u29)
            clear u10 u11 u12 u13 u14 u15 u16 u17 u18 u19 u20 u21 u22 u23 u24 u25 u26 u27 u28 u29
            have HR01 : Hid (∀ (W : World) (B : Nat), Nw w7 W → W.heap[B]? = some (.cells #[.int .i64 0, .int .i64 1] 3 (0, 0)) → Calls Try.prog 13 #[.slice (some ⟨w6.heap.size, 0, none⟩) 2 2, .slice (some ⟨B, 0, none⟩) 2 2] W fun e w' => e = .returned (.bool true) ∧ Nw W w') := Lib.hid fun W B hy hB => by
              have := HRe.out W [0, 1] _ _ (HP7.out.nw hy) (ints_two hB) (by simp)
              rw [HU.out.1] at this
              exact this
            have HR10 : Hid (∀ (W : World) (B : Nat), Nw w7 W → W.heap[B]? = some (.cells #[.int .i64 1, .int .i64 0] 3 (0, 0)) → Calls Try.prog 13 #[.slice (some ⟨w6.heap.size, 0, none⟩) 2 2, .slice (some ⟨B, 0, none⟩) 2 2] W fun e w' => e = .returned (.bool false) ∧ Nw W w') := Lib.hid fun W B hy hB => by
              have := HRe.out W [1, 0] _ _ (HP7.out.nw hy) (ints_two hB) (by simp)
              rw [HU.out.2] at this
              exact this
            have HN7 := Lib.hid N7'
            have hB : Nw w7 w7 := Nw.refl w7
            clear N7'
            go_region_held3 (fun y => Nw w7 y) (first | assumption | exact Nw.drew1 (by assumption) | exact Nw.trans (by assumption) (by assumption) | exact Nw.alloc (by assumption) _ | exact Nw.trans (Nw.alloc (by assumption) _) (by assumption)) (first | (go_at_call 13; (with_reducible refine (HR01.out _ _ ?_ ?_).mono ?_); (first | assumption | exact ((Nw.refl _).alloc _).drew1); (first | exact alloc_at _ _ _ | exact drew_heap (alloc_at _ _ _)); rintro e w' ⟨rfl, hg⟩) | (go_at_call 13; (with_reducible refine (HR10.out _ _ ?_ ?_).mono ?_); (first | assumption | exact ((Nw.refl _).alloc _).drew1); (first | exact alloc_at _ _ _ | exact drew_heap (alloc_at _ _ _)); rintro e w' ⟨rfl, hg⟩) | (go_at_call 10; (with_reducible refine (H21.out _).mono ?_); rintro e w' ⟨rfl, hg⟩) | (go_at_call 10; (with_reducible refine (H12.out _).mono ?_); rintro e w' ⟨rfl, hg⟩))
            rename_i hF
            clear d10 d11 d12 d13 d14 d15 d16 d17 d18 d19 d20 d21 d22 d23 d24 d25 d26 d27 d28 d29
            go_wp2
            go_ret
            exact ⟨by first | rfl | simp, (G6.out.trans HN7.out).trans hF⟩
        case false =>
          cases B2
          case true =>
            refine region_in (fun y => Nw w5 y) (by kernel_rfl) (by kernel_rfl) (Nw.refl _).drew1 ?_
            have d10 : ∀ d : Wd (fun y => Nw w5 y), d.w.cell? _ = _ := fun d => d.h.keep' u10
            have d11 : ∀ d : Wd (fun y => Nw w5 y), d.w.cell? _ = _ := fun d => d.h.keep' u11
            have d12 : ∀ d : Wd (fun y => Nw w5 y), d.w.cell? _ = _ := fun d => d.h.keep' u12
            have d13 : ∀ d : Wd (fun y => Nw w5 y), d.w.cell? _ = _ := fun d => d.h.keep' u13
            have d14 : ∀ d : Wd (fun y => Nw w5 y), d.w.cell? _ = _ := fun d => d.h.keep' u14
            have d15 : ∀ d : Wd (fun y => Nw w5 y), d.w.cell? _ = _ := fun d => d.h.keep' u15
            have d16 : ∀ d : Wd (fun y => Nw w5 y), d.w.cell? _ = _ := fun d => d.h.keep' u16
            have d17 : ∀ d : Wd (fun y => Nw w5 y), d.w.cell? _ = _ := fun d => d.h.keep' u17
            have d18 : ∀ d : Wd (fun y => Nw w5 y), d.w.cell? _ = _ := fun d => d.h.keep' u18
            have d19 : ∀ d : Wd (fun y => Nw w5 y), d.w.cell? _ = _ := fun d => d.h.keep' u19
            have d20 : ∀ d : Wd (fun y => Nw w5 y), d.w.cell? _ = _ := fun d => d.h.keep' u20
            have d21 : ∀ d : Wd (fun y => Nw w5 y), d.w.cell? _ = _ := fun d => d.h.keep' u21
            have d22 : ∀ d : Wd (fun y => Nw w5 y), d.w.cell? _ = _ := fun d => d.h.keep' u22
            have d23 : ∀ d : Wd (fun y => Nw w5 y), d.w.cell? _ = _ := fun d => d.h.keep' u23
            have d24 : ∀ d : Wd (fun y => Nw w5 y), d.w.cell? _ = _ := fun d => d.h.keep' u24
            have d25 : ∀ d : Wd (fun y => Nw w5 y), d.w.cell? _ = _ := fun d => d.h.keep' u25
            have d26 : ∀ d : Wd (fun y => Nw w5 y), d.w.cell? _ = _ := fun d => d.h.keep' u26
            have d27 : ∀ d : Wd (fun y => Nw w5 y), d.w.cell? _ = _ := fun d => d.h.keep' u27
            have d28 : ∀ d : Wd (fun y => Nw w5 y), d.w.cell? _ = _ := fun d => d.h.keep' u28
            have d29 : ∀ d : Wd (fun y => Nw w5 y), d.w.cell? _ = _ := fun d => d.h.keep' u29
            have hne : Nonempty (Wd (fun y => Nw w5 y)) := ⟨⟨_, Nw.refl w5⟩⟩
            repeat (first | go_big_quiet_step ((first | (with_reducible exact quietN nwS (H12.out _)) | (with_reducible exact quietN nwS (H21.out _)) | (with_reducible exact quietN nwS (H11.out _)))) | quiet_step ((first | (with_reducible exact quietN nwS (H12.out _)) | (with_reducible exact quietN nwS (H21.out _)) | (with_reducible exact quietN nwS (H11.out _)))))
            refine wpQuiet_nil ?_
            intro d
            have h6 := d.h
            clear d10 d11 d12 d13 d14 d15 d16 d17 d18 d19 d20 d21 d22 d23 d24 d25 d26 d27 d28 d29 hne
            revert h6
            generalize d.w = w6
            intro h6
            replace u10 := h6.keep' u10
            replace u11 := h6.keep' u11
            replace u12 := h6.keep' u12
            replace u13 := h6.keep' u13
            replace u14 := h6.keep' u14
            replace u15 := h6.keep' u15
            replace u16 := h6.keep' u16
            replace u17 := h6.keep' u17
            replace u18 := h6.keep' u18
            replace u19 := h6.keep' u19
            replace u20 := h6.keep' u20
            replace u21 := h6.keep' u21
            replace u22 := h6.keep' u22
            replace u23 := h6.keep' u23
            replace u24 := h6.keep' u24
            replace u25 := h6.keep' u25
            replace u26 := h6.keep' u26
            replace u27 := h6.keep' u27
            replace u28 := h6.keep' u28
            replace u29 := h6.keep' u29
            have hSp := alloc_at w6.drew #[.int .i64 x0, .int .i64 x1, .int .i64 x2, .int .i64 x3, .int .i64 x4, .int .i64 x5, .int .i64 x6, .int .i64 x7, .int .i64 x8, .int .i64 x9, .int .i64 y0, .int .i64 y1, .int .i64 y2, .int .i64 y3, .int .i64 y4, .int .i64 y5, .int .i64 y6, .int .i64 y7, .int .i64 y8, .int .i64 y9] 36
            have hsz : w6.drew.heap.size = w6.heap.size := rfl
            rw [hsz] at hSp
            have N7 : Nw w6 (w6.drew.alloc (.cells #[.int .i64 x0, .int .i64 x1, .int .i64 x2, .int .i64 x3, .int .i64 x4, .int .i64 x5, .int .i64 x6, .int .i64 x7, .int .i64 x8, .int .i64 x9, .int .i64 y0, .int .i64 y1, .int .i64 y2, .int .i64 y3, .int .i64 y4, .int .i64 y5, .int .i64 y6, .int .i64 y7, .int .i64 y8, .int .i64 y9] 36)) := ((Nw.refl w6).drew1).alloc _
            have hle := h6.sz
            have G6 := Lib.hid (G5.out.trans h6)
            have HN37 := Lib.hid (HN35.out.trans h6)
            have HR6 : Hid (SRow w6 wl.heap.size (.slice (some ⟨gS, 0, none⟩) S.length c3) S) := Lib.hid (own_keep HR5.out (h6.grownBy none) (fun _ _ => by simp))
            have HI6 := Lib.hid (HI5.out.nw h6)
            clear hW h6
            by_cases hj : j1 = j2
            · have b1 : (j1 == j2) = true := by simpa using hj
              have b2 : ((j1 : Int) == (j2 : Int)) = true := by simp; omega
              clear hj
              go_wp2
              refine wp_region_still_tail 8 (by kernel_rfl) (by kernel_rfl) ?_
              simp only [List.take_succ_cons, List.take_zero, List.drop_succ_cons, List.drop_zero]
              repeat still_step
              try refine wpStill_nil ?_
              change wpList _ _ _ _ _ w6.drew
              go_wp2
              have HP7 : Hid (SpAt (w6.alloc (.cells #[.int .i64 x0, .int .i64 x1, .int .i64 x2, .int .i64 x3, .int .i64 x4, .int .i64 x5, .int .i64 x6, .int .i64 x7, .int .i64 x8, .int .i64 x9, .int .i64 y0, .int .i64 y1, .int .i64 y2, .int .i64 y3, .int .i64 y4, .int .i64 y5, .int .i64 y6, .int .i64 y7, .int .i64 y8, .int .i64 y9] 36)).drew (.slice (some ⟨w6.heap.size, 0, none⟩) 2 2) [⟨x0, x1, x2, x3, ⟨x4, x5, x6, x7, x8, x9⟩⟩, ⟨y0, y1, y2, y3, ⟨y4, y5, y6, y7, y8, y9⟩⟩]) := Lib.hid (pair_at (T := 36) (fr := (0, 0)) (show (w6.alloc (.cells #[.int .i64 x0, .int .i64 x1, .int .i64 x2, .int .i64 x3, .int .i64 x4, .int .i64 x5, .int .i64 x6, .int .i64 x7, .int .i64 x8, .int .i64 x9, .int .i64 y0, .int .i64 y1, .int .i64 y2, .int .i64 y3, .int .i64 y4, .int .i64 y5, .int .i64 y6, .int .i64 y7, .int .i64 y8, .int .i64 y9] 36)).heap[w6.heap.size]? = _ from alloc_at w6 _ _))
              have N7' : Nw w6 (w6.alloc (.cells #[.int .i64 x0, .int .i64 x1, .int .i64 x2, .int .i64 x3, .int .i64 x4, .int .i64 x5, .int .i64 x6, .int .i64 x7, .int .i64 x8, .int .i64 x9, .int .i64 y0, .int .i64 y1, .int .i64 y2, .int .i64 y3, .int .i64 y4, .int .i64 y5, .int .i64 y6, .int .i64 y7, .int .i64 y8, .int .i64 y9] 36)).drew := ((Nw.refl w6).alloc _).drew1
              generalize (w6.alloc (.cells #[.int .i64 x0, .int .i64 x1, .int .i64 x2, .int .i64 x3, .int .i64 x4, .int .i64 x5, .int .i64 x6, .int .i64 x7, .int .i64 x8, .int .i64 x9, .int .i64 y0, .int .i64 y1, .int .i64 y2, .int .i64 y3, .int .i64 y4, .int .i64 y5, .int .i64 y6, .int .i64 y7, .int .i64 y8, .int .i64 y9] 36)).drew = w7 at *
              have hI7 := (HI6.out.nw N7')
              have hn900 : S.length ≤ 900 := by omega
              have hrow7 : SRow w7 wl.heap.size (.slice (some ⟨gS, 0, none⟩) S.length c3) S := own_keep HR6.out (N7'.grownBy none) (fun _ _ => by simp)
              have hcapS : S.length ≤ uc := by
                rcases hI7.2 with ⟨q, _⟩ | ⟨g', cap', cur, q, _, _, q3, _⟩
                · simp at q
                · simp only [Value.slice.injEq, Option.some.injEq, Addr.mk.injEq, and_true, true_and] at q; rw [rng_len] at q3; omega
              obtain ⟨v8, w8, hrun, hI8, hG8, a8, c8, hv8⟩ := order_app (hI7.nw (Nw.refl w7).drew1) (by omega) hn900 hcapS
              subst hv8
              have hsz8 : w7.drew.heap.size = w7.heap.size := rfl
              rw [hsz8] at hrun
              have hGo : w3.heap.size ≤ go := HO5.out go rfl
              have hgoS : gS ≠ go := by
                rintro rfl
                obtain ⟨c, hc⟩ := own_heap hrow7 rfl
                obtain ⟨c', hc'⟩ := own_heap hI7 rfl
                rw [hc] at hc'
                cases hc'
              have hrow8 : SRow w8 wl.heap.size (.slice (some ⟨gS, 0, none⟩) S.length c3) S := own_keep (own_keep hrow7 ((Nw.refl w7).drew1.grownBy none) (fun _ _ => by simp)) hG8 (fun g q r => by simp only [Value.ownBlock, Option.some.injEq] at q; subst q; exact hgoS (Option.some.inj r).symm)
              have hRe8 := respects_any _ _ S ((rng S.length).drop 1 ++ [1]) w8 (by rw [List.length_append, List.length_drop, rng_len]; simp; omega) hrow8.at hI8
              rw [resp_twice S (by omega)] at hRe8
              have HR8 := Lib.hid hrun
              have HRe8 := Lib.hid hRe8
              have hN8 : Nw w3 w8 := Below.grown ((HN37.out.trans N7').drew1) hG8 (Nat.le_trans HN37.out.sz N7'.sz) (fun k hk => by have := Option.some.inj hk; omega)
              have HN8 := Lib.hid (G3.out.trans hN8)
              have c1 : w7.cell? ⟨go, 1, none⟩ = some (.int .i64 1) := by rw [hI7.cell 1 (by rw [rng_len]; omega)]; simp [rng, List.getD, show 1 < S.length by omega]
              have c1d : ∀ y, Nw w7 y → y.cell? ⟨go, 1, none⟩ = some (.int .i64 1) := fun y h => h.keep' c1
              have e1 : ¬ uc = 1 := by omega
              have e2 : (1 : Int) ≤ (S.length : Int) := by omega
              have e3 : (S.length : Int) ≤ (uc : Int) := by omega
              have e4 : (1 : Int) < (S.length : Int) := by omega
              have e5 : ((S.length : Int) - 1).toNat = S.length - 1 := by omega
              have e6 : 1 ≤ uc := by omega
              clear hI7 hrow7 hrun hI8 hG8 hrow8 hRe8 hN8 c1d N7'
              go_region_law (first | (refine step_append rfl (.tmp 93) (.tmp 97) 41 rfl _ _ _ _ rfl rfl HR8.out ?_) | (go_simp; go_at_call 13; refine HRe8.out.mono ?_; rintro e w9 ⟨rfl, g9⟩))
              all_goals
                go_wp2
                go_ret
                exact ⟨by first | rfl | simp, HN8.out.trans g9⟩
            · have b1 : (j1 == j2) = false := by simpa using hj
              have b2 : ((j1 : Int) == (j2 : Int)) = false := by simp; omega
              clear hj
              go_wp2
              refine wp_region_still_tail 8 (by kernel_rfl) (by kernel_rfl) ?_
              simp only [List.take_succ_cons, List.take_zero, List.drop_succ_cons, List.drop_zero]
              repeat still_step
              try refine wpStill_nil ?_
              change wpList _ _ _ _ _ w6.drew
              go_wp2
              have HP7 : Hid (SpAt (w6.alloc (.cells #[.int .i64 x0, .int .i64 x1, .int .i64 x2, .int .i64 x3, .int .i64 x4, .int .i64 x5, .int .i64 x6, .int .i64 x7, .int .i64 x8, .int .i64 x9, .int .i64 y0, .int .i64 y1, .int .i64 y2, .int .i64 y3, .int .i64 y4, .int .i64 y5, .int .i64 y6, .int .i64 y7, .int .i64 y8, .int .i64 y9] 36)).drew (.slice (some ⟨w6.heap.size, 0, none⟩) 2 2) [⟨x0, x1, x2, x3, ⟨x4, x5, x6, x7, x8, x9⟩⟩, ⟨y0, y1, y2, y3, ⟨y4, y5, y6, y7, y8, y9⟩⟩]) := Lib.hid (pair_at (T := 36) (fr := (0, 0)) (show (w6.alloc (.cells #[.int .i64 x0, .int .i64 x1, .int .i64 x2, .int .i64 x3, .int .i64 x4, .int .i64 x5, .int .i64 x6, .int .i64 x7, .int .i64 x8, .int .i64 x9, .int .i64 y0, .int .i64 y1, .int .i64 y2, .int .i64 y3, .int .i64 y4, .int .i64 y5, .int .i64 y6, .int .i64 y7, .int .i64 y8, .int .i64 y9] 36)).heap[w6.heap.size]? = _ from alloc_at w6 _ _))
              have N7' : Nw w6 (w6.alloc (.cells #[.int .i64 x0, .int .i64 x1, .int .i64 x2, .int .i64 x3, .int .i64 x4, .int .i64 x5, .int .i64 x6, .int .i64 x7, .int .i64 x8, .int .i64 x9, .int .i64 y0, .int .i64 y1, .int .i64 y2, .int .i64 y3, .int .i64 y4, .int .i64 y5, .int .i64 y6, .int .i64 y7, .int .i64 y8, .int .i64 y9] 36)).drew := ((Nw.refl w6).alloc _).drew1
              generalize (w6.alloc (.cells #[.int .i64 x0, .int .i64 x1, .int .i64 x2, .int .i64 x3, .int .i64 x4, .int .i64 x5, .int .i64 x6, .int .i64 x7, .int .i64 x8, .int .i64 x9, .int .i64 y0, .int .i64 y1, .int .i64 y2, .int .i64 y3, .int .i64 y4, .int .i64 y5, .int .i64 y6, .int .i64 y7, .int .i64 y8, .int .i64 y9] 36)).drew = w7 at *
              have d10 : ∀ y, Nw w7 y → y.cell? _ = _ := fun y h => h.keep' (N7'.keep' u10)
              have d11 : ∀ y, Nw w7 y → y.cell? _ = _ := fun y h => h.keep' (N7'.keep' u11)
              have d12 : ∀ y, Nw w7 y → y.cell? _ = _ := fun y h => h.keep' (N7'.keep' u12)
              have d13 : ∀ y, Nw w7 y → y.cell? _ = _ := fun y h => h.keep' (N7'.keep' u13)
              have d14 : ∀ y, Nw w7 y → y.cell? _ = _ := fun y h => h.keep' (N7'.keep' u14)
              have d15 : ∀ y, Nw w7 y → y.cell? _ = _ := fun y h => h.keep' (N7'.keep' u15)
              have d16 : ∀ y, Nw w7 y → y.cell? _ = _ := fun y h => h.keep' (N7'.keep' u16)
              have d17 : ∀ y, Nw w7 y → y.cell? _ = _ := fun y h => h.keep' (N7'.keep' u17)
              have d18 : ∀ y, Nw w7 y → y.cell? _ = _ := fun y h => h.keep' (N7'.keep' u18)
              have d19 : ∀ y, Nw w7 y → y.cell? _ = _ := fun y h => h.keep' (N7'.keep' u19)
              have d20 : ∀ y, Nw w7 y → y.cell? _ = _ := fun y h => h.keep' (N7'.keep' u20)
              have d21 : ∀ y, Nw w7 y → y.cell? _ = _ := fun y h => h.keep' (N7'.keep' u21)
              have d22 : ∀ y, Nw w7 y → y.cell? _ = _ := fun y h => h.keep' (N7'.keep' u22)
              have d23 : ∀ y, Nw w7 y → y.cell? _ = _ := fun y h => h.keep' (N7'.keep' u23)
              have d24 : ∀ y, Nw w7 y → y.cell? _ = _ := fun y h => h.keep' (N7'.keep' u24)
              have d25 : ∀ y, Nw w7 y → y.cell? _ = _ := fun y h => h.keep' (N7'.keep' u25)
              have d26 : ∀ y, Nw w7 y → y.cell? _ = _ := fun y h => h.keep' (N7'.keep' u26)
              have d27 : ∀ y, Nw w7 y → y.cell? _ = _ := fun y h => h.keep' (N7'.keep' u27)
              have d28 : ∀ y, Nw w7 y → y.cell? _ = _ := fun y h => h.keep' (N7'.keep' u28)
              have d29 : ∀ y, Nw w7 y → y.cell? _ = _ := fun y h => h.keep' (N7'.keep' u29)
              clear u10 u11 u12 u13 u14 u15 u16 u17 u18 u19 u20 u21 u22 u23 u24 u25 u26 u27 u28 u29
              have HR01 : Hid (∀ (W : World) (B : Nat), Nw w7 W → W.heap[B]? = some (.cells #[.int .i64 0, .int .i64 1] 3 (0, 0)) → Calls Try.prog 13 #[.slice (some ⟨w6.heap.size, 0, none⟩) 2 2, .slice (some ⟨B, 0, none⟩) 2 2] W fun e w' => e = .returned (.bool false) ∧ Nw W w') := Lib.hid fun W B hy hB => by
                have := HRe.out W [0, 1] _ _ (HP7.out.nw hy) (ints_two hB) (by simp)
                rw [HU.out.1] at this
                exact this
              have HR10 : Hid (∀ (W : World) (B : Nat), Nw w7 W → W.heap[B]? = some (.cells #[.int .i64 1, .int .i64 0] 3 (0, 0)) → Calls Try.prog 13 #[.slice (some ⟨w6.heap.size, 0, none⟩) 2 2, .slice (some ⟨B, 0, none⟩) 2 2] W fun e w' => e = .returned (.bool true) ∧ Nw W w') := Lib.hid fun W B hy hB => by
                have := HRe.out W [1, 0] _ _ (HP7.out.nw hy) (ints_two hB) (by simp)
                rw [HU.out.2] at this
                exact this
              have HN7 := Lib.hid N7'
              have hB : Nw w7 w7 := Nw.refl w7
              clear N7'
              go_region_held3 (fun y => Nw w7 y) (first | assumption | exact Nw.drew1 (by assumption) | exact Nw.trans (by assumption) (by assumption) | exact Nw.alloc (by assumption) _ | exact Nw.trans (Nw.alloc (by assumption) _) (by assumption)) (first | (go_at_call 13; (with_reducible refine (HR01.out _ _ ?_ ?_).mono ?_); (first | assumption | exact ((Nw.refl _).alloc _).drew1); (first | exact alloc_at _ _ _ | exact drew_heap (alloc_at _ _ _)); rintro e w' ⟨rfl, hg⟩) | (go_at_call 13; (with_reducible refine (HR10.out _ _ ?_ ?_).mono ?_); (first | assumption | exact ((Nw.refl _).alloc _).drew1); (first | exact alloc_at _ _ _ | exact drew_heap (alloc_at _ _ _)); rintro e w' ⟨rfl, hg⟩) | (go_at_call 10; (with_reducible refine (H21.out _).mono ?_); rintro e w' ⟨rfl, hg⟩) | (go_at_call 10; (with_reducible refine (H12.out _).mono ?_); rintro e w' ⟨rfl, hg⟩))
              rename_i hF
              clear d10 d11 d12 d13 d14 d15 d16 d17 d18 d19 d20 d21 d22 d23 d24 d25 d26 d27 d28 d29
              go_wp2
              go_ret
              exact ⟨by first | rfl | simp, (G6.out.trans HN7.out).trans hF⟩
  
          case false =>
            refine region_in (fun y => Nw w5 y) (by kernel_rfl) (by kernel_rfl) (Nw.refl _).drew1 ?_
            have d10 : ∀ d : Wd (fun y => Nw w5 y), d.w.cell? _ = _ := fun d => d.h.keep' u10
            have d11 : ∀ d : Wd (fun y => Nw w5 y), d.w.cell? _ = _ := fun d => d.h.keep' u11
            have d12 : ∀ d : Wd (fun y => Nw w5 y), d.w.cell? _ = _ := fun d => d.h.keep' u12
            have d13 : ∀ d : Wd (fun y => Nw w5 y), d.w.cell? _ = _ := fun d => d.h.keep' u13
            have d14 : ∀ d : Wd (fun y => Nw w5 y), d.w.cell? _ = _ := fun d => d.h.keep' u14
            have d15 : ∀ d : Wd (fun y => Nw w5 y), d.w.cell? _ = _ := fun d => d.h.keep' u15
            have d16 : ∀ d : Wd (fun y => Nw w5 y), d.w.cell? _ = _ := fun d => d.h.keep' u16
            have d17 : ∀ d : Wd (fun y => Nw w5 y), d.w.cell? _ = _ := fun d => d.h.keep' u17
            have d18 : ∀ d : Wd (fun y => Nw w5 y), d.w.cell? _ = _ := fun d => d.h.keep' u18
            have d19 : ∀ d : Wd (fun y => Nw w5 y), d.w.cell? _ = _ := fun d => d.h.keep' u19
            have d20 : ∀ d : Wd (fun y => Nw w5 y), d.w.cell? _ = _ := fun d => d.h.keep' u20
            have d21 : ∀ d : Wd (fun y => Nw w5 y), d.w.cell? _ = _ := fun d => d.h.keep' u21
            have d22 : ∀ d : Wd (fun y => Nw w5 y), d.w.cell? _ = _ := fun d => d.h.keep' u22
            have d23 : ∀ d : Wd (fun y => Nw w5 y), d.w.cell? _ = _ := fun d => d.h.keep' u23
            have d24 : ∀ d : Wd (fun y => Nw w5 y), d.w.cell? _ = _ := fun d => d.h.keep' u24
            have d25 : ∀ d : Wd (fun y => Nw w5 y), d.w.cell? _ = _ := fun d => d.h.keep' u25
            have d26 : ∀ d : Wd (fun y => Nw w5 y), d.w.cell? _ = _ := fun d => d.h.keep' u26
            have d27 : ∀ d : Wd (fun y => Nw w5 y), d.w.cell? _ = _ := fun d => d.h.keep' u27
            have d28 : ∀ d : Wd (fun y => Nw w5 y), d.w.cell? _ = _ := fun d => d.h.keep' u28
            have d29 : ∀ d : Wd (fun y => Nw w5 y), d.w.cell? _ = _ := fun d => d.h.keep' u29
            have hne : Nonempty (Wd (fun y => Nw w5 y)) := ⟨⟨_, Nw.refl w5⟩⟩
            repeat (first | go_big_quiet_step ((first | (with_reducible exact quietN nwS (H12.out _)) | (with_reducible exact quietN nwS (H21.out _)) | (with_reducible exact quietN nwS (H11.out _)))) | quiet_step ((first | (with_reducible exact quietN nwS (H12.out _)) | (with_reducible exact quietN nwS (H21.out _)) | (with_reducible exact quietN nwS (H11.out _)))))
            refine wpQuiet_nil ?_
            intro d
            have h6 := d.h
            clear d10 d11 d12 d13 d14 d15 d16 d17 d18 d19 d20 d21 d22 d23 d24 d25 d26 d27 d28 d29 hne
            revert h6
            generalize d.w = w6
            intro h6
            replace u10 := h6.keep' u10
            replace u11 := h6.keep' u11
            replace u12 := h6.keep' u12
            replace u13 := h6.keep' u13
            replace u14 := h6.keep' u14
            replace u15 := h6.keep' u15
            replace u16 := h6.keep' u16
            replace u17 := h6.keep' u17
            replace u18 := h6.keep' u18
            replace u19 := h6.keep' u19
            replace u20 := h6.keep' u20
            replace u21 := h6.keep' u21
            replace u22 := h6.keep' u22
            replace u23 := h6.keep' u23
            replace u24 := h6.keep' u24
            replace u25 := h6.keep' u25
            replace u26 := h6.keep' u26
            replace u27 := h6.keep' u27
            replace u28 := h6.keep' u28
            replace u29 := h6.keep' u29
            have hSp := alloc_at w6.drew #[.int .i64 x0, .int .i64 x1, .int .i64 x2, .int .i64 x3, .int .i64 x4, .int .i64 x5, .int .i64 x6, .int .i64 x7, .int .i64 x8, .int .i64 x9, .int .i64 y0, .int .i64 y1, .int .i64 y2, .int .i64 y3, .int .i64 y4, .int .i64 y5, .int .i64 y6, .int .i64 y7, .int .i64 y8, .int .i64 y9] 36
            have hsz : w6.drew.heap.size = w6.heap.size := rfl
            rw [hsz] at hSp
            have N7 : Nw w6 (w6.drew.alloc (.cells #[.int .i64 x0, .int .i64 x1, .int .i64 x2, .int .i64 x3, .int .i64 x4, .int .i64 x5, .int .i64 x6, .int .i64 x7, .int .i64 x8, .int .i64 x9, .int .i64 y0, .int .i64 y1, .int .i64 y2, .int .i64 y3, .int .i64 y4, .int .i64 y5, .int .i64 y6, .int .i64 y7, .int .i64 y8, .int .i64 y9] 36)) := ((Nw.refl w6).drew1).alloc _
            have hle := h6.sz
            have G6 := Lib.hid (G5.out.trans h6)
            have HN37 := Lib.hid (HN35.out.trans h6)
            have HR6 : Hid (SRow w6 wl.heap.size (.slice (some ⟨gS, 0, none⟩) S.length c3) S) := Lib.hid (own_keep HR5.out (h6.grownBy none) (fun _ _ => by simp))
            have HI6 := Lib.hid (HI5.out.nw h6)
            clear hW h6
            by_cases hj : j1 = j2
            · have b1 : (j1 == j2) = true := by simpa using hj
              have b2 : ((j1 : Int) == (j2 : Int)) = true := by simp; omega
              clear hj
              go_wp2
              refine wp_region_still_tail 8 (by kernel_rfl) (by kernel_rfl) ?_
              simp only [List.take_succ_cons, List.take_zero, List.drop_succ_cons, List.drop_zero]
              repeat still_step
              try refine wpStill_nil ?_
              change wpList _ _ _ _ _ w6.drew
              go_wp2
              have HP7 : Hid (SpAt (w6.alloc (.cells #[.int .i64 x0, .int .i64 x1, .int .i64 x2, .int .i64 x3, .int .i64 x4, .int .i64 x5, .int .i64 x6, .int .i64 x7, .int .i64 x8, .int .i64 x9, .int .i64 y0, .int .i64 y1, .int .i64 y2, .int .i64 y3, .int .i64 y4, .int .i64 y5, .int .i64 y6, .int .i64 y7, .int .i64 y8, .int .i64 y9] 36)).drew (.slice (some ⟨w6.heap.size, 0, none⟩) 2 2) [⟨x0, x1, x2, x3, ⟨x4, x5, x6, x7, x8, x9⟩⟩, ⟨y0, y1, y2, y3, ⟨y4, y5, y6, y7, y8, y9⟩⟩]) := Lib.hid (pair_at (T := 36) (fr := (0, 0)) (show (w6.alloc (.cells #[.int .i64 x0, .int .i64 x1, .int .i64 x2, .int .i64 x3, .int .i64 x4, .int .i64 x5, .int .i64 x6, .int .i64 x7, .int .i64 x8, .int .i64 x9, .int .i64 y0, .int .i64 y1, .int .i64 y2, .int .i64 y3, .int .i64 y4, .int .i64 y5, .int .i64 y6, .int .i64 y7, .int .i64 y8, .int .i64 y9] 36)).heap[w6.heap.size]? = _ from alloc_at w6 _ _))
              have N7' : Nw w6 (w6.alloc (.cells #[.int .i64 x0, .int .i64 x1, .int .i64 x2, .int .i64 x3, .int .i64 x4, .int .i64 x5, .int .i64 x6, .int .i64 x7, .int .i64 x8, .int .i64 x9, .int .i64 y0, .int .i64 y1, .int .i64 y2, .int .i64 y3, .int .i64 y4, .int .i64 y5, .int .i64 y6, .int .i64 y7, .int .i64 y8, .int .i64 y9] 36)).drew := ((Nw.refl w6).alloc _).drew1
              generalize (w6.alloc (.cells #[.int .i64 x0, .int .i64 x1, .int .i64 x2, .int .i64 x3, .int .i64 x4, .int .i64 x5, .int .i64 x6, .int .i64 x7, .int .i64 x8, .int .i64 x9, .int .i64 y0, .int .i64 y1, .int .i64 y2, .int .i64 y3, .int .i64 y4, .int .i64 y5, .int .i64 y6, .int .i64 y7, .int .i64 y8, .int .i64 y9] 36)).drew = w7 at *
              have hI7 := (HI6.out.nw N7')
              have hn900 : S.length ≤ 900 := by omega
              have hrow7 : SRow w7 wl.heap.size (.slice (some ⟨gS, 0, none⟩) S.length c3) S := own_keep HR6.out (N7'.grownBy none) (fun _ _ => by simp)
              have hcapS : S.length ≤ uc := by
                rcases hI7.2 with ⟨q, _⟩ | ⟨g', cap', cur, q, _, _, q3, _⟩
                · simp at q
                · simp only [Value.slice.injEq, Option.some.injEq, Addr.mk.injEq, and_true, true_and] at q; rw [rng_len] at q3; omega
              obtain ⟨v8, w8, hrun, hI8, hG8, a8, c8, hv8⟩ := order_app (hI7.nw (Nw.refl w7).drew1) (by omega) hn900 hcapS
              subst hv8
              have hsz8 : w7.drew.heap.size = w7.heap.size := rfl
              rw [hsz8] at hrun
              have hGo : w3.heap.size ≤ go := HO5.out go rfl
              have hgoS : gS ≠ go := by
                rintro rfl
                obtain ⟨c, hc⟩ := own_heap hrow7 rfl
                obtain ⟨c', hc'⟩ := own_heap hI7 rfl
                rw [hc] at hc'
                cases hc'
              have hrow8 : SRow w8 wl.heap.size (.slice (some ⟨gS, 0, none⟩) S.length c3) S := own_keep (own_keep hrow7 ((Nw.refl w7).drew1.grownBy none) (fun _ _ => by simp)) hG8 (fun g q r => by simp only [Value.ownBlock, Option.some.injEq] at q; subst q; exact hgoS (Option.some.inj r).symm)
              have hRe8 := respects_any _ _ S ((rng S.length).drop 1 ++ [1]) w8 (by rw [List.length_append, List.length_drop, rng_len]; simp; omega) hrow8.at hI8
              rw [resp_twice S (by omega)] at hRe8
              have HR8 := Lib.hid hrun
              have HRe8 := Lib.hid hRe8
              have hN8 : Nw w3 w8 := Below.grown ((HN37.out.trans N7').drew1) hG8 (Nat.le_trans HN37.out.sz N7'.sz) (fun k hk => by have := Option.some.inj hk; omega)
              have HN8 := Lib.hid (G3.out.trans hN8)
              have c1 : w7.cell? ⟨go, 1, none⟩ = some (.int .i64 1) := by rw [hI7.cell 1 (by rw [rng_len]; omega)]; simp [rng, List.getD, show 1 < S.length by omega]
              have c1d : ∀ y, Nw w7 y → y.cell? ⟨go, 1, none⟩ = some (.int .i64 1) := fun y h => h.keep' c1
              have e1 : ¬ uc = 1 := by omega
              have e2 : (1 : Int) ≤ (S.length : Int) := by omega
              have e3 : (S.length : Int) ≤ (uc : Int) := by omega
              have e4 : (1 : Int) < (S.length : Int) := by omega
              have e5 : ((S.length : Int) - 1).toNat = S.length - 1 := by omega
              have e6 : 1 ≤ uc := by omega
              clear hI7 hrow7 hrun hI8 hG8 hrow8 hRe8 hN8 c1d N7'
              go_region_law (first | (refine step_append rfl (.tmp 93) (.tmp 97) 41 rfl _ _ _ _ rfl rfl HR8.out ?_) | (go_simp; go_at_call 13; refine HRe8.out.mono ?_; rintro e w9 ⟨rfl, g9⟩))
              all_goals
                go_wp2
                go_ret
                exact ⟨by first | rfl | simp, HN8.out.trans g9⟩
            · have b1 : (j1 == j2) = false := by simpa using hj
              have b2 : ((j1 : Int) == (j2 : Int)) = false := by simp; omega
              clear hj
              go_wp2
              refine wp_region_still_tail 8 (by kernel_rfl) (by kernel_rfl) ?_
              simp only [List.take_succ_cons, List.take_zero, List.drop_succ_cons, List.drop_zero]
              repeat still_step
              try refine wpStill_nil ?_
              change wpList _ _ _ _ _ w6.drew
              go_wp2
              have HP7 : Hid (SpAt (w6.alloc (.cells #[.int .i64 x0, .int .i64 x1, .int .i64 x2, .int .i64 x3, .int .i64 x4, .int .i64 x5, .int .i64 x6, .int .i64 x7, .int .i64 x8, .int .i64 x9, .int .i64 y0, .int .i64 y1, .int .i64 y2, .int .i64 y3, .int .i64 y4, .int .i64 y5, .int .i64 y6, .int .i64 y7, .int .i64 y8, .int .i64 y9] 36)).drew (.slice (some ⟨w6.heap.size, 0, none⟩) 2 2) [⟨x0, x1, x2, x3, ⟨x4, x5, x6, x7, x8, x9⟩⟩, ⟨y0, y1, y2, y3, ⟨y4, y5, y6, y7, y8, y9⟩⟩]) := Lib.hid (pair_at (T := 36) (fr := (0, 0)) (show (w6.alloc (.cells #[.int .i64 x0, .int .i64 x1, .int .i64 x2, .int .i64 x3, .int .i64 x4, .int .i64 x5, .int .i64 x6, .int .i64 x7, .int .i64 x8, .int .i64 x9, .int .i64 y0, .int .i64 y1, .int .i64 y2, .int .i64 y3, .int .i64 y4, .int .i64 y5, .int .i64 y6, .int .i64 y7, .int .i64 y8, .int .i64 y9] 36)).heap[w6.heap.size]? = _ from alloc_at w6 _ _))
              have N7' : Nw w6 (w6.alloc (.cells #[.int .i64 x0, .int .i64 x1, .int .i64 x2, .int .i64 x3, .int .i64 x4, .int .i64 x5, .int .i64 x6, .int .i64 x7, .int .i64 x8, .int .i64 x9, .int .i64 y0, .int .i64 y1, .int .i64 y2, .int .i64 y3, .int .i64 y4, .int .i64 y5, .int .i64 y6, .int .i64 y7, .int .i64 y8, .int .i64 y9] 36)).drew := ((Nw.refl w6).alloc _).drew1
              generalize (w6.alloc (.cells #[.int .i64 x0, .int .i64 x1, .int .i64 x2, .int .i64 x3, .int .i64 x4, .int .i64 x5, .int .i64 x6, .int .i64 x7, .int .i64 x8, .int .i64 x9, .int .i64 y0, .int .i64 y1, .int .i64 y2, .int .i64 y3, .int .i64 y4, .int .i64 y5, .int .i64 y6, .int .i64 y7, .int .i64 y8, .int .i64 y9] 36)).drew = w7 at *
              have d10 : ∀ y, Nw w7 y → y.cell? _ = _ := fun y h => h.keep' (N7'.keep' u10)
              have d11 : ∀ y, Nw w7 y → y.cell? _ = _ := fun y h => h.keep' (N7'.keep' u11)
              have d12 : ∀ y, Nw w7 y → y.cell? _ = _ := fun y h => h.keep' (N7'.keep' u12)
              have d13 : ∀ y, Nw w7 y → y.cell? _ = _ := fun y h => h.keep' (N7'.keep' u13)
              have d14 : ∀ y, Nw w7 y → y.cell? _ = _ := fun y h => h.keep' (N7'.keep' u14)
              have d15 : ∀ y, Nw w7 y → y.cell? _ = _ := fun y h => h.keep' (N7'.keep' u15)
              have d16 : ∀ y, Nw w7 y → y.cell? _ = _ := fun y h => h.keep' (N7'.keep' u16)
              have d17 : ∀ y, Nw w7 y → y.cell? _ = _ := fun y h => h.keep' (N7'.keep' u17)
              have d18 : ∀ y, Nw w7 y → y.cell? _ = _ := fun y h => h.keep' (N7'.keep' u18)
              have d19 : ∀ y, Nw w7 y → y.cell? _ = _ := fun y h => h.keep' (N7'.keep' u19)
              have d20 : ∀ y, Nw w7 y → y.cell? _ = _ := fun y h => h.keep' (N7'.keep' u20)
              have d21 : ∀ y, Nw w7 y → y.cell? _ = _ := fun y h => h.keep' (N7'.keep' u21)
              have d22 : ∀ y, Nw w7 y → y.cell? _ = _ := fun y h => h.keep' (N7'.keep' u22)
              have d23 : ∀ y, Nw w7 y → y.cell? _ = _ := fun y h => h.keep' (N7'.keep' u23)
              have d24 : ∀ y, Nw w7 y → y.cell? _ = _ := fun y h => h.keep' (N7'.keep' u24)
              have d25 : ∀ y, Nw w7 y → y.cell? _ = _ := fun y h => h.keep' (N7'.keep' u25)
              have d26 : ∀ y, Nw w7 y → y.cell? _ = _ := fun y h => h.keep' (N7'.keep' u26)
              have d27 : ∀ y, Nw w7 y → y.cell? _ = _ := fun y h => h.keep' (N7'.keep' u27)
              have d28 : ∀ y, Nw w7 y → y.cell? _ = _ := fun y h => h.keep' (N7'.keep' u28)
              have d29 : ∀ y, Nw w7 y → y.cell? _ = _ := fun y h => h.keep' (N7'.keep' u29)
              clear u10 u11 u12 u13 u14 u15 u16 u17 u18 u19 u20 u21 u22 u23 u24 u25 u26 u27 u28 u29
              have HR01 : Hid (∀ (W : World) (B : Nat), Nw w7 W → W.heap[B]? = some (.cells #[.int .i64 0, .int .i64 1] 3 (0, 0)) → Calls Try.prog 13 #[.slice (some ⟨w6.heap.size, 0, none⟩) 2 2, .slice (some ⟨B, 0, none⟩) 2 2] W fun e w' => e = .returned (.bool true) ∧ Nw W w') := Lib.hid fun W B hy hB => by
                have := HRe.out W [0, 1] _ _ (HP7.out.nw hy) (ints_two hB) (by simp)
                rw [HU.out.1] at this
                exact this
              have HR10 : Hid (∀ (W : World) (B : Nat), Nw w7 W → W.heap[B]? = some (.cells #[.int .i64 1, .int .i64 0] 3 (0, 0)) → Calls Try.prog 13 #[.slice (some ⟨w6.heap.size, 0, none⟩) 2 2, .slice (some ⟨B, 0, none⟩) 2 2] W fun e w' => e = .returned (.bool true) ∧ Nw W w') := Lib.hid fun W B hy hB => by
                have := HRe.out W [1, 0] _ _ (HP7.out.nw hy) (ints_two hB) (by simp)
                rw [HU.out.2] at this
                exact this
              have HN7 := Lib.hid N7'
              have hB : Nw w7 w7 := Nw.refl w7
              clear N7'
              go_region_held3 (fun y => Nw w7 y) (first | assumption | exact Nw.drew1 (by assumption) | exact Nw.trans (by assumption) (by assumption) | exact Nw.alloc (by assumption) _ | exact Nw.trans (Nw.alloc (by assumption) _) (by assumption)) (first | (go_at_call 13; (with_reducible refine (HR01.out _ _ ?_ ?_).mono ?_); (first | assumption | exact ((Nw.refl _).alloc _).drew1); (first | exact alloc_at _ _ _ | exact drew_heap (alloc_at _ _ _)); rintro e w' ⟨rfl, hg⟩) | (go_at_call 13; (with_reducible refine (HR10.out _ _ ?_ ?_).mono ?_); (first | assumption | exact ((Nw.refl _).alloc _).drew1); (first | exact alloc_at _ _ _ | exact drew_heap (alloc_at _ _ _)); rintro e w' ⟨rfl, hg⟩) | (go_at_call 10; (with_reducible refine (H21.out _).mono ?_); rintro e w' ⟨rfl, hg⟩) | (go_at_call 10; (with_reducible refine (H12.out _).mono ?_); rintro e w' ⟨rfl, hg⟩))
              rename_i hF
              clear d10 d11 d12 d13 d14 d15 d16 d17 d18 d19 d20 d21 d22 d23 d24 d25 d26 d27 d28 d29
              go_wp2
              go_ret
              exact ⟨by first | rfl | simp, (G6.out.trans HN7.out).trans hF⟩
  

end Go.Proofs.Ytekjmgdockfaiaa.historyRespects
