
/- ParkerApart: its facts. -/
import Derived.Test.YtbgpnjoghfjodaaPkL
namespace Go.Proofs.Ytbgpnjoghfjodaa
open Go.RowKit

theorem set_other {ss : List Int} {i m : Nat} {x : Int} (e : i ≠ m) : st (ss.set i x) m = st ss m := by simp [st, List.getD, e]
theorem park_st {ss : List Int} {i : Nat} (h : i < ss.length) (m : Nat) : st (parkS ss i) m = if i = m then (if st ss i = 1 then 1 else if st ss i = 2 then 0 else 1) else st ss m := by
  by_cases e : i = m
  · subst e
    rw [if_pos rfl]
    by_cases k1 : st ss i = 1
    · rw [(park_twice (okt_nat h) k1).2, if_pos k1, k1]
    · rw [if_neg k1]
      unfold parkS
      simp only [Int.toNat_natCast]
      rw [if_pos (okt_nat h), if_neg k1]
      by_cases k2 : st ss i = 2
      · rw [if_pos k2, if_pos k2, st_set _ _ _ _ h, if_pos rfl]
      · rw [if_neg k2, if_neg k2, st_set _ _ _ _ h, if_pos rfl]
  · rw [if_neg e]
    unfold parkS
    simp only [Int.toNat_natCast]
    rw [if_pos (okt_nat h)]
    by_cases k1 : st ss i = 1
    · rw [if_pos k1]
    · rw [if_neg k1]
      by_cases k2 : st ss i = 2
      · rw [if_pos k2, set_other e]
      · rw [if_neg k2, set_other e]
theorem unp_st {ss : List Int} {i : Nat} (h : i < ss.length) (m : Nat) : st (unpS ss i) m = if i = m then (if st ss i = 1 then 0 else 2) else st ss m := by
  unfold unpS
  simp only [Int.toNat_natCast]
  rw [if_pos (okt_nat h)]
  by_cases e : i = m
  · subst e
    rw [if_pos rfl]
    by_cases k1 : st ss i = 1
    · rw [if_pos k1, if_pos k1, st_set _ _ _ _ h, if_pos rfl]
    · rw [if_neg k1, if_neg k1, st_set _ _ _ _ h, if_pos rfl]
  · rw [if_neg e]
    by_cases k1 : st ss i = 1
    · rw [if_pos k1, set_other e]
    · rw [if_neg k1, set_other e]
theorem take_st {ss : List Int} {i : Nat} (h : i < ss.length) (m : Nat) : st (takeS ss i 2) m = if i = m then (if st ss i = 2 then 0 else st ss i) else st ss m := by
  unfold takeS
  simp only [Int.toNat_natCast]
  by_cases e : i = m
  · subst e
    rw [if_pos rfl]
    by_cases k2 : st ss i = 2
    · rw [if_pos ⟨okt_nat h, k2⟩, if_pos k2, st_set _ _ _ _ h, if_pos rfl]
    · rw [if_neg (fun e => k2 e.2), if_neg k2]
  · rw [if_neg e]
    by_cases k2 : Okt ss i ∧ st ss i = 2
    · rw [if_pos k2, set_other e]
    · rw [if_neg k2]
theorem do_bad {ss : List Int} {t : Int} (k : Int) (h : ¬ Okt ss t) : doS ss k t = ss := by
  unfold doS
  by_cases k2 : k % 4 = 2
  · rw [if_pos k2, (unp_bad h).2]
  · rw [if_neg k2]
    by_cases k3 : k % 4 = 3
    · rw [if_pos k3, take_no (is_bad h)]
    · rw [if_neg k3, (park_bad h).2]
/-- A call for another thread. -/
theorem do_other {ss : List Int} {t : Int} {m : Nat} (k : Int) (h : t ≠ m) : st (doS ss k t) m = st ss m := by
  by_cases q : Okt ss t
  · obtain ⟨i, rfl, hi⟩ := q.n
    have e : i ≠ m := fun e => h (by rw [e])
    unfold doS
    by_cases k2 : k % 4 = 2
    · rw [if_pos k2, unp_st hi, if_neg e]
    · rw [if_neg k2]
      by_cases k3 : k % 4 = 3
      · rw [if_pos k3, take_st hi, if_neg e]
      · rw [if_neg k3, park_st hi, if_neg e]
  · rw [do_bad k q]
/-- A call for that thread, where both are alike. -/
theorem do_same {ss rs : List Int} {m : Nat} (k : Int) (h : st ss m = st rs m) (hs : m < ss.length) (hr : m < rs.length) : st (doS ss k m) m = st (doS rs k m) m := by
  unfold doS
  by_cases k2 : k % 4 = 2
  · rw [if_pos k2, if_pos k2, unp_st hs, unp_st hr, h]
  · rw [if_neg k2, if_neg k2]
    by_cases k3 : k % 4 = 3
    · rw [if_pos k3, if_pos k3, take_st hs, take_st hr, h]
    · rw [if_neg k3, if_neg k3, park_st hs, park_st hr, h]
/-- What the law keeps: two of the call's own, alike at thread m. -/
structure Two (w W : World) (p q : Nat) (ss rs : List Int) (m N : Nat) : Prop where
  a : Acc w W p ss
  b : Acc w W q rs
  ne : p ≠ q
  la : ss.length = N
  lb : rs.length = N
  eq : st ss m = st rs m
theorem Two.other {w W W' : World} {p q m N : Nat} {ss rs : List Int} (x : Two w W p q ss rs m N) (k t : Int) (h : t ≠ m) (g : AccTo w W p (doS ss k t) W') : Two w W' p q (doS ss k t) rs m N :=
  ⟨g.1, x.b.other g.2 x.a.new (fun e => x.ne e.symm), x.ne, (doS_len _ _ _).trans x.la, x.lb, (do_other k h).trans x.eq⟩
/-- Behind the first of two calls for thread m. -/
structure Half (w W : World) (p q : Nat) (ss rs : List Int) (m N : Nat) (k : Int) : Prop where
  a : Acc w W p (doS ss k m)
  b : Acc w W q rs
  ne : p ≠ q
  la : ss.length = N
  lb : rs.length = N
  eq : st ss m = st rs m
theorem Two.half {w W W' : World} {p q m N : Nat} {ss rs : List Int} (x : Two w W p q ss rs m N) (k : Int) (g : AccTo w W p (doS ss k m) W') : Half w W' p q ss rs m N k :=
  ⟨g.1, x.b.other g.2 x.a.new (fun e => x.ne e.symm), x.ne, x.la, x.lb, x.eq⟩
theorem Half.two {w W W' : World} {p q m N : Nat} {ss rs : List Int} {k : Int} (x : Half w W p q ss rs m N k) (hm : m < N) (g : AccTo w W q (doS rs k m) W') : Two w W' p q (doS ss k m) (doS rs k m) m N :=
  ⟨x.a.other g.2 x.b.new x.ne, g.1, x.ne, (doS_len _ _ _).trans x.la, (doS_len _ _ _).trans x.lb, do_same k x.eq (by rw [x.la]; exact hm) (by rw [x.lb]; exact hm)⟩
theorem Two.nw {w W W' : World} {p q m N : Nat} {ss rs : List Int} (x : Two w W p q ss rs m N) (g : Nw W W') : Two w W' p q ss rs m N := ⟨x.a.step g, x.b.step g, x.ne, x.la, x.lb, x.eq⟩
theorem Two.isB {w W : World} {p q m N : Nat} {ss rs : List Int} (x : Two w W p q ss rs m N) (s : Int) : isB rs m s = isB ss m s := by
  unfold Go.Proofs.Ytbgpnjoghfjodaa.isB
  refine decide_eq_decide.2 ?_
  unfold Okt
  simp only [Int.toNat_natCast]
  rw [x.la, x.lb, x.eq]
def Keeps (w W : World) (p q m N : Nat) : Prop := ∃ ss rs, Two w W p q ss rs m N
end Go.Proofs.Ytbgpnjoghfjodaa
namespace Go.Proofs.Ytbgpnjoghfjodaa.parkerApart
open Go.RowKit

set_option maxRecDepth 100000 in
set_option maxHeartbeats 8000000 in
theorem walk (n : Int) (a0 : Option Addr) (len0 cap0 : Nat) (f : Nat → Nat → Int) (t0 : Int) (w : World) (w0 : IsActs w a0 len0 cap0 f) (h0 : len0 ≤ 60) :
    Calls Try.prog 6 #[.int .i64 n, .slice a0 len0 cap0, .int .i64 t0] w fun e w' => e = .returned (.bool true) ∧ Nw w w' := by
  have k0 : ¬ (60 : Int) < (len0 : Int) := by omega
  have R0 := Lib.hid w0
  clear w0
  go_enter Try.func6, Try.ntmps6
  go_wp2_with fail
  refine (lives_ok _).mono ?_
  rintro e wl ⟨rfl, g0⟩
  have G0 := Lib.hid g0
  clear g0
  go_wp2_with fail
  obtain ⟨N, hN, n0, n1⟩ := pick8 n
  have hp0 : 0 ≤ n % 8 := Int.emod_nonneg _ (by omega)
  have hp1 : n % 8 < 8 := Int.emod_lt_of_pos _ (by omega)
  refine (pick_any n 8 _ (by omega) (by omega)).mono ?_
  rintro e wq ⟨rfl, rfl⟩
  generalize n % 8 = nm at *
  go_wp2_with fail
  clear hN hp0 hp1
  refine (acc_new w wl G0.out N N rfl n0 n1).mono ?_
  rintro e wa ⟨p, rfl, ha, _, _⟩
  have HA := Lib.hid ha
  clear ha k0
  go_wp2_with fail
  refine (acc_new w wa HA.out.nw N N rfl n0 n1).mono ?_
  rintro e wb ⟨q, rfl, hb, hq, g⟩
  have H0 := Lib.hid (show ∀ m, Two w wb p q (List.replicate N 0) (List.replicate N 0) m N from fun m => ⟨HA.out.step g, hb, by have := HA.out.pk.lt; omega, by simp, by simp, rfl⟩)
  clear hb hq g HA
  obtain ⟨m, hm, hmN⟩ := pickN t0 N n0
  go_wp2_with fail
  refine (pick_any t0 N _ (by omega) (by omega)).mono ?_
  rintro e wq ⟨rfl, rfl⟩
  rw [hm]
  have H1 := Lib.hid (H0.out m)
  clear H0 hm
  go_wp2
  go_loopw [11] (fun vi wr => ∃ k : Nat, vi = .int .i64 k ∧ k ≤ len0 ∧ Hid (Keeps w wr p q m N)) (fun vi _ => len0 - (intOf vi).toNat)
  case atStart => exact ⟨0, rfl, Nat.zero_le _, Lib.hid ⟨_, _, H1.out⟩⟩
  case round =>
    clear H1
    obtain ⟨k, rfl, hk, HK⟩ := hrel
    by_cases hlt : k < len0
    · obtain ⟨b, ob, rfl, hml, hbl, hcs⟩ := R0.out.at (by omega)
      obtain ⟨ss, rs, HS⟩ := HK.out
      have NN := HS.a.nw
      obtain ⟨c0, c1⟩ := hcs k hlt
      have HC := Lib.hid (fun W (g : Nw w W) => And.intro ((g.cell (o := ob + k * 2) hbl).trans c0) ((g.cell (o := ob + k * 2 + 1) hbl).trans c1))
      replace c0 := (NN.cell hbl).trans c0
      replace c1 := (NN.cell hbl).trans c1
      generalize f k = g at *
      have H := Lib.hid HS
      clear hcs NN HS HK
      go_wp2_with fail
      refine (acc_do H.out.a (g 0) (g 1)).mono ?_
      rintro e wx ⟨rfl, hd⟩
      clear c0 c1
      by_cases e : g 1 = (m : Int)
      · rw [e] at hd
        replace H := Lib.hid (H.out.half (g 0) hd)
        obtain ⟨c0, c1⟩ := HC.out _ H.out.a.nw
        rw [e] at c1
        clear hd
        go_wp2_with fail
        refine (acc_do H.out.b (g 0) m).mono ?_
        rintro e wy ⟨rfl, hd⟩
        replace H := Lib.hid (H.out.two hmN hd)
        clear hd c0 c1
        obtain ⟨b1, hb1⟩ : ∃ x, isB (doS ss (g 0) m) m 1 = x := ⟨_, rfl⟩
        obtain ⟨b2, hb2⟩ : ∃ x, isB (doS ss (g 0) m) m 2 = x := ⟨_, rfl⟩
        have HB1 := Lib.hid hb1
        have HB2 := Lib.hid hb2
        clear hb1 hb2
        go_wp2_with fail
        refine (parked_at H.out.a.pk m).mono ?_
        rintro e w1 ⟨rfl, g1⟩
        replace H := Lib.hid (H.out.nw g1)
        clear g1
        rw [HB1.out]
        go_wp2_with fail
        refine (parked_at H.out.b.pk m).mono ?_
        rintro e w2 ⟨rfl, g1⟩
        replace H := Lib.hid (H.out.nw g1)
        clear g1
        rw [H.out.isB 1, HB1.out]
        go_wp2_with fail
        refine (token_at H.out.a.pk m).mono ?_
        rintro e w3 ⟨rfl, g1⟩
        replace H := Lib.hid (H.out.nw g1)
        clear g1
        rw [HB2.out]
        go_wp2_with fail
        refine (token_at H.out.b.pk m).mono ?_
        rintro e w4 ⟨rfl, g1⟩
        replace H := Lib.hid (H.out.nw g1)
        clear g1
        rw [H.out.isB 2, HB2.out]
        go_wp2
        go_roundw
        case rel => exact ⟨k + 1, by go_num, by omega, Lib.hid ⟨_, _, H.out⟩⟩
        case measure => simp [intOf]; omega
      · have HD := Lib.hid hd
        replace H := Lib.hid (H.out.other (g 0) (g 1) e HD.out)
        obtain ⟨c0, c1⟩ := HC.out _ H.out.a.nw
        have e2 := ne_b e
        clear hd HD
        obtain ⟨b1, hb1⟩ : ∃ x, isB (doS ss (g 0) (g 1)) m 1 = x := ⟨_, rfl⟩
        obtain ⟨b2, hb2⟩ : ∃ x, isB (doS ss (g 0) (g 1)) m 2 = x := ⟨_, rfl⟩
        have HB1 := Lib.hid hb1
        have HB2 := Lib.hid hb2
        clear hb1 hb2
        go_wp2_with fail
        clear c0 c1
        refine (parked_at H.out.a.pk m).mono ?_
        rintro e w1 ⟨rfl, g1⟩
        replace H := Lib.hid (H.out.nw g1)
        clear g1
        rw [HB1.out]
        go_wp2_with fail
        refine (parked_at H.out.b.pk m).mono ?_
        rintro e w2 ⟨rfl, g1⟩
        replace H := Lib.hid (H.out.nw g1)
        clear g1
        rw [H.out.isB 1, HB1.out]
        go_wp2_with fail
        refine (token_at H.out.a.pk m).mono ?_
        rintro e w3 ⟨rfl, g1⟩
        replace H := Lib.hid (H.out.nw g1)
        clear g1
        rw [HB2.out]
        go_wp2_with fail
        refine (token_at H.out.b.pk m).mono ?_
        rintro e w4 ⟨rfl, g1⟩
        replace H := Lib.hid (H.out.nw g1)
        clear g1
        rw [H.out.isB 2, HB2.out]
        go_wp2
        go_roundw
        case rel => exact ⟨k + 1, by go_num, by omega, Lib.hid ⟨_, _, H.out⟩⟩
        case measure => simp [intOf]; omega
    · go_wp2
      go_ret
      obtain ⟨_, _, HS⟩ := HK.out
      exact ⟨rfl, HS.a.nw⟩

theorem law_any (n : Int) (a0 : Option Addr) (len0 cap0 : Nat) (f : Nat → Nat → Int) (t0 : Int) (w : World) (_ : (Lit.int .i64 n).wf = true) (w0 : IsActs w a0 len0 cap0 f) (_ : (Lit.int .i64 t0).wf = true) :
    Calls Try.prog 6 #[.int .i64 n, .slice a0 len0 cap0, .int .i64 t0] w fun e w' => e = .returned (.bool true) ∧ Nw w w' := by
  by_cases h : len0 ≤ 60
  · exact walk n a0 len0 cap0 f t0 w w0 h
  · have k0 : (60 : Int) < (len0 : Int) := by omega
    clear w0
    go_enter Try.func6, Try.ntmps6
    go_wp2_with fail
    refine (lives_ok _).mono ?_
    rintro e wl ⟨rfl, g0⟩
    have G0 := Lib.hid g0
    clear g0
    go_wp2
    go_ret
    exact ⟨rfl, G0.out⟩
end Go.Proofs.Ytbgpnjoghfjodaa.parkerApart
