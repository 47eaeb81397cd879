
/- ParkerScript: its facts, and the walk. -/
import Derived.Test.YtbgpnjoghfjodaaPkN
namespace Go.Proofs.Ytbgpnjoghfjodaa
open Go.RowKit

/-- The program's threads and the document's own, side by side. -/
structure Sc (w W : World) (p o g r : Nat) (ss rs : List Int) : Prop where
  a : Acc w W p ss
  b : Rk W o g r rs
  gn : w.heap.size ≤ g
  rn : w.heap.size ≤ r
  po : p ≠ o
  pg : p ≠ g
  pr : p ≠ r
theorem Sc.nw {w W W' : World} {p o g r : Nat} {ss rs : List Int} (h : Sc w W p o g r ss rs) (k : Nw W W') : Sc w W' p o g r ss rs := ⟨h.a.step k, h.b.nw k, h.gn, h.rn, h.po, h.pg, h.pr⟩
theorem Sc.toA {w W W' : World} {p o g r : Nat} {ss ss' rs : List Int} (h : Sc w W p o g r ss rs) (k : AccTo w W p ss' W') : Sc w W' p o g r ss' rs :=
  ⟨k.1, h.b.tch k.2 (fun e => h.po e.symm) (fun e => h.pg e.symm) (fun e => h.pr e.symm), h.gn, h.rn, h.po, h.pg, h.pr⟩
theorem Sc.toB {w W W' : World} {p o g r : Nat} {ss rs rs' : List Int} (h : Sc w W p o g r ss rs) (k : RTo W o g r rs' W') : Sc w W' p o g r ss rs' :=
  ⟨⟨h.a.pk.tch k.2 (fun e => e.elim h.pg h.pr), h.a.new, nw_tch h.a.nw k.2 (fun _ e => e.elim (fun e => e ▸ h.gn) (fun e => e ▸ h.rn))⟩, k.1, h.gn, h.rn, h.po, h.pg, h.pr⟩
theorem sc_start {w W W' : World} {p o g r : Nat} {ss : List Int} (h : Acc w W p ss) (k : Rk W' o g r ss) (ho : W.heap.size ≤ o) (hg : W.heap.size ≤ g) (hr : W.heap.size ≤ r) (n : Nw W W') : Sc w W' p o g r ss ss := by
  have hp := h.pk.lt
  have hs := h.nw.sz
  exact ⟨h.step n, k, Nat.le_trans hs hg, Nat.le_trans hs hr, by omega, by omega, by omega⟩
theorem sc_parkA {w W : World} {p o g r : Nat} {ss rs : List Int} (h : Sc w W p o g r ss rs) (t : Int) (b : Bool) (E : Int) (ss' : List Int) (hR : parkR ss t = (b, E)) (hS : parkS ss t = ss') :
    Calls Try.prog 10 #[.pointer (some ⟨p, 0, none⟩), .int .i64 t] W fun e W' => e = .returned (.tuple #[.bool b, .int .i64 E]) ∧ Sc w W' p o g r ss' rs :=
  (acc_park h.a t b E ss' hR hS).mono fun _ _ ⟨h1, h2⟩ => ⟨h1, h.toA h2⟩
theorem sc_parkB {w W : World} {p o g r : Nat} {ss rs : List Int} (h : Sc w W p o g r ss rs) (t : Int) (b : Bool) (E : Int) (ss' : List Int) (hR : parkR rs t = (b, E)) (hS : parkS rs t = ss') :
    Calls Try.prog 22 #[.pointer (some ⟨o, 0, none⟩), .int .i64 t] W fun e W' => e = .returned (.tuple #[.bool b, .int .i64 E]) ∧ Sc w W' p o g r ss ss' := by
  refine (rpark_at h.b t).mono ?_
  rintro e W' ⟨h1, h2⟩
  rw [hR] at h1
  rw [hS] at h2
  exact ⟨h1, h.toB h2⟩
theorem sc_unparkA {w W : World} {p o g r : Nat} {ss rs : List Int} (h : Sc w W p o g r ss rs) (t : Int) (b : Bool) (E : Int) (ss' : List Int) (hR : unpR ss t = (b, E)) (hS : unpS ss t = ss') :
    Calls Try.prog 11 #[.pointer (some ⟨p, 0, none⟩), .int .i64 t] W fun e W' => e = .returned (.tuple #[.bool b, .int .i64 E]) ∧ Sc w W' p o g r ss' rs :=
  (acc_unpark h.a t b E ss' hR hS).mono fun _ _ ⟨h1, h2⟩ => ⟨h1, h.toA h2⟩
theorem sc_unparkB {w W : World} {p o g r : Nat} {ss rs : List Int} (h : Sc w W p o g r ss rs) (t : Int) (b : Bool) (E : Int) (ss' : List Int) (hR : unpR rs t = (b, E)) (hS : unpS rs t = ss') :
    Calls Try.prog 20 #[.pointer (some ⟨o, 0, none⟩), .int .i64 t] W fun e W' => e = .returned (.tuple #[.bool b, .int .i64 E]) ∧ Sc w W' p o g r ss ss' := by
  refine (runpark_at h.b t).mono ?_
  rintro e W' ⟨h1, h2⟩
  rw [hR] at h1
  rw [hS] at h2
  exact ⟨h1, h.toB h2⟩
theorem sc_dropA {w W : World} {p o g r : Nat} {ss rs : List Int} (h : Sc w W p o g r ss rs) (t : Int) (b : Bool) (ss' : List Int) (hR : isB ss t 2 = b) (hS : takeS ss t 2 = ss') :
    Calls Try.prog 13 #[.pointer (some ⟨p, 0, none⟩), .int .i64 t] W fun e W' => e = .returned (.bool b) ∧ Sc w W' p o g r ss' rs :=
  (acc_drop h.a t b ss' hR hS).mono fun _ _ ⟨h1, h2⟩ => ⟨h1, h.toA h2⟩
theorem sc_dropB {w W : World} {p o g r : Nat} {ss rs : List Int} (h : Sc w W p o g r ss rs) (t : Int) (b : Bool) (ss' : List Int) (hR : isB rs t 2 = b) (hS : takeS rs t 2 = ss') :
    Calls Try.prog 21 #[.pointer (some ⟨o, 0, none⟩), .int .i64 t] W fun e W' => e = .returned (.bool b) ∧ Sc w W' p o g r ss ss' := by
  refine (rdrop_at h.b t).mono ?_
  rintro e W' ⟨h1, h2⟩
  rw [hR] at h1
  rw [hS] at h2
  exact ⟨h1, h.toB h2⟩
theorem sc_parkedA {w W : World} {p o g r : Nat} {ss rs : List Int} (h : Sc w W p o g r ss rs) (t : Int) (b : Bool) (hR : isB ss t 1 = b) :
    Calls Try.prog 14 #[.pointer (some ⟨p, 0, none⟩), .int .i64 t] W fun e W' => e = .returned (.bool b) ∧ Sc w W' p o g r ss rs := by
  subst hR
  exact (parked_at h.a.pk t).mono fun _ _ ⟨h1, h2⟩ => ⟨h1, h.nw h2⟩
theorem sc_parkedB {w W : World} {p o g r : Nat} {ss rs : List Int} (h : Sc w W p o g r ss rs) (t : Int) (b : Bool) (hR : isB rs t 1 = b) :
    Calls Try.prog 23 #[.pointer (some ⟨o, 0, none⟩), .int .i64 t] W fun e W' => e = .returned (.bool b) ∧ W = W' := by
  subst hR
  exact rparked_at h.b t
theorem sc_tokenA {w W : World} {p o g r : Nat} {ss rs : List Int} (h : Sc w W p o g r ss rs) (t : Int) (b : Bool) (hR : isB ss t 2 = b) :
    Calls Try.prog 12 #[.pointer (some ⟨p, 0, none⟩), .int .i64 t] W fun e W' => e = .returned (.bool b) ∧ Sc w W' p o g r ss rs := by
  subst hR
  exact (token_at h.a.pk t).mono fun _ _ ⟨h1, h2⟩ => ⟨h1, h.nw h2⟩
theorem sc_tokenB {w W : World} {p o g r : Nat} {ss rs : List Int} (h : Sc w W p o g r ss rs) (t : Int) (b : Bool) (hR : isB rs t 2 = b) :
    Calls Try.prog 24 #[.pointer (some ⟨o, 0, none⟩), .int .i64 t] W fun e W' => e = .returned (.bool b) ∧ W = W' := by
  subst hR
  exact rtoken_at h.b t
def Keeps (w W : World) (p o g r : Nat) : Prop := ∃ ss, Sc w W p o g r ss ss
end Go.Proofs.Ytbgpnjoghfjodaa
namespace Go.Proofs.Ytbgpnjoghfjodaa.parkerScript
open Go.RowKit

set_option maxRecDepth 100000 in
set_option maxHeartbeats 8000000 in
theorem walk (N : Nat) (n0 : 1 ≤ N) (n1 : N ≤ 8) (a0 : Option Addr) (len0 cap0 : Nat) (f : Nat → Nat → Int) (w : World) (w0 : IsActs w a0 len0 cap0 f) (h0 : len0 ≤ 60) :
    Calls Try.prog 4 #[.int .i64 N, .slice a0 len0 cap0] w fun e w' => e = .returned (.bool true) ∧ Nw w w' := by
  have k0 : ¬ (60 : Int) < (len0 : Int) := by omega
  have R0 := Lib.hid w0
  clear w0
  go_enter Try.func4, Try.ntmps4
  go_wp2_with fail
  refine (lives_ok _).mono ?_
  rintro e wl ⟨rfl, g0⟩
  have G0 := Lib.hid g0
  clear g0
  go_wp2_with fail
  refine (acc_new w wl G0.out N N rfl n0 n1).mono ?_
  rintro e wa ⟨p, rfl, ha, _, _⟩
  have HA := Lib.hid ha
  clear ha k0
  go_wp2_with fail
  refine (rnew_at N n0 n1 wa).mono ?_
  rintro e wb ⟨o, g, r, rfl, rb, lo, lg, lr, nb⟩
  have H0 := Lib.hid (sc_start HA.out rb lo lg lr nb)
  clear rb lo lg lr nb HA
  go_wp2
  go_loopw [9] (fun vi wr => ∃ k : Nat, vi = .int .i64 k ∧ k ≤ len0 ∧ Hid (Keeps w wr p o g r)) (fun vi _ => len0 - (intOf vi).toNat)
  case atStart => exact ⟨0, rfl, Nat.zero_le _, Lib.hid ⟨_, H0.out⟩⟩
  case round =>
    clear H0
    obtain ⟨k, rfl, hk, HK⟩ := hrel
    by_cases hlt : k < len0
    · obtain ⟨b, ob, rfl, hml, hbl, hcs⟩ := R0.out.at (by omega)
      obtain ⟨ss, HS⟩ := HK.out
      have NN := HS.a.nw
      obtain ⟨c0, c1⟩ := hcs k hlt
      replace c0 := (NN.cell hbl).trans c0
      replace c1 := (NN.cell hbl).trans c1
      generalize f k = x at *
      have H := Lib.hid HS
      clear hcs NN HS HK
      go_wp2_with fail
      have hp0 : 0 ≤ x 0 % 4 := Int.emod_nonneg _ (by omega)
      have hp1 : x 0 % 4 < 4 := Int.emod_lt_of_pos _ (by omega)
      refine (pick_any (x 0) 4 _ (by omega) (by omega)).mono ?_
      rintro e wx ⟨rfl, rfl⟩
      clear c0 c1
      generalize x 0 % 4 = m at *
      generalize x 1 = t at *
      by_cases m2 : m = 2
      · subst m2
        obtain ⟨⟨B, E⟩, hR⟩ : ∃ x, unpR ss t = x := ⟨_, rfl⟩
        have HR := Lib.hid hR
        obtain ⟨ss2, hS⟩ : ∃ x, unpS ss t = x := ⟨_, rfl⟩
        have HS := Lib.hid hS
        clear hR hS
        go_wp2_with fail
        refine (sc_unparkA H.out t B E ss2 HR.out HS.out).mono ?_
        rintro e w1 ⟨rfl, h⟩
        replace H := Lib.hid h
        clear h
        go_wp2_with fail
        refine (sc_unparkB H.out t B E ss2 HR.out HS.out).mono ?_
        rintro e w2 ⟨rfl, h⟩
        replace H := Lib.hid h
        clear h
        obtain ⟨d1, hd⟩ : ∃ x, isB ss2 t 1 = x := ⟨_, rfl⟩
        have D1 := Lib.hid hd
        clear hd
        obtain ⟨d2, hd⟩ : ∃ x, isB ss2 t 2 = x := ⟨_, rfl⟩
        have D2 := Lib.hid hd
        clear hd
        go_wp2_with fail
        refine (sc_parkedA H.out t d1 D1.out).mono ?_
        rintro e w3 ⟨rfl, h⟩
        replace H := Lib.hid h
        clear h
        go_wp2_with fail
        refine (sc_parkedB H.out t d1 D1.out).mono ?_
        rintro e wq ⟨rfl, rfl⟩
        go_wp2_with fail
        refine (sc_tokenA H.out t d2 D2.out).mono ?_
        rintro e w5 ⟨rfl, h⟩
        replace H := Lib.hid h
        clear h
        go_wp2_with fail
        refine (sc_tokenB H.out t d2 D2.out).mono ?_
        rintro e wq ⟨rfl, rfl⟩
        go_wp2_with fail
        refine (acc_waiting H.out.a _ rfl).mono ?_
        rintro e wy ⟨v1, rfl, p1, _, p3⟩
        replace H := Lib.hid (H.out.nw p3)
        have I1 := Lib.hid p1
        clear p1 p3
        obtain ⟨ao1, cap1, rfl, _⟩ := I1.out.box
        go_wp2_with fail
        refine (rwaiting_at H.out.b).mono ?_
        rintro e wz ⟨v2, rfl, p1, _, p3⟩
        replace H := Lib.hid (H.out.nw p3)
        replace I1 := Lib.hid (I1.out.nw p3)
        have I2 := Lib.hid p1
        clear p1 p3
        obtain ⟨ao2, cap2, rfl, _⟩ := I2.out.box
        go_wp2_with fail
        refine (same_any _ _ _ _ I1.out I2.out).mono ?_
        rintro e wu ⟨rfl, p3⟩
        replace H := Lib.hid (H.out.nw p3)
        clear p3 I1 I2
        go_wp2_with fail
        refine (acc_len H.out.a _ rfl).mono ?_
        rintro e wq ⟨rfl, rfl⟩
        go_wp2_with fail
        refine (rlen_at H.out.b).mono ?_
        rintro e wq ⟨rfl, rfl⟩
        go_wp2
        go_roundw
        case rel => exact ⟨k + 1, by go_num, by omega, Lib.hid ⟨_, H.out⟩⟩
        case measure => simp [intOf]; omega
      · have e2 := ne_b m2
        by_cases m3 : m = 3
        · subst m3
          obtain ⟨B, hR⟩ : ∃ x, isB ss t 2 = x := ⟨_, rfl⟩
          have HR := Lib.hid hR
          obtain ⟨ss2, hS⟩ : ∃ x, takeS ss t 2 = x := ⟨_, rfl⟩
          have HS := Lib.hid hS
          clear hR hS
          go_wp2_with fail
          refine (sc_dropA H.out t B ss2 HR.out HS.out).mono ?_
          rintro e w7 ⟨rfl, h⟩
          replace H := Lib.hid h
          clear h
          go_wp2_with fail
          refine (sc_dropB H.out t B ss2 HR.out HS.out).mono ?_
          rintro e w8 ⟨rfl, h⟩
          replace H := Lib.hid h
          clear h
          obtain ⟨d1, hd⟩ : ∃ x, isB ss2 t 1 = x := ⟨_, rfl⟩
          have D1 := Lib.hid hd
          clear hd
          obtain ⟨d2, hd⟩ : ∃ x, isB ss2 t 2 = x := ⟨_, rfl⟩
          have D2 := Lib.hid hd
          clear hd
          go_wp2_with fail
          refine (sc_parkedA H.out t d1 D1.out).mono ?_
          rintro e w9 ⟨rfl, h⟩
          replace H := Lib.hid h
          clear h
          go_wp2_with fail
          refine (sc_parkedB H.out t d1 D1.out).mono ?_
          rintro e wq ⟨rfl, rfl⟩
          go_wp2_with fail
          refine (sc_tokenA H.out t d2 D2.out).mono ?_
          rintro e w11 ⟨rfl, h⟩
          replace H := Lib.hid h
          clear h
          go_wp2_with fail
          refine (sc_tokenB H.out t d2 D2.out).mono ?_
          rintro e wq ⟨rfl, rfl⟩
          go_wp2_with fail
          refine (acc_waiting H.out.a _ rfl).mono ?_
          rintro e wy ⟨v1, rfl, p1, _, p3⟩
          replace H := Lib.hid (H.out.nw p3)
          have I1 := Lib.hid p1
          clear p1 p3
          obtain ⟨ao1, cap1, rfl, _⟩ := I1.out.box
          go_wp2_with fail
          refine (rwaiting_at H.out.b).mono ?_
          rintro e wz ⟨v2, rfl, p1, _, p3⟩
          replace H := Lib.hid (H.out.nw p3)
          replace I1 := Lib.hid (I1.out.nw p3)
          have I2 := Lib.hid p1
          clear p1 p3
          obtain ⟨ao2, cap2, rfl, _⟩ := I2.out.box
          go_wp2_with fail
          refine (same_any _ _ _ _ I1.out I2.out).mono ?_
          rintro e wu ⟨rfl, p3⟩
          replace H := Lib.hid (H.out.nw p3)
          clear p3 I1 I2
          go_wp2_with fail
          refine (acc_len H.out.a _ rfl).mono ?_
          rintro e wq ⟨rfl, rfl⟩
          go_wp2_with fail
          refine (rlen_at H.out.b).mono ?_
          rintro e wq ⟨rfl, rfl⟩
          go_wp2
          go_roundw
          case rel => exact ⟨k + 1, by go_num, by omega, Lib.hid ⟨_, H.out⟩⟩
          case measure => simp [intOf]; omega
        · have e3 := ne_b m3
          obtain ⟨⟨B, E⟩, hR⟩ : ∃ x, parkR ss t = x := ⟨_, rfl⟩
          have HR := Lib.hid hR
          obtain ⟨ss2, hS⟩ : ∃ x, parkS ss t = x := ⟨_, rfl⟩
          have HS := Lib.hid hS
          clear hR hS
          go_wp2_with fail
          refine (sc_parkA H.out t B E ss2 HR.out HS.out).mono ?_
          rintro e w13 ⟨rfl, h⟩
          replace H := Lib.hid h
          clear h
          go_wp2_with fail
          refine (sc_parkB H.out t B E ss2 HR.out HS.out).mono ?_
          rintro e w14 ⟨rfl, h⟩
          replace H := Lib.hid h
          clear h
          obtain ⟨d1, hd⟩ : ∃ x, isB ss2 t 1 = x := ⟨_, rfl⟩
          have D1 := Lib.hid hd
          clear hd
          obtain ⟨d2, hd⟩ : ∃ x, isB ss2 t 2 = x := ⟨_, rfl⟩
          have D2 := Lib.hid hd
          clear hd
          go_wp2_with fail
          refine (sc_parkedA H.out t d1 D1.out).mono ?_
          rintro e w15 ⟨rfl, h⟩
          replace H := Lib.hid h
          clear h
          go_wp2_with fail
          refine (sc_parkedB H.out t d1 D1.out).mono ?_
          rintro e wq ⟨rfl, rfl⟩
          go_wp2_with fail
          refine (sc_tokenA H.out t d2 D2.out).mono ?_
          rintro e w17 ⟨rfl, h⟩
          replace H := Lib.hid h
          clear h
          go_wp2_with fail
          refine (sc_tokenB H.out t d2 D2.out).mono ?_
          rintro e wq ⟨rfl, rfl⟩
          go_wp2_with fail
          refine (acc_waiting H.out.a _ rfl).mono ?_
          rintro e wy ⟨v1, rfl, p1, _, p3⟩
          replace H := Lib.hid (H.out.nw p3)
          have I1 := Lib.hid p1
          clear p1 p3
          obtain ⟨ao1, cap1, rfl, _⟩ := I1.out.box
          go_wp2_with fail
          refine (rwaiting_at H.out.b).mono ?_
          rintro e wz ⟨v2, rfl, p1, _, p3⟩
          replace H := Lib.hid (H.out.nw p3)
          replace I1 := Lib.hid (I1.out.nw p3)
          have I2 := Lib.hid p1
          clear p1 p3
          obtain ⟨ao2, cap2, rfl, _⟩ := I2.out.box
          go_wp2_with fail
          refine (same_any _ _ _ _ I1.out I2.out).mono ?_
          rintro e wu ⟨rfl, p3⟩
          replace H := Lib.hid (H.out.nw p3)
          clear p3 I1 I2
          go_wp2_with fail
          refine (acc_len H.out.a _ rfl).mono ?_
          rintro e wq ⟨rfl, rfl⟩
          go_wp2_with fail
          refine (rlen_at H.out.b).mono ?_
          rintro e wq ⟨rfl, rfl⟩
          go_wp2
          go_roundw
          case rel => exact ⟨k + 1, by go_num, by omega, Lib.hid ⟨_, H.out⟩⟩
          case measure => simp [intOf]; omega
    · go_wp2
      go_ret
      obtain ⟨_, HS⟩ := HK.out
      exact ⟨rfl, HS.a.nw⟩

set_option maxRecDepth 100000 in
theorem law_any (n : Int) (a0 : Option Addr) (len0 cap0 : Nat) (f : Nat → Nat → Int) (w : World) (_ : (Lit.int .i64 n).wf = true) (w0 : IsActs w a0 len0 cap0 f) :
    Calls Try.prog 4 #[.int .i64 n, .slice a0 len0 cap0] w fun e w' => e = .returned (.bool true) ∧ Nw w w' := by
  by_cases h : len0 ≤ 60
  · by_cases q : 1 ≤ n ∧ n ≤ 8
    · obtain ⟨N, rfl⟩ := Int.eq_ofNat_of_zero_le (show 0 ≤ n by omega)
      exact walk N (by omega) (by omega) a0 len0 cap0 f w w0 h
    · have k0 : ¬ (60 : Int) < (len0 : Int) := by omega
      have Q := Lib.hid q
      clear q w0
      go_enter Try.func4, Try.ntmps4
      go_wp2_with fail
      refine (lives_ok _).mono ?_
      rintro e w0 ⟨rfl, g0⟩
      have G0 := Lib.hid g0
      clear g0
      go_wp2_with fail
      refine (acc_bad n _ Q.out).mono ?_
      rintro e w1 ⟨rfl, rfl⟩
      go_wp2_with fail
      refine (rnew_bad n _ Q.out).mono ?_
      rintro e w1 ⟨rfl, rfl⟩
      go_wp2
      go_ret
      exact ⟨rfl, G0.out⟩
  · have k0 : (60 : Int) < (len0 : Int) := by omega
    clear w0
    go_enter Try.func4, Try.ntmps4
    go_wp2_with fail
    refine (lives_ok _).mono ?_
    rintro e w0 ⟨rfl, g0⟩
    have G0 := Lib.hid g0
    clear g0
    go_wp2
    go_ret
    exact ⟨rfl, G0.out⟩
end Go.Proofs.Ytbgpnjoghfjodaa.parkerScript
