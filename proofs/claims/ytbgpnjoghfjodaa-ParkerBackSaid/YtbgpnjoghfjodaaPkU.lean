
/- ParkerBack: its facts, and the walk. -/
import Derived.Test.YtbgpnjoghfjodaaPkL
namespace Go.Proofs.Ytbgpnjoghfjodaa
open Go.RowKit

theorem set_back {ss : List Int} {m : Nat} {x : Int} (y : Int) (h : m < ss.length) (e : st ss m = x) : (ss.set m y).set m x = ss := by
  rw [List.set_set]
  have : ss[m] = x := by rw [← e]; simp [st, List.getD, h]
  rw [← this]
  exact List.set_getElem_self h
theorem set_as {ss : List Int} {m : Nat} {x : Int} (h : m < ss.length) (e : st ss m = x) : ss.set m x = ss := by
  have : ss[m] = x := by rw [← e]; simp [st, List.getD, h]
  rw [← this]
  exact List.set_getElem_self h
theorem st_at {ss : List Int} {m : Nat} (h : m < ss.length) (x : Int) : st (ss.set m x) m = x := by rw [st_set _ _ _ _ h, if_pos rfl]
theorem wait_set {ss : List Int} {m : Nat} {x : Int} (h : m < ss.length) (e : st ss m ≠ 1) (ex : x ≠ 1) : waitL (ss.set m x) = waitL ss := by
  unfold waitL waitT
  rw [List.length_set]
  congr 1
  refine List.filter_congr fun i _ => ?_
  unfold waitB
  rw [st_set _ _ _ _ h]
  by_cases q : m = i
  · subst q
    rw [if_pos rfl, decide_eq_false ex, decide_eq_false e]
  · rw [if_neg q]
/-- Threads of the call's own, and a list that Waiting returned. -/
structure Wa (w W : World) (p : Nat) (ss : List Int) (v : Value) (zs : List Int) : Prop where
  a : Acc w W p ss
  i : IS W v zs
  ne : ∀ k, v.ownBlock = some k → k ≠ p
theorem Wa.nw {w W W' : World} {p : Nat} {ss zs : List Int} {v : Value} (h : Wa w W p ss v zs) (k : Nw W W') : Wa w W' p ss v zs := ⟨h.a.step k, h.i.nw k, h.ne⟩
theorem Wa.to {w W W' : World} {p : Nat} {ss ss' zs : List Int} {v : Value} (h : Wa w W p ss v zs) (k : AccTo w W p ss' W') : Wa w W' p ss' v zs := ⟨k.1, h.i.tch k.2 (fun g e => h.ne g e), h.ne⟩
theorem wa_park {w W : World} {p : Nat} {ss zs : List Int} {v : Value} (h : Wa w W p ss v zs) (t : Int) (b : Bool) (E : Int) (ss' : List Int) (hR : parkR ss t = (b, E) ∧ parkS ss t = ss') :
    Calls Try.prog 10 #[.pointer (some ⟨p, 0, none⟩), .int .i64 t] W fun e W' => e = .returned (.tuple #[.bool b, .int .i64 E]) ∧ Wa w W' p ss' v zs :=
  (acc_park h.a t b E ss' hR.1 hR.2).mono fun _ _ ⟨h1, h2⟩ => ⟨h1, h.to h2⟩
theorem wa_unpark {w W : World} {p : Nat} {ss zs : List Int} {v : Value} (h : Wa w W p ss v zs) (t : Int) (b : Bool) (E : Int) (ss' : List Int) (hR : unpR ss t = (b, E) ∧ unpS ss t = ss') :
    Calls Try.prog 11 #[.pointer (some ⟨p, 0, none⟩), .int .i64 t] W fun e W' => e = .returned (.tuple #[.bool b, .int .i64 E]) ∧ Wa w W' p ss' v zs :=
  (acc_unpark h.a t b E ss' hR.1 hR.2).mono fun _ _ ⟨h1, h2⟩ => ⟨h1, h.to h2⟩
theorem wa_drop {w W : World} {p : Nat} {ss zs : List Int} {v : Value} (h : Wa w W p ss v zs) (t : Int) (b : Bool) (ss' : List Int) (hR : isB ss t 2 = b) (hS : takeS ss t 2 = ss') :
    Calls Try.prog 13 #[.pointer (some ⟨p, 0, none⟩), .int .i64 t] W fun e W' => e = .returned (.bool b) ∧ Wa w W' p ss' v zs :=
  (acc_drop h.a t b ss' hR hS).mono fun _ _ ⟨h1, h2⟩ => ⟨h1, h.to h2⟩
theorem wa_parked {w W : World} {p : Nat} {ss zs : List Int} {v : Value} (h : Wa w W p ss v zs) (t : Int) (b : Bool) (hR : isB ss t 1 = b) :
    Calls Try.prog 14 #[.pointer (some ⟨p, 0, none⟩), .int .i64 t] W fun e W' => e = .returned (.bool b) ∧ Wa w W' p ss v zs := by
  subst hR
  exact (parked_at h.a.pk t).mono fun _ _ ⟨h1, h2⟩ => ⟨h1, h.nw h2⟩
theorem wa_token {w W : World} {p : Nat} {ss zs : List Int} {v : Value} (h : Wa w W p ss v zs) (t : Int) (b : Bool) (hR : isB ss t 2 = b) :
    Calls Try.prog 12 #[.pointer (some ⟨p, 0, none⟩), .int .i64 t] W fun e W' => e = .returned (.bool b) ∧ Wa w W' p ss v zs := by
  subst hR
  exact (token_at h.a.pk t).mono fun _ _ ⟨h1, h2⟩ => ⟨h1, h.nw h2⟩
/-- Waiting once more: a list that is equal. -/
theorem wa_waiting {w W : World} {p : Nat} {ss zs : List Int} {v : Value} (h : Wa w W p ss v zs) (e : waitL ss = zs) :
    Calls Try.prog 16 #[.pointer (some ⟨p, 0, none⟩)] W fun e W' => ∃ v', e = .returned v' ∧ Wa w W' p ss v zs ∧ IS W' v' zs :=
  (acc_waiting h.a zs e).mono fun _ _ ⟨v', h1, h2, _, h4⟩ => ⟨v', h1, h.nw h4, h2⟩
theorem okt_len {ss : List Int} {m : Nat} (h : m < ss.length) (x : Int) : Okt (ss.set m x) m := okt_nat (by simpa using h)
end Go.Proofs.Ytbgpnjoghfjodaa
namespace Go.Proofs.Ytbgpnjoghfjodaa.parkerBack
open Go.RowKit

def Keeps (w W : World) (p N : Nat) : Prop := ∃ ss, Acc w W p ss ∧ ss.length = N

set_option maxRecDepth 100000 in
set_option maxHeartbeats 8000000 in
theorem walk (n : Int) (a0 : Option Addr) (len0 cap0 : Nat) (f : Nat → Nat → Int) (t0 : Int) (w : World) (w0 : IsActs w a0 len0 cap0 f) (h0 : len0 ≤ 40) :
    Calls Try.prog 7 #[.int .i64 n, .slice a0 len0 cap0, .int .i64 t0] w fun e w' => e = .returned (.bool true) ∧ Nw w w' := by
  have k0 : ¬ (40 : Int) < (len0 : Int) := by omega
  have R0 := Lib.hid w0
  clear w0
  go_enter Try.func7, Try.ntmps7
  go_wp2_with fail
  refine (lives_ok _).mono ?_
  rintro e wl ⟨rfl, g0⟩
  have G0 := Lib.hid g0
  clear g0
  go_wp2_with fail
  obtain ⟨N, hN, n0, n1⟩ := pick8 n
  have hp0 : 0 ≤ n % 8 := Int.emod_nonneg _ (by omega)
  have hp1 : n % 8 < 8 := Int.emod_lt_of_pos _ (by omega)
  refine (pick_any n 8 _ (by omega) (by omega)).mono ?_
  rintro e wq ⟨rfl, rfl⟩
  generalize n % 8 = nm at *
  go_wp2_with fail
  clear hN hp0 hp1
  refine (acc_new w wl G0.out N N rfl n0 n1).mono ?_
  rintro e wa ⟨p, rfl, ha, _, _⟩
  have HA := Lib.hid ha
  clear ha k0
  go_wp2
  go_loopw [9] (fun vi wr => ∃ k : Nat, vi = .int .i64 k ∧ k ≤ len0 ∧ Hid (Keeps w wr p N)) (fun vi _ => len0 - (intOf vi).toNat)
  case atStart => exact ⟨0, rfl, Nat.zero_le _, Lib.hid ⟨_, HA.out, by simp⟩⟩
  case round =>
    clear HA
    obtain ⟨k, rfl, hk, HK⟩ := hrel
    by_cases hlt : k < len0
    · obtain ⟨b, ob, rfl, hml, hbl, hcs⟩ := R0.out.at (by omega)
      obtain ⟨ss, HS, hl⟩ := HK.out
      have NN := HS.nw
      obtain ⟨c0, c1⟩ := hcs k hlt
      replace c0 := (NN.cell hbl).trans c0
      replace c1 := (NN.cell hbl).trans c1
      generalize f k = g at *
      have H := Lib.hid HS
      clear hcs NN HS HK
      go_wp2_with fail
      refine (acc_do H.out (g 0) (g 1)).mono ?_
      rintro e wx ⟨rfl, hd, _⟩
      replace H := Lib.hid hd
      clear hd c0 c1
      go_wp2
      go_roundw
      case rel => exact ⟨k + 1, by go_num, by omega, Lib.hid ⟨_, H.out, (doS_len _ _ _).trans hl⟩⟩
      case measure => simp [intOf]; omega
    · obtain ⟨ss, HS, hl⟩ := HK.out
      have H := Lib.hid HS
      obtain ⟨m, hm, hmN⟩ := pickN t0 N n0
      have hml : m < ss.length := by omega
      have q : Okt ss m := okt_nat hml
      have hbd := HS.vl.bd m hml
      have HL := Lib.hid hml
      have HB := Lib.hid (fun s (h : st ss m = s) => is_yes q h)
      clear HK HS
      go_wp2_with fail
      refine (pick_any t0 N _ (by omega) (by omega)).mono ?_
      rintro e wq ⟨rfl, rfl⟩
      rw [hm]
      clear hm
      obtain ⟨zs, hz⟩ : ∃ zs, waitL ss = zs := ⟨_, rfl⟩
      have HZ := Lib.hid hz
      clear hz
      go_wp2_with fail
      refine (acc_waiting H.out zs HZ.out).mono ?_
      rintro e w1 ⟨v, rfl, hI, hv, hG⟩
      replace H := Lib.hid (show Wa w w1 p ss v zs from ⟨H.out.step hG, hI, fun k e => by have := hv k e; have := H.out.pk.lt; omega⟩)
      clear hI hv hG
      obtain ⟨ao, cap, rfl, _⟩ := H.out.i.box
      have cs : st ss m = 1 ∨ st ss m = 2 ∨ st ss m = 0 := by omega
      clear hbd q hml hl hmN n0 n1 hlt hk R0
      rcases cs with h1 | h2 | h3
      · have K := Lib.hid h1
        clear h1
        go_wp2_with fail
        refine (wa_token H.out m false (is_no (by rw [K.out]; omega))).mono ?_
        rintro e w2 ⟨rfl, h⟩
        replace H := Lib.hid h
        clear h
        go_wp2_with fail
        refine (wa_parked H.out m true (HB.out 1 K.out)).mono ?_
        rintro e w3 ⟨rfl, h⟩
        replace H := Lib.hid h
        clear h
        go_wp2_with fail
        refine (wa_unpark H.out m true 0 (ss.set m 0) (unp_yes (okt_nat HL.out) K.out)).mono ?_
        rintro e w4 ⟨rfl, h⟩
        replace H := Lib.hid h
        clear h
        go_wp2_with fail
        refine (wa_park H.out m false 0 ((ss.set m 0).set m 1) (park_run (okt_len HL.out 0) (st_at HL.out 0))).mono ?_
        rintro e w5 ⟨rfl, h⟩
        replace H := Lib.hid h
        clear h
        rw [set_back 0 HL.out K.out] at H
        go_wp2_with fail
        refine (wa_waiting H.out HZ.out).mono ?_
        rintro e w6 ⟨v', rfl, h, hJ⟩
        replace H := Lib.hid h
        have HJ := Lib.hid hJ
        clear h hJ
        obtain ⟨ao', cap', rfl, _⟩ := HJ.out.box
        go_wp2_with fail
        refine (same_any _ _ _ zs HJ.out H.out.i).mono ?_
        rintro e w7 ⟨rfl, g⟩
        replace H := Lib.hid (H.out.nw g)
        clear g HJ
        go_wp2
        go_ret
        exact ⟨rfl, H.out.a.nw⟩
      · have K := Lib.hid h2
        clear h2
        go_wp2_with fail
        refine (wa_token H.out m true (HB.out 2 K.out)).mono ?_
        rintro e w2 ⟨rfl, h⟩
        replace H := Lib.hid h
        clear h
        go_wp2_with fail
        refine (wa_parked H.out m false (is_no (by rw [K.out]; omega))).mono ?_
        rintro e w3 ⟨rfl, h⟩
        replace H := Lib.hid h
        clear h
        go_wp2_with fail
        refine (wa_unpark H.out m false 0 (ss.set m 2) (unp_no (okt_nat HL.out) (by rw [K.out]; omega))).mono ?_
        rintro e w4 ⟨rfl, h⟩
        replace H := Lib.hid h
        clear h
        go_wp2_with fail
        refine (wa_token H.out m true (is_yes (okt_len HL.out 2) (st_at HL.out 2))).mono ?_
        rintro e w5 ⟨rfl, h⟩
        replace H := Lib.hid h
        clear h
        go_wp2_with fail
        refine (wa_waiting H.out ((wait_set HL.out (by rw [K.out]; omega) (by omega)).trans HZ.out)).mono ?_
        rintro e w6 ⟨v', rfl, h, hJ⟩
        replace H := Lib.hid h
        have HJ := Lib.hid hJ
        clear h hJ
        obtain ⟨ao', cap', rfl, _⟩ := HJ.out.box
        go_wp2_with fail
        refine (same_any _ _ _ zs HJ.out H.out.i).mono ?_
        rintro e w7 ⟨rfl, g⟩
        replace H := Lib.hid (H.out.nw g)
        clear g HJ
        go_wp2_with fail
        refine (wa_drop H.out m true _ (is_yes (okt_len HL.out 2) (st_at HL.out 2)) (take_yes (okt_len HL.out 2) (st_at HL.out 2))).mono ?_
        rintro e w8 ⟨rfl, h⟩
        replace H := Lib.hid h
        clear h
        rw [List.set_set] at H
        go_wp2_with fail
        refine (wa_token H.out m false (is_no (by rw [st_at HL.out]; omega))).mono ?_
        rintro e w9 ⟨rfl, h⟩
        replace H := Lib.hid h
        clear h
        go_wp2_with fail
        refine (wa_drop H.out m false _ (is_no (by rw [st_at HL.out]; omega)) (take_no (is_no (by rw [st_at HL.out]; omega)))).mono ?_
        rintro e w10 ⟨rfl, h⟩
        replace H := Lib.hid h
        clear h
        go_wp2
        go_ret
        exact ⟨rfl, H.out.a.nw⟩
      · have K := Lib.hid h3
        clear h3
        go_wp2_with fail
        refine (wa_token H.out m false (is_no (by rw [K.out]; omega))).mono ?_
        rintro e w2 ⟨rfl, h⟩
        replace H := Lib.hid h
        clear h
        go_wp2_with fail
        refine (wa_parked H.out m false (is_no (by rw [K.out]; omega))).mono ?_
        rintro e w3 ⟨rfl, h⟩
        replace H := Lib.hid h
        clear h
        go_wp2_with fail
        refine (wa_unpark H.out m false 0 (ss.set m 2) (unp_no (okt_nat HL.out) (by rw [K.out]; omega))).mono ?_
        rintro e w4 ⟨rfl, h⟩
        replace H := Lib.hid h
        clear h
        go_wp2_with fail
        refine (wa_token H.out m true (is_yes (okt_len HL.out 2) (st_at HL.out 2))).mono ?_
        rintro e w5 ⟨rfl, h⟩
        replace H := Lib.hid h
        clear h
        go_wp2_with fail
        refine (wa_waiting H.out ((wait_set HL.out (by rw [K.out]; omega) (by omega)).trans HZ.out)).mono ?_
        rintro e w6 ⟨v', rfl, h, hJ⟩
        replace H := Lib.hid h
        have HJ := Lib.hid hJ
        clear h hJ
        obtain ⟨ao', cap', rfl, _⟩ := HJ.out.box
        go_wp2_with fail
        refine (same_any _ _ _ zs HJ.out H.out.i).mono ?_
        rintro e w7 ⟨rfl, g⟩
        replace H := Lib.hid (H.out.nw g)
        clear g HJ
        go_wp2_with fail
        refine (wa_drop H.out m true _ (is_yes (okt_len HL.out 2) (st_at HL.out 2)) (take_yes (okt_len HL.out 2) (st_at HL.out 2))).mono ?_
        rintro e w8 ⟨rfl, h⟩
        replace H := Lib.hid h
        clear h
        rw [List.set_set] at H
        go_wp2_with fail
        refine (wa_token H.out m false (is_no (by rw [st_at HL.out]; omega))).mono ?_
        rintro e w9 ⟨rfl, h⟩
        replace H := Lib.hid h
        clear h
        go_wp2_with fail
        refine (wa_drop H.out m false _ (is_no (by rw [st_at HL.out]; omega)) (take_no (is_no (by rw [st_at HL.out]; omega)))).mono ?_
        rintro e w10 ⟨rfl, h⟩
        replace H := Lib.hid h
        clear h
        rw [set_as HL.out K.out] at H
        go_wp2_with fail
        refine (wa_park H.out m false 0 (ss.set m 1) (park_run (okt_nat HL.out) K.out)).mono ?_
        rintro e w11 ⟨rfl, h⟩
        replace H := Lib.hid h
        clear h
        go_wp2_with fail
        refine (wa_unpark H.out m true 0 ((ss.set m 1).set m 0) (unp_yes (okt_len HL.out 1) (st_at HL.out 1))).mono ?_
        rintro e w12 ⟨rfl, h⟩
        replace H := Lib.hid h
        clear h
        rw [set_back 1 HL.out K.out] at H
        go_wp2_with fail
        refine (wa_waiting H.out HZ.out).mono ?_
        rintro e w13 ⟨v', rfl, h, hJ⟩
        replace H := Lib.hid h
        have HJ := Lib.hid hJ
        clear h hJ
        obtain ⟨ao', cap', rfl, _⟩ := HJ.out.box
        go_wp2_with fail
        refine (same_any _ _ _ zs HJ.out H.out.i).mono ?_
        rintro e w14 ⟨rfl, g⟩
        replace H := Lib.hid (H.out.nw g)
        clear g HJ
        go_wp2_with fail
        refine (wa_token H.out m false (is_no (by rw [K.out]; omega))).mono ?_
        rintro e w15 ⟨rfl, h⟩
        replace H := Lib.hid h
        clear h
        go_wp2
        go_ret
        exact ⟨rfl, H.out.a.nw⟩

set_option maxRecDepth 100000 in
theorem law_any (n : Int) (a0 : Option Addr) (len0 cap0 : Nat) (f : Nat → Nat → Int) (t0 : Int) (w : World) (_ : (Lit.int .i64 n).wf = true) (w0 : IsActs w a0 len0 cap0 f) (_ : (Lit.int .i64 t0).wf = true) :
    Calls Try.prog 7 #[.int .i64 n, .slice a0 len0 cap0, .int .i64 t0] w fun e w' => e = .returned (.bool true) ∧ Nw w w' := by
  by_cases h : len0 ≤ 40
  · exact walk n a0 len0 cap0 f t0 w w0 h
  · have k0 : (40 : Int) < (len0 : Int) := by omega
    clear w0
    go_enter Try.func7, Try.ntmps7
    go_wp2_with fail
    refine (lives_ok _).mono ?_
    rintro e wl ⟨rfl, g0⟩
    have G0 := Lib.hid g0
    clear g0
    go_wp2
    go_ret
    exact ⟨rfl, G0.out⟩
end Go.Proofs.Ytbgpnjoghfjodaa.parkerBack
