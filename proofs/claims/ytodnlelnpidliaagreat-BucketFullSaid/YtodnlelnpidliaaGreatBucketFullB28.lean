/- Texts merged: BeC, BeD -/
import Derived.Test.YtodnlelnpidliaaGreatBucketFullB27

/- BucketFull: the walk. -/
section
namespace Go.Proofs.YtodnlelnpidliaaGreat.bucketFull
open Go.RowKit Go.Shelf
set_option linter.unusedVariables false

theorem down (a b : Nat) (h : b < a) : a - (intOf (.int .i64 ((b : Int) + 1))).toNat < a - (intOf (.int .i64 (b : Int))).toNat := by
  show a - ((b : Int) + 1).toNat < a - (b : Int).toNat
  omega
theorem knI_none : knI 0 = true := by decide +kernel
/-- What Get says of what Ask has just put in. -/
theorem got_ok {most k : Nat} {hs : List Hq} {L : List Bool} (b : BInv most k hs L) (hk : k ≤ 1000) {t r txn m : Int} (he : askBE most hs L t r txn m = 0) :
    ∃ (b2 s : Int) (g : Bool), askBR most hs L t r txn m = ((fre L : Int), g, 0) ∧ getBD (askBS most hs L t r txn m).1 (fre L) = (t, r, ⟨fre L, txn, b2, m, s⟩, true) ∧ (b2 == m) = g ∧ knI b2 = true ∧ liv (askBS most hs L t r txn m).2 = liv L + 1 := by
  obtain ⟨h1, h2, h3, h4, h5⟩ := ask_get b hk he
  have hR : askBR most hs L t r txn m = ((fre L : Int), (askQ (hdB hs t r).W (hdB hs t r).q (fre L) txn m).2.2, 0) := by unfold askBR; rw [if_pos he]
  have hG : getBD (askBS most hs L t r txn m).1 (fre L) = (t, r, newR hs L t r txn m, true) := by
    unfold getBD
    rw [h1]
    simp only
    unfold rqB
    rw [h2]
    rfl
  rw [hR, hG]
  unfold newR
  cases (askQ (hdB hs t r).W (hdB hs t r).q (fre L) txn m).2.2
  · exact ⟨0, _, false, rfl, rfl, by have : ¬ (0 : Int) = m := fun e => h5 e.symm; simp [this], knI_none, h3⟩
  · exact ⟨m, 0, true, rfl, rfl, by simp, h4, h3⟩
/-- The first request of the first head. -/
theorem first_of {w : World} {o : Nat} {v : Value} {hs : List Hq} (h : HdsAt w o v hs) (hne : hs ≠ []) (hq : ∀ x ∈ hs, x.q ≠ []) :
    ∃ (b o1 c b' o2 c' n n' : Nat) (x : Hq) (i : Int), v = .slice (some ⟨b, o1, none⟩) (n + 1) c ∧ w.cell? ⟨b, o1 + 2, none⟩ = some (.slice (some ⟨b', o2, none⟩) (n' + 1) c') ∧ w.cell? ⟨b', o2, none⟩ = some (.int .i64 i) ∧ x ∈ hs ∧ ∃ r ∈ x.q, r.id = i := by
  obtain ⟨lm, ⟨hr, hx⟩, rfl⟩ := h.rd
  cases lm with
  | nil => exact absurd rfl hne
  | cons x l =>
    obtain ⟨a, c, e, ⟨q, _⟩ | ⟨b, o1, e2, hc⟩⟩ := hr
    · cases q
    subst e2
    have hc0 := hc.cell 0 (by simp) 2 _ rfl
    obtain ⟨hxr, _⟩ := hx x (by simp)
    have hqx := hq x.h (by simp)
    obtain ⟨a', c', e', ⟨q, _⟩ | ⟨b', o2, e3, hc'⟩⟩ := hxr
    · exact absurd q hqx
    subst e3
    obtain ⟨r, q, hrq⟩ := List.exists_cons_of_ne_nil hqx
    have h0 : 0 < x.h.q.length := by rw [hrq]; simp
    have hd0 := hc'.cell 0 h0 0 _ rfl
    have e4 : x.h.q[0] = r := by simp [hrq]
    rw [e4] at hd0
    unfold hmV at e'
    simp only [Value.slice.injEq] at e'
    obtain ⟨e5, _, e6⟩ := e'
    refine ⟨b, o1, c, b', o2, x.c, l.length, q.length, x.h, r.id, e, ?_, ?_, by simp, r, by rw [hrq]; simp, rfl⟩
    · have : x.h.q.length = q.length + 1 := by rw [hrq]; rfl
      rw [← this, ← e5]
      simpa [hmrow] using hc0
    · simpa [rqrow] using hd0
set_option maxRecDepth 100000 in
set_option maxHeartbeats 8000000 in
theorem walk (i0 i1 : Int) (n N : Nat) (e0 : 1 + i0 % 4 = n) (e1 : i1 % 8 = N) (h1 : 1 ≤ n) (h4 : n ≤ 4) (hN : N < 8) (v : Value) (l : List Cl) (A : Cl) (hA : A.ok) (w : World) (hl : Rd 6 clrow w v l) (hok : ∀ R ∈ l, Cl.ok R) (h0 : l.length ≤ 50) :
    Calls Tryz.prog 5 #[.int .i64 i0, .int .i64 i1, v, clV A] w fun e w' => e = .returned (.bool true) ∧ Nw w w' := by
  have HL := Lib.hid (And.intro hl hok)
  obtain ⟨va, vc, rfl, _⟩ := hl
  have d0 : decide ((50 : Int) < (l.length : Int)) = false := by rw [decide_eq_false_iff_not]; omega
  obtain ⟨x0, hx0⟩ : ∃ x, i0 % 4 = x := ⟨_, rfl⟩
  have hw0 : wrap64 (1 + x0) = (n : Int) := by rw [hx0] at e0; rw [e0]; unfold wrap64; omega
  obtain ⟨A0, A1, A2, A3, A4, A5⟩ := A
  obtain ⟨hA1, hA2⟩ := hA
  unfold clV
  simp only at hA1 hA2 ⊢
  have hwa : wfN (A1, A2) := ⟨hA1, hA2⟩
  have HWA := Lib.hid hwa
  obtain ⟨z, hz⟩ : ∃ z, w.alloc (.cells #[.int .i64 A0, .int .i64 A1, .int .i64 A2, .int .i64 A3, .int .i64 A4, .int .i64 A5] 41) = z := ⟨_, rfl⟩
  have hal := allocAt w (.cells #[.int .i64 A0, .int .i64 A1, .int .i64 A2, .int .i64 A3, .int .i64 A4, .int .i64 A5] 41)
  have hN0 : Nw w (w.alloc (.cells #[.int .i64 A0, .int .i64 A1, .int .i64 A2, .int .i64 A3, .int .i64 A4, .int .i64 A5] 41)) := (Nw.refl w).alloc _
  rw [hz] at hal hN0
  have HZ := Lib.hid hz
  have HX := Lib.hid (And.intro hal hN0)
  have HP0 := Lib.hid (fun W => pick_any i0 4 W (by omega) (by omega))
  have HP1 := Lib.hid (fun W => pick_any i1 8 W (by omega) (by omega))
  rw [hx0] at HP0
  rw [e1] at HP1
  have HB := Lib.hid (And.intro h1 (And.intro h4 (And.intro hN h0)))
  clear hz hal hN0 hwa hA1 hA2 hok e0 e1 hx0 h1 h4 hN h0
  go_enter Tryz.func5, Tryz.ntmps5
  go_wp2_with fail
  rw [HZ.out]
  refine (lives_b z).mono ?_
  rintro e w1 ⟨rfl, g1⟩
  have HG1 := Lib.hid g1
  clear g1
  go_wp2_with (go_at_call 8; (first | (with_reducible refine (HP0.out _).mono ?_) | (with_reducible refine (HP1.out _).mono ?_)); rintro e w' ⟨rfl, rfl⟩)
  refine (made_d z w1 HG1.out n N HB.out.1 (by have := HB.out.2.1; omega) (by have := HB.out.2.2.1; omega)).mono ?_
  rintro e w2 ⟨o, mb, po, F, rfl, hb⟩
  have HS := Lib.hid (show BaS z o mb po n 0 w2 from ⟨_, _, _, hb⟩)
  clear hb HG1 HP0 HP1
  go_wp2_with fail
  go_loopw [12] (fun vi wr => ∃ j : Nat, vi = .int .i64 j ∧ j ≤ l.length ∧ Hid (BaS z o mb po n j wr)) (fun vi _ => l.length - (intOf vi).toNat)
  case atStart => exact ⟨0, rfl, Nat.zero_le _, HS⟩
  case round =>
    clear HS
    obtain ⟨j, rfl, hj, HK⟩ := hrel
    by_cases hjl : j < l.length
    · obtain ⟨a', c', e, ⟨q, _⟩ | ⟨b, ob, e2, hc⟩⟩ := HL.out.1
      · rw [q] at hjl; simp at hjl
      subst e2
      cases e
      have hwj : wrap64 ((j : Int) + 1) = (j : Int) + 1 := by have := HB.out.2.2.2; unfold wrap64; omega
      have hji : (j : Int) < (l.length : Int) := by omega
      obtain ⟨l0, L0, F0, hba⟩ := HK.out
      have hce := (hc.nw (HX.out.2.trans hba.nw)).cell j hjl
      have hwf := HL.out.2 _ (List.getElem_mem hjl)
      clear hba hc
      generalize l[j] = R at *
      obtain ⟨b0, b1, b2, b3, b4, b5⟩ := R
      have c0 := hce 0 _ rfl
      have c1 := hce 1 _ rfl
      have c2 := hce 2 _ rfl
      have c3 := hce 3 _ rfl
      have c4 := hce 4 _ rfl
      have c5 := hce 5 _ rfl
      simp only [Nat.add_zero] at c0
      have HC := Lib.hid (call_b HK.out (by have := HB.out.2.2.2; omega) (by have := HB.out.2.1; omega) b0 b1 b2 b3 b4 b5 hwf)
      clear hce hwf HK
      go_wp2_with fail
      refine HC.out.mono ?_
      rintro e w3 ⟨⟨v3, rfl⟩, hs⟩
      have HK := Lib.hid hs
      clear hs HC c0 c1 c2 c3 c4 c5
      go_wp2_with fail
      go_roundw
      case rel => exact ⟨j + 1, congrArg (Value.int .i64) (by omega), by omega, HK⟩
      case measure =>
        rw [hwj]
        exact down l.length j hjl
    · obtain rfl : j = l.length := by omega
      obtain ⟨l0, L0, F0, hba⟩ := HK.out
      have HBa := Lib.hid hba
      have hxb := hba.nw.at' HX.out.1
      clear HK hba
      have x0 := hcell (j := 0) hxb
      have x1 := hcell (j := 1) hxb
      have x2 := hcell (j := 2) hxb
      have x3 := hcell (j := 3) hxb
      have x4 := hcell (j := 4) hxb
      have x5 := hcell (j := 5) hxb
      have xl := hlt hxb
      have hkk : l.length ≤ 800 := by have := HB.out.2.2.2; omega
      have hnn : n ≤ 64 := by have := HB.out.2.1; omega
      have hkk2 : l.length + 1 ≤ 800 := by have := HB.out.2.2.2; omega
      obtain ⟨K, hK⟩ : ∃ K, liv L0 = K := ⟨_, rfl⟩
      have HKv := Lib.hid hK
      have hKi : K ≤ 128 := by
        have e1 := HBa.out.db.pol.sz
        have e2 : liv L0 ≤ L0.length := List.countP_le_length
        omega
      have HHd := Lib.hid (ba_heads HBa.out)
      have HLo := Lib.hid HBa.out.low
      clear hK hj hjl
      go_wp2_with fail
      refine HHd.out.mono ?_
      rintro e y1 ⟨v0, rfl, hh0, g1⟩
      have HH0 := Lib.hid hh0
      have hxb1 := g1.at' hxb
      have HB1 := Lib.hid (HBa.out.step g1)
      have HLi := Lib.hid (ba_live HB1.out K HKv.out)
      obtain ⟨s0, s1, s2, hs0⟩ : ∃ a b c, v0 = .slice a b c := by
        obtain ⟨lm, ho, _⟩ := hh0
        rcases oform ho with ⟨e, _⟩ | ⟨_, _, e⟩
        · exact ⟨_, _, _, e⟩
        · exact ⟨_, _, _, e⟩
      clear hh0 g1 HHd HBa hxb x0 x1 x2 x3 x4 x5 xl
      subst hs0
      go_wp2_with fail
      refine HLi.out.mono ?_
      rintro e y2 ⟨rfl, g2⟩
      have hxb2 := g2.at' hxb1
      have HB2 := Lib.hid (HB1.out.step g2)
      have HH2 := Lib.hid (HH0.out.nw g2)
      clear HLi HB1 HH0 hxb1 g2
      have x0 := hcell (j := 0) hxb2
      have x1 := hcell (j := 1) hxb2
      have x2 := hcell (j := 2) hxb2
      have x3 := hcell (j := 3) hxb2
      have x4 := hcell (j := 4) hxb2
      have x5 := hcell (j := 5) hxb2
      have xl := hlt hxb2
      clear hxb2
      by_cases he : askBE n (hsP l0) L0 A1 A2 A4 A5 = 0
      · obtain ⟨b2, s, g, hR, hG, hgm, hkn, hlv⟩ := got_ok HB2.out.inv (by omega) he
        obtain ⟨fi, hfi⟩ : ∃ f : Int, (fre L0 : Int) = f := ⟨_, rfl⟩
        rw [hfi] at hR hG
        obtain ⟨K', hK'⟩ : ∃ K', K + 1 = K' := ⟨_, rfl⟩
        cases g
        all_goals
          have HA := Lib.hid (ba_ask HB2.out hkk hnn A1 A2 A4 A5 HWA.out _ _ _ hR)
          have HG := Lib.hid hG
          have HK1 := Lib.hid (hlv.trans (show liv L0 + 1 = K' by rw [HKv.out]; exact hK'))
          have HKn := Lib.hid (fun w => r1knT b2 hkn w)
          have hwK : wrap64 ((K : Int) + 1) = (K : Int) + 1 := by unfold wrap64; omega
          have hKe : (K' : Int) = (K : Int) + 1 := by omega
          clear he hR hG hlv hfi hkn hK'
          go_wp2_with fail
          refine HA.out.mono ?_
          rintro e y3 ⟨rfl, l3, F3, hl3, hb3⟩
          have HB3 := Lib.hid hb3
          have HGt := Lib.hid (ba_get hb3 fi _ _ _ _ _ _ _ _ ((congrArg (fun h => getBD h fi) hl3).trans HG.out))
          clear hb3 hl3 HA HG HB2 x0 x1 x2 x3 x4 x5 xl
          go_wp2_with fail
          refine HGt.out.mono ?_
          rintro e y4 ⟨rfl, g4⟩
          have HB4 := Lib.hid (HB3.out.step g4)
          have hxb4 := HB4.out.nw.at' HX.out.1
          have x0 := hcell (j := 0) hxb4
          have x1 := hcell (j := 1) hxb4
          have x2 := hcell (j := 2) hxb4
          have x3 := hcell (j := 3) hxb4
          have x4 := hcell (j := 4) hxb4
          have x5 := hcell (j := 5) hxb4
          have xl := hlt hxb4
          obtain ⟨y5, hy5⟩ : ∃ y5, (y4.alloc (.cells #[.int .i64 A1, .int .i64 A2] 38)).alloc (.cells #[.int .i64 fi, .int .i64 A4, .int .i64 b2, .int .i64 A5, .int .i64 s] 47) = y5 := ⟨_, rfl⟩
          have hal5 := allocAt (y4.alloc (.cells #[.int .i64 A1, .int .i64 A2] 38)) (.cells #[.int .i64 fi, .int .i64 A4, .int .i64 b2, .int .i64 A5, .int .i64 s] 47)
          rw [World.size_alloc, hy5] at hal5
          have g5 : Nw y4 y5 := by rw [← hy5]; exact ((Nw.refl y4).alloc _).alloc _
          have HY5 := Lib.hid hy5
          have HB5 := Lib.hid (HB4.out.step g5)
          have HLv := Lib.hid (ba_live HB5.out K' HK1.out)
          clear hy5 g5 g4 hxb4 HB3 HB4 HGt HK1
          go_wp2_with fail
          rw [HY5.out]
          refine HLv.out.mono ?_
          rintro e y6 ⟨rfl, g6⟩
          have HB6 := Lib.hid (HB5.out.step g6)
          have hq6 := g6.at' hal5
          have q2 := hcell (j := 2) hq6
          have ql := hlt hq6
          clear g6 hal5 hq6 HB5 HLv HY5 x0 x1 x2 x3 x4 x5 xl
          go_wp2_with fail
          refine (HKn.out y6).mono ?_
          rintro e y7 ⟨rfl, rfl⟩
          have HN := Lib.hid (HX.out.2.trans HB6.out.nw)
          clear HB6 HKn
          go_wp2
          go_ret
          exact ⟨rfl, HN.out⟩
      · obtain ⟨hS, hR, hE⟩ := ask_rej he
        obtain ⟨E, hEe⟩ : ∃ E, askBE n (hsP l0) L0 A1 A2 A4 A5 = E := ⟨_, rfl⟩
        have HEe := Lib.hid hEe
        rw [hEe] at hR hE he
        have HA := Lib.hid (ba_askT HB2.out hkk hnn A1 A2 A4 A5 HWA.out _ _ _ hR)
        rw [hS] at HA
        have dE : (E == 0) = false := by simpa using he
        have HE := Lib.hid hE
        clear he hR hE hEe hS
        go_wp2_with fail
        refine HA.out.mono ?_
        rintro e y3 ⟨rfl, ht, l3, F3, hl3, hb3⟩
        have HH3 := Lib.hid (HH2.out.keep (w' := y3) fun k h1 h2 => ht.block k h2 (fun e => e.elim (fun e => by have := HLo.out.1; omega) (fun e => by have := HLo.out.2 _ e; omega)))
        have HB3 := Lib.hid hb3
        have HL3 := Lib.hid hl3
        have HHd := Lib.hid (ba_heads hb3)
        clear hb3 hl3 ht HA HB2 HH2 x0 x1 x2 x3 x4 x5 xl
        go_wp2_with fail
        refine HHd.out.mono ?_
        rintro e y4 ⟨v1, rfl, hh1, g4⟩
        rw [HL3.out] at hh1
        have HB4 := Lib.hid (HB3.out.step g4)
        have HH4 := Lib.hid (HH3.out.nw g4)
        have HSm := Lib.hid (sameHs_any (by have := HB4.out.inv.len; rw [HL3.out] at this; omega) hh1 HH4.out)
        clear hh1 g4 HB3 HH3 HHd
        go_wp2_with fail
        refine HSm.out.mono ?_
        rintro e y5 ⟨rfl, g5⟩
        have HB5 := Lib.hid (HB4.out.step g5)
        have HH5 := Lib.hid (HH4.out.nw g5)
        have HLv := Lib.hid (ba_live HB5.out K HKv.out)
        clear g5 HB4 HH4 HSm
        go_wp2_with fail
        refine HLv.out.mono ?_
        rintro e y6 ⟨rfl, g6⟩
        have HB6 := Lib.hid (HB5.out.step g6)
        have HH6 := Lib.hid (HH5.out.nw g6)
        clear g6 HB5 HH5 HLv
        have HN := Lib.hid (HX.out.2.trans HB6.out.nw)
        rcases HE.out with rfl | rfl | rfl
        · go_wp2
          go_ret
          exact ⟨rfl, HN.out⟩
        · go_wp2
          go_ret
          exact ⟨rfl, HN.out⟩
        · by_cases hK0 : K = 0
          · subst hK0
            have HM := Lib.hid (ba_most HB6.out 0 (full_zero (by have := HB6.out.inv; rw [HL3.out] at this; exact this) (by have := HB.out.1; omega) HEe.out HKv.out))
            clear HB6 HH6
            go_wp2_with fail
            refine HM.out.mono ?_
            rintro e y7 ⟨rfl, rfl⟩
            go_wp2
            go_ret
            exact ⟨rfl, HN.out⟩
          · have dK : ((K : Int) == 0) = false := by simpa using hK0
            have hbi : BInv n (l.length + 1) (hsP l0) L0 := by have := HB6.out.inv; rw [HL3.out] at this; exact this
            have hne : hsP l0 ≠ [] := fun e => hK0 (by rw [← HKv.out]; exact hbi.empty.2 e)
            obtain ⟨b, o1, c, b', o2, c', m, m', x, i, hv, hc1, hc2, hx, r, hr, rfl⟩ := first_of HH6.out hne hbi.ne
            obtain ⟨k1, k2⟩ := leave_first hbi hx hr
            obtain ⟨i, hi⟩ : ∃ i, r.id = i := ⟨_, rfl⟩
            rw [hi] at k1 k2 hc2
            obtain ⟨K2, hK2⟩ : ∃ K2, liv (lvBS (hsP l0) L0 i).2 = K2 := ⟨_, rfl⟩
            have hwK : wrap64 ((K : Int) - 1) = (K2 : Int) := by rw [HKv.out, hK2] at k2; unfold wrap64; omega
            have HLe := Lib.hid (ba_leave HB6.out hkk2 hnn i 0 (by rw [HL3.out]; exact k1))
            rw [HL3.out] at HLe
            have HK2 := Lib.hid hK2
            simp only [Value.slice.injEq] at hv
            obtain ⟨rfl, rfl, rfl⟩ := hv
            have n1 : (0 : Int) < ((m + 1 : Nat) : Int) := by omega
            have n2 : (0 : Int) < ((m' + 1 : Nat) : Int) := by omega
            generalize m + 1 = m1 at *
            generalize m' + 1 = m2 at *
            clear hbi hne hx hr k1 k2 hi hK2 hK0 HB6 HH6 hKi hkk hkk2 hnn
            go_wp2_with fail
            refine HLe.out.mono ?_
            rintro e y7 ⟨vi, rfl, hvi, l7, F7, _, hb7⟩
            have HB7 := Lib.hid hb7
            have HLv := Lib.hid (ba_live hb7 K2 HK2.out)
            obtain ⟨t0, t1, t2, ht0⟩ : ∃ a b c, vi = .slice a b c := by
              obtain ⟨a, c, e, _⟩ := hvi.box
              exact ⟨_, _, _, e⟩
            subst ht0
            clear hb7 HLe hvi hc1 hc2
            go_wp2_with fail
            refine HLv.out.mono ?_
            rintro e y8 ⟨rfl, g8⟩
            have HN8 := Lib.hid (HX.out.2.trans (HB7.out.nw.trans g8))
            clear g8 HB7 HLv HN
            go_wp2
            go_ret
            exact ⟨rfl, HN8.out⟩
end Go.Proofs.YtodnlelnpidliaaGreat.bucketFull
end

/- BucketFull: all inputs. -/
section
namespace Go.Proofs.YtodnlelnpidliaaGreat.bucketFull
open Go.RowKit Go.Shelf
set_option linter.unusedVariables false

set_option maxRecDepth 100000 in
set_option maxHeartbeats 2000000 in
theorem law_any (i0 i1 : Int) (v : Value) (l : List Cl) (A : Cl) (w : World) (hl : Rd 6 clrow w v l) (hok : ∀ R ∈ l, Cl.ok R) (hA : A.ok) :
    Calls Tryz.prog 5 #[.int .i64 i0, .int .i64 i1, v, clV A] w fun e w' => e = .returned (.bool true) ∧ Nw w w' := by
  by_cases h : l.length ≤ 50
  · obtain ⟨p, hp⟩ := Int.eq_ofNat_of_zero_le (Int.emod_nonneg i0 (show (4 : Int) ≠ 0 by decide))
    obtain ⟨N, hN⟩ := Int.eq_ofNat_of_zero_le (Int.emod_nonneg i1 (show (8 : Int) ≠ 0 by decide))
    have q1 := Int.emod_lt_of_pos i0 (show (0 : Int) < 4 by decide)
    have q2 := Int.emod_lt_of_pos i1 (show (0 : Int) < 8 by decide)
    exact walk i0 i1 (p + 1) N (by omega) hN (by omega) (by omega) (by omega) v l A hA w hl hok h
  · obtain ⟨va, vc, rfl, _⟩ := hl
    have d0 : decide ((50 : Int) < (l.length : Int)) = true := by rw [decide_eq_true_eq]; omega
    obtain ⟨A0, A1, A2, A3, A4, A5⟩ := A
    unfold clV
    simp only
    have HN := Lib.hid (show Nw w (w.alloc (.cells #[.int .i64 A0, .int .i64 A1, .int .i64 A2, .int .i64 A3, .int .i64 A4, .int .i64 A5] 41)) from (Nw.refl w).alloc _)
    clear h hA hok
    go_enter Tryz.func5, Tryz.ntmps5
    go_wp2_with fail
    refine (lives_b _).mono ?_
    rintro e w1 ⟨rfl, g1⟩
    have HG1 := Lib.hid (HN.out.trans g1)
    clear g1 HN
    go_wp2_with fail
    go_ret
    exact ⟨rfl, HG1.out⟩
end Go.Proofs.YtodnlelnpidliaaGreat.bucketFull
end
