
/- container/heap's Remove. -/
import Derived.Test.YtolpccchhjcddaaTkH
namespace Go.Proofs.Ytolpccchhjcddaa
open Go.RowKit Go.Shelf

/-- What is left behind a removal, out of a row whose last place holds what goes. -/
theorem pop_after {w w2 : World} {hb ho g cap n i : Nat} {l l' s s' : List Tm} (hs : Hs l s) (hn : l.length = n + 1) (hp : l'.Perm l) (hl : at' l' n = at' l i) (hh : Hp (at' l') n) (h2 : HpAt w2 hb ho g cap l') (ht : Tch (fun k => k = g) w w2) (hlt : hb < w.heap.size)
    (hs' : Srt s') (hpm : s.Perm (at' l i :: s')) :
    Calls Try.prog 68 #[.pointer (some ⟨hb, ho, none⟩)] w2 fun e w' => e = .returned (.iface 28 (agT (at' l i))) ∧ PopH w hb ho g cap s' w' := by
  obtain ⟨el, hs2⟩ := hs.cut hp (by rw [hp.length_eq, hn]) hl hh hpm hs'
  have hne := h2.ne
  rw [el] at h2
  refine (popM_any hb ho g cap (l'.take n) (at' l i) w2 h2).mono ?_
  rintro e w3 ⟨he, q1, q2, q3⟩
  exact ⟨he, l'.take n, q1, hs2, (ht.mono (fun _ _ e => Or.inr e)).trans (q2.mono (fun _ _ e => Or.inl e)), (Side.tch ht hlt hne).trans q3⟩

set_option maxHeartbeats 1000000 in
theorem hremove_any (hb ho g cap : Nat) (l s s' : List Tm) (i : Nat) (hi : i < l.length) (w : World) (h : HpAt w hb ho g cap l) (hs : Hs l s) (hsm : l.length ≤ 100000) (hs' : Srt s') (hpm : s.Perm (at' l i :: s')) :
    Calls Try.prog 31 #[.iface 59 (.pointer (some ⟨hb, ho, none⟩)), .int .i64 i] w fun e w' => e = .returned (.iface 28 (agT (at' l i))) ∧ PopH w hb ho g cap s' w' := by
  obtain ⟨n, hn⟩ : ∃ n, l.length = n + 1 := ⟨l.length - 1, by omega⟩
  have HS := Lib.hid (And.intro h (And.intro hs (And.intro hs' hpm)))
  have hd := h.hd
  have mN := m_len w _ _ hd
  have mS := m_swap w _ _ hd
  have mO := m_pop
  have eO := e_pop
  have eN := e_len
  have eS := e_swap
  rw [hn] at mN mS
  by_cases hin : i = n
  · subst hin
    have HO := Lib.hid (pop_after (w := w) hs hn (.refl l) rfl (hs.1.sub (by omega)) h (Tch.refl _ _) h.lt hs' hpm)
    clear h hs hs' hpm hd mS
    have hq : ((i : Int) != (i : Int)) = false := by simp
    go_enter Try.func31, Try.ntmps31
    go_wp2_with fail
    refine (len_any _ _ _ _).mono ?_
    rintro e w2 ⟨rfl, rfl⟩
    clear mN
    go_wp2_with fail
    refine HO.out.mono ?_
    rintro e w3 ⟨rfl, q⟩
    have H4 := Lib.hid q
    clear q
    go_wp2
    go_ret
    exact ⟨rfl, H4.out⟩
  · have HW := Lib.hid (swap_any g cap l i n (by omega) (by omega) w h.row)
    rw [hn] at HW
    clear h hs hs' hpm hd
    have hq : ((n : Int) != (i : Int)) = true := by simp; omega
    have hq' : ¬ n = i := fun e => hin e.symm
    go_enter Try.func31, Try.ntmps31
    go_wp2_with fail
    refine (len_any _ _ _ _).mono ?_
    rintro e w2 ⟨rfl, rfl⟩
    clear mN
    go_wp2_with fail
    refine HW.out.mono ?_
    rintro e w1 ⟨rfl, hr1, ht1⟩
    have hat := at_swp l (i := i) (j := n) (by omega) (by omega)
    have h1 := HS.out.1.turned ht1 hr1 (swp_len _ _ _)
    have hH := HS.out.2.1.1
    have hex : Ex (at' (swp l i n)) n i := fun k h0 hk hne hpa => by rw [hat, sw_o _ hpa (by omega), sw_o _ hne (by omega)]; exact hH k h0 (by omega)
    have hgr : Gr (at' (swp l i n)) n i := fun h0 k h1 h2 h3 => by
      rw [hat, sw_o _ (by omega) (by omega), sw_o _ (by omega) (by omega)]
      exact hH.gr (j := i) (by omega) h0 k h1 (by omega) h3
    have HE := Lib.hid (down_any hb ho g cap (swp l i n) n i (by rw [swp_len]; omega) (by rw [swp_len]; omega) (by omega) w1 h1 hex hgr)
    have H1 := Lib.hid (And.intro ht1 (And.intro hat (And.intro hex (And.intro hgr (And.intro h1 (swp_perm l (i := i) (j := n) (by omega) (by omega)))))))
    clear hr1 ht1 hat h1 mS hH hex hgr
    go_wp2_with fail
    refine HE.out.mono ?_
    rintro e w2 hw2
    obtain ⟨b, l', rfl, p1, p2, p3, p4, p5⟩ := hw2
    have H2 := Lib.hid (And.intro p1 (And.intro p2 (And.intro p3 p4)))
    have H5 := Lib.hid p5
    clear p1 p2 p3 p4 p5
    cases b with
    | true =>
      have HO := Lib.hid (pop_after (w := w) HS.out.2.1 hn (H2.out.1.trans H1.out.2.2.2.2.2) (by rw [H2.out.2.1 n (Nat.le_refl _), H1.out.2.1, sw_r]) (H5.out.elim (fun h => h.2) (fun h => absurd h.1 (by simp))) H2.out.2.2.1 (H1.out.1.trans H2.out.2.2.2) HS.out.1.lt HS.out.2.2.1 HS.out.2.2.2)
      go_wp2_with fail
      refine HO.out.mono ?_
      rintro e w3 ⟨rfl, q⟩
      have H4 := Lib.hid q
      clear q
      go_wp2
      go_ret
      exact ⟨rfl, H4.out⟩
    | false =>
      obtain ⟨rfl, hch⟩ : l' = swp l i n ∧ Ch (at' (swp l i n)) n i := H5.out.elim (fun h => absurd h.1 (by simp)) (fun h => h.2)
      have HU := Lib.hid (up_any hb ho g cap (swp l i n) n i (by omega) (by rw [swp_len]; omega) w2 H2.out.2.2.1 H1.out.2.2.1 H1.out.2.2.2.1 hch)
      clear hch
      go_wp2_with fail
      refine HU.out.mono ?_
      rintro e w3 ⟨rfl, hw3⟩
      obtain ⟨l2, p1, p2, p3, p4, p5⟩ := hw3
      have HO := Lib.hid (pop_after (w := w) HS.out.2.1 hn (p1.trans H1.out.2.2.2.2.2) (by rw [p2 n (Nat.le_refl _), H1.out.2.1, sw_r]) p3 p4 ((H1.out.1.trans H2.out.2.2.2).trans p5) HS.out.1.lt HS.out.2.2.1 HS.out.2.2.2)
      clear p1 p2 p3 p4 p5
      go_wp2_with fail
      refine HO.out.mono ?_
      rintro e w4 ⟨rfl, q⟩
      have H4 := Lib.hid q
      clear q
      go_wp2
      go_ret
      exact ⟨rfl, H4.out⟩
end Go.Proofs.Ytolpccchhjcddaa
