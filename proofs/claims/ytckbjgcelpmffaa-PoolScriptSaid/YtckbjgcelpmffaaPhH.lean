
/- container/heap's Push, Pop and Remove. -/
import Derived.Test.YtckbjgcelpmffaaPhG
namespace Go.Proofs.Ytckbjgcelpmffaa
open Go.RowKit Go.Shelf

def IPushH (w : World) (hb ho : Nat) (v : Value) (s : List Int) (w' : World) : Prop :=
  ∃ g' cap' l', IHpAt w' hb ho g' cap' l' ∧ IHs l' s ∧ (some g' = v.ownBlock ∨ w.heap.size ≤ g') ∧ Tch (IOf hb v) w w' ∧ ISide hb ho w w'
set_option maxHeartbeats 1000000 in
theorem ihpush_any (hb ho : Nat) (v : Value) (l s : List Int) (x : Int) (w : World) (h : IHv w hb ho v l) (hs : IHs l s) (hsm : l.length ≤ 100000) :
    Calls Try.prog 25 #[.iface 51 (.pointer (some ⟨hb, ho, none⟩)), .iface 3 (.int .i64 x)] w fun e w' => e = .returned (.tuple #[]) ∧ IPushH w hb ho v (iins x s) w' := by
  have HP := Lib.hid (ipushM_any hb ho v l x w h (by omega))
  have HS := Lib.hid (And.intro h hs)
  have mP := im_push
  have eP := ie_push
  have eN := ie_len
  clear h hs
  go_enter Try.func25, Try.ntmps25
  go_wp2_with fail
  refine HP.out.mono ?_
  rintro e w1 ⟨rfl, hw1⟩
  have H1 := Lib.hid hw1
  obtain ⟨g', cap', hp, hor, ht, hsd⟩ := hw1
  have hd := hp.hd
  have mN := im_len w1 _ _ _ hd
  have HU := Lib.hid (fun j hj => iup_any hb ho g' cap' (l ++ [x]) (l.length + 1) j hj (by simp) w1 hp)
  have HX := Lib.hid (ihp_app x HS.out.2.1)
  have HH := Lib.hid (And.intro hor (And.intro ht (And.intro hsd hp)))
  clear hp hor ht hsd H1 HP mP
  rw [List.length_append] at mN hd
  simp only [List.length_cons, List.length_nil, Nat.zero_add] at mN hd
  go_wp2_with fail
  refine (ilen_any _ _ _ _).mono ?_
  rintro e w2 ⟨rfl, rfl⟩
  clear mN hd
  go_wp2_with fail
  refine (HU.out l.length (by omega) HX.out.1 HX.out.2.1 HX.out.2.2).mono ?_
  rintro e w2 ⟨rfl, hw2⟩
  have H2 := Lib.hid hw2
  clear hw2
  go_wp2
  go_end0
  obtain ⟨l', p1, _, p3, p4, p5⟩ := H2.out
  obtain ⟨hor, ht, hsd, hp⟩ := HH.out
  have hl : l'.length = l.length + 1 := by rw [p1.length_eq]; simp
  refine ⟨rfl, g', cap', l', p4, ⟨by rw [hl]; exact p3, ?_, iins_srt x s HS.out.2.2.2⟩, hor, ht.trans' p5 (fun i hi e => ?_), hsd.trans (ISide.tch p5 hp.lt hp.ne)⟩
  · exact p1.trans ((List.perm_append_comm).trans ((HS.out.2.2.1.cons x).trans (iins_perm x s).symm))
  · subst e
    rcases hor with e | e
    · exact .inr e.symm
    · omega

def IPopH (w : World) (hb ho g cap : Nat) (s : List Int) (w' : World) : Prop :=
  ∃ l', IHpAt w' hb ho g cap l' ∧ IHs l' s ∧ Tch (fun k => k = hb ∨ k = g) w w' ∧ ISide hb ho w w'
set_option maxHeartbeats 1000000 in
theorem ihpop_any (hb ho g cap : Nat) (l s : List Int) (a : Int) (w : World) (h : IHpAt w hb ho g cap l) (hs : IHs l (a :: s)) (hsm : l.length ≤ 100000) :
    Calls Try.prog 28 #[.iface 51 (.pointer (some ⟨hb, ho, none⟩))] w fun e w' => e = .returned (.iface 3 (.int .i64 a)) ∧ IPopH w hb ho g cap s w' := by
  obtain ⟨n, hn⟩ : ∃ n, l.length = n + 1 := ⟨s.length, by rw [hs.len]; rfl⟩
  have HS := Lib.hid (And.intro h hs)
  have hd := h.hd
  have mN := im_len w _ _ _ hd
  have mS := im_swap w _ _ _ hd
  have HW := Lib.hid (iswap_any g cap l 0 n (by omega) (by omega) w h.row)
  rw [hn] at mN mS hd HW
  have mO := im_pop
  have eO := ie_pop
  have eN := ie_len
  have eS := ie_swap
  clear h hs
  go_enter Try.func28, Try.ntmps28
  go_wp2_with fail
  refine (ilen_any _ _ _ _).mono ?_
  rintro e w2 ⟨rfl, rfl⟩
  clear mN
  go_wp2_with fail
  refine HW.out.mono ?_
  rintro e w1 ⟨rfl, hr1, ht1⟩
  have hat := iat_swp l (i := 0) (j := n) (by omega) (by omega)
  have h1 := HS.out.1.turned ht1 hr1 (iswp_len _ _ _)
  have hH := HS.out.2.1
  have HE := Lib.hid (idown_any hb ho g cap (iswp l 0 n) n 0 (by rw [iswp_len]; omega) (by rw [iswp_len]; omega) (by omega) w1 h1
    (fun k h0 hk hne hpa => by rw [hat, isw_o _ (by omega) (by omega), isw_o _ (by omega) (by omega)]; exact hH k h0 (by omega))
    (fun h0 => absurd h0 (by omega)))
  have H1 := Lib.hid (And.intro ht1 hat)
  clear hr1 ht1 hat h1 mS hd hH
  go_wp2_with fail
  refine HE.out.mono ?_
  rintro e w2 hw2
  have H2 : Hid _ := hw2
  obtain ⟨b, l', rfl, p1, p2, p3, p4, p5⟩ := hw2
  have hl' : l'.length = n + 1 := by rw [p1.length_eq, iswp_len, hn]
  have hp : IHp (iat l') n := by
    rcases p5 with ⟨_, q⟩ | ⟨_, rfl, q⟩
    · exact q
    · intro k h0 hk
      by_cases e : (k - 1) / 2 = 0
      · rw [e]; exact q k h0 hk e
      · rw [H1.out.2, isw_o _ (by omega) (by omega), isw_o _ (by omega) (by omega)]; exact HS.out.2.1 k h0 (by omega)
  have hx : iat l' n = a := by
    rw [p2 n (Nat.le_refl _), H1.out.2, isw_r]; exact HS.out.2.head
  obtain ⟨el, hs'⟩ := HS.out.2.cut (p1.trans (iswp_perm l (by omega) (by omega))) hl' hx hp (.refl _) (List.pairwise_cons.1 HS.out.2.2.2).2
  rw [el] at p3
  have HO := Lib.hid (ipopM_any hb ho g cap (l'.take n) a w2 p3)
  have H3 := Lib.hid (And.intro hs' p4)
  clear p1 p2 p3 p4 p5 hp hx el hs' H2 hl'
  go_wp2_with fail
  refine HO.out.mono ?_
  rintro e w3 ⟨rfl, q1, q2⟩
  have H4 := Lib.hid (And.intro q1 q2)
  clear q1 q2
  go_wp2
  go_ret
  refine ⟨rfl, l'.take n, H4.out.1, H3.out.1, ?_, ?_⟩
  · exact ((H1.out.1.trans H3.out.2).mono (fun _ _ e => Or.inr e)).trans (H4.out.2.1.mono (fun _ _ e => Or.inl e))
  · exact (ISide.tch (H1.out.1.trans H3.out.2) HS.out.1.lt HS.out.1.ne).trans H4.out.2.2
end Go.Proofs.Ytckbjgcelpmffaa
