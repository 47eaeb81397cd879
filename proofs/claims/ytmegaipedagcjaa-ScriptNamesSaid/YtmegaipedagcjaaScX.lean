
/- The program's own Same: slices.Equal, slices.EqualFunc. -/
import Derived.Test.YtmegaipedagcjaaScT
namespace Go.Proofs.Ytmegaipedagcjaa
open Go.RowKit

set_option maxHeartbeats 1000000 in
theorem equalO_rows (b o c b' o' c' : Nat) (l : List Od) (w : World) (hm : l.length ≤ 100000) (h : OCells w b o l) (h' : OCells w b' o' l) :
    Calls Try.prog 39 #[.slice (some ⟨b, o, none⟩) l.length c, .slice (some ⟨b', o', none⟩) l.length c'] w fun e w' => e = .returned (.bool true) ∧ Nw w w' := by
  have H := Lib.hid (And.intro h h')
  clear h h'
  go_enter Try.func39, Try.ntmps39
  go_wp2
  go_loopw [13] (fun i wr => ∃ k : Nat, k ≤ l.length ∧ i = .int .i64 k ∧ Nw w wr) (fun i _ => l.length - (intOf i).toNat)
  case atStart => exact ⟨0, Nat.zero_le _, rfl, Nw.refl w⟩
  case round =>
    obtain ⟨k, hk, rfl, hG⟩ := hrel
    by_cases hlt : k < l.length
    · obtain ⟨c0, c1, c2, c3, c4, c5⟩ := (H.out.1.nw hG).2 k hlt
      obtain ⟨d0, d1, d2, d3, d4, d5⟩ := (H.out.2.nw hG).2 k hlt
      generalize l[k] = x at *
      obtain ⟨x0, x1, x2, x3, x4, x5⟩ := x
      simp only at c0 c1 c2 c3 c4 c5 d0 d1 d2 d3 d4 d5
      go_wp2_with fail
      go_quiet (fail)
      go_wp2
      go_roundw
      case rel => exact ⟨k + 1, by omega, by go_num, hG.drewN _⟩
      case measure => simp [intOf]; omega
    · go_wp2
      go_ret
      exact ⟨rfl, hG⟩
theorem equalO_none (a a' : Option Addr) (c c' : Nat) (w : World) : Calls Try.prog 39 #[.slice a 0 c, .slice a' 0 c'] w fun e w' => e = .returned (.bool true) ∧ Nw w w' := by
  go_enter Try.func39, Try.ntmps39
  go_wp2
  refine wp_loop_rounds 1 ?_
  repeat (rw [rounds_succ]; go_wp2)
  go_ret
  exact ⟨rfl, Nw.refl w⟩
theorem equalO_any (v v' : Value) (l : List Od) (w : World) (hm : l.length ≤ 100000) (h : OpsAt w v l) (h' : OpsAt w v' l) : Calls Try.prog 39 #[v, v'] w fun e w' => e = .returned (.bool true) ∧ Nw w w' := by
  obtain ⟨a, c, rfl, rfl | ⟨b, o, rfl, hc⟩⟩ := h
  · obtain ⟨a', c', rfl, _⟩ := h'
    exact equalO_none a a' c c' w
  · obtain ⟨a', c', rfl, rfl | ⟨b', o', rfl, hc'⟩⟩ := h'
    · exact equalO_none _ a' c c' w
    · exact equalO_rows b o c b' o' c' l w hm hc hc'
set_option maxHeartbeats 1000000 in
theorem equalP_rows (b o c b' o' c' : Nat) (l : List (Int × Int)) (w : World) (hm : l.length ≤ 100000) (h : PCells w b o l) (h' : PCells w b' o' l) :
    Calls Try.prog 40 #[.slice (some ⟨b, o, none⟩) l.length c, .slice (some ⟨b', o', none⟩) l.length c'] w fun e w' => e = .returned (.bool true) ∧ Nw w w' := by
  have H := Lib.hid (And.intro h h')
  clear h h'
  go_enter Try.func40, Try.ntmps40
  go_wp2
  go_loopw [13] (fun i wr => ∃ k : Nat, k ≤ l.length ∧ i = .int .i64 k ∧ Nw w wr) (fun i _ => l.length - (intOf i).toNat)
  case atStart => exact ⟨0, Nat.zero_le _, rfl, Nw.refl w⟩
  case round =>
    obtain ⟨k, hk, rfl, hG⟩ := hrel
    by_cases hlt : k < l.length
    · obtain ⟨c0, c1⟩ := (H.out.1.nw hG).2 k hlt
      obtain ⟨d0, d1⟩ := (H.out.2.nw hG).2 k hlt
      generalize l[k] = x at *
      obtain ⟨x0, x1⟩ := x
      simp only at c0 c1 d0 d1
      go_wp2_with fail
      go_quiet (fail)
      go_wp2
      go_roundw
      case rel => exact ⟨k + 1, by omega, by go_num, hG.drewN _⟩
      case measure => simp [intOf]; omega
    · go_wp2
      go_ret
      exact ⟨rfl, hG⟩
theorem equalP_none (a a' : Option Addr) (c c' : Nat) (w : World) : Calls Try.prog 40 #[.slice a 0 c, .slice a' 0 c'] w fun e w' => e = .returned (.bool true) ∧ Nw w w' := by
  go_enter Try.func40, Try.ntmps40
  go_wp2
  refine wp_loop_rounds 1 ?_
  repeat (rw [rounds_succ]; go_wp2)
  go_ret
  exact ⟨rfl, Nw.refl w⟩
theorem equalP_any (v v' : Value) (l : List (Int × Int)) (w : World) (hm : l.length ≤ 100000) (h : PksAt w v l) (h' : PksAt w v' l) : Calls Try.prog 40 #[v, v'] w fun e w' => e = .returned (.bool true) ∧ Nw w w' := by
  obtain ⟨a, c, rfl, rfl | ⟨b, o, rfl, hc⟩⟩ := h
  · obtain ⟨a', c', rfl, _⟩ := h'
    exact equalP_none a a' c c' w
  · obtain ⟨a', c', rfl, rfl | ⟨b', o', rfl, hc'⟩⟩ := h'
    · exact equalP_none _ a' c c' w
    · exact equalP_rows b o c b' o' c' l w hm hc hc'
set_option maxHeartbeats 1000000 in
theorem equalF_rows (b o c b' o' c' : Nat) (th : List (List Od)) (w : World) (hm : th.length ≤ 100000) (hm2 : ∀ x ∈ th, x.length ≤ 100000) (h : TCells w b o th) (h' : TCells w b' o' th) :
    Calls Try.prog 38 #[.slice (some ⟨b, o, none⟩) th.length c, .slice (some ⟨b', o', none⟩) th.length c', .func (.func 39) #[] #[]] w fun e w' => e = .returned (.bool true) ∧ Nw w w' := by
  have H := Lib.hid (And.intro h h')
  have H2 := Lib.hid hm2
  clear h h' hm2
  go_enter Try.func38, Try.ntmps38
  go_wp2
  go_loopw [17] (fun i wr => ∃ k : Nat, k ≤ th.length ∧ i = .int .i64 k ∧ Nw w wr) (fun i _ => th.length - (intOf i).toNat)
  case atStart => exact ⟨0, Nat.zero_le _, rfl, Nw.refl w⟩
  case round =>
    obtain ⟨k, hk, rfl, hG⟩ := hrel
    by_cases hlt : k < th.length
    · obtain ⟨u, e0, hu⟩ := (H.out.1.nw hG).2 k hlt
      obtain ⟨u', e1, hu'⟩ := (H.out.2.nw hG).2 k hlt
      have HE := Lib.hid (equalO_any u u' _ wr (H2.out _ (List.getElem_mem hlt)) hu hu')
      clear hu hu'
      go_wp2_with (go_at_call 39; refine HE.out.mono ?_; rintro e w1 ⟨rfl, g1⟩)
      go_roundw
      case rel => exact ⟨k + 1, by omega, by go_num, hG.trans g1⟩
      case measure => simp [intOf]; omega
    · go_wp2
      go_ret
      exact ⟨rfl, hG⟩
theorem equalF_none (a a' : Option Addr) (c c' : Nat) (w : World) : Calls Try.prog 38 #[.slice a 0 c, .slice a' 0 c', .func (.func 39) #[] #[]] w fun e w' => e = .returned (.bool true) ∧ Nw w w' := by
  go_enter Try.func38, Try.ntmps38
  go_wp2
  refine wp_loop_rounds 1 ?_
  repeat (rw [rounds_succ]; go_wp2)
  go_ret
  exact ⟨rfl, Nw.refl w⟩
theorem equalF_any (v v' : Value) (th : List (List Od)) (w : World) (hm : th.length ≤ 100000) (hm2 : ∀ x ∈ th, x.length ≤ 100000) (h : ThsAt w v th) (h' : ThsAt w v' th) : Calls Try.prog 38 #[v, v', .func (.func 39) #[] #[]] w fun e w' => e = .returned (.bool true) ∧ Nw w w' := by
  obtain ⟨a, c, rfl, rfl | ⟨b, o, rfl, hc⟩⟩ := h
  · obtain ⟨a', c', rfl, _⟩ := h'
    exact equalF_none a a' c c' w
  · obtain ⟨a', c', rfl, rfl | ⟨b', o', rfl, hc'⟩⟩ := h'
    · exact equalF_none _ a' c c' w
    · exact equalF_rows b o c b' o' c' th w hm hm2 hc hc'
/-- Two lists of threads of other lengths. -/
theorem equalF_no (a a' : Option Addr) (n n' c c' : Nat) (w : World) (hn : n ≠ n') : Calls Try.prog 38 #[.slice a n c, .slice a' n' c', .func (.func 39) #[] #[]] w fun e w' => e = .returned (.bool false) ∧ Nw w w' := by
  have d0 : ((n : Int) != (n' : Int)) = true := by simp; omega
  go_enter Try.func38, Try.ntmps38
  go_wp2
  go_ret
  exact ⟨rfl, Nw.refl w⟩
set_option maxHeartbeats 1000000 in
theorem progSame_no (a0 a1 p0 p1 : Option Addr) (n0 n1 m0 m1 t0 t1 q0 q1 : Nat) (c10 c20 c30 c40 c11 c21 c31 c41 : Int) (w : World) (hn : n0 ≠ n1) : Calls Try.prog 18 #[.agg #[.slice a0 n0 t0, .slice p0 m0 q0, .int .i64 c10, .int .i64 c20, .int .i64 c30, .int .i64 c40], .agg #[.slice a1 n1 t1, .slice p1 m1 q1, .int .i64 c11, .int .i64 c21, .int .i64 c31, .int .i64 c41]] w fun e w' => e = .returned (.bool false) ∧ Nw w w' := by
  have HN := Lib.hid (fun z => equalF_no a0 a1 n0 n1 t0 t1 z hn)
  clear hn
  go_enter Try.func18, Try.ntmps18
  go_wp2_with (go_at_call 38; refine (HN.out _).mono ?_; rintro e w1 ⟨rfl, g1⟩)
  go_ret
  exact ⟨rfl, (((Nw.refl w).alloc _).alloc _).trans g1⟩
set_option maxRecDepth 100000 in
set_option maxHeartbeats 1000000 in
theorem progSame_any (vt vp vt' vp' : Value) (s : PS) (w : World) (hf : Fits s) (h : ScAt w vt vp s) (h' : ScAt w vt' vp' s) : Calls Try.prog 18 #[scV vt vp s.cp, scV vt' vp' s.cp] w fun e w' => e = .returned (.bool true) ∧ Nw w w' := by
  obtain ⟨th, pk, c1, c2, c3, c4⟩ := s
  have HT := Lib.hid (fun (z : World) (g : Nw w z) => equalF_any vt vt' th z hf.1 hf.2.1 (h.1.nw g) (h'.1.nw g))
  have HP := Lib.hid (fun (z : World) (g : Nw w z) => equalP_any vp vp' pk z hf.2.2 (h.2.nw g) (h'.2.nw g))
  obtain ⟨⟨a0, t0, rfl, _⟩, p0, q0, rfl, _⟩ := h
  obtain ⟨⟨a1, t1, rfl, _⟩, p1, q1, rfl, _⟩ := h'
  simp only at HT HP ⊢
  clear hf
  go_enter Try.func18, Try.ntmps18
  go_wp2_with fail
  refine (HT.out _ (((Nw.refl w).alloc _).alloc _)).mono ?_
  rintro e w1 ⟨rfl, g1⟩
  obtain ⟨hc1, hf1⟩ := g1.rules
  have hn1 : Nw w w1 := (((Nw.refl w).alloc _).alloc _).trans g1
  go_wp2_with fail
  refine (HP.out _ hn1).mono ?_
  rintro e w2 ⟨rfl, g2⟩
  have g3 := g1.trans g2
  clear hc1 hf1
  obtain ⟨hc2, hf2⟩ := g3.rules
  go_wp2
  go_ret
  exact ⟨rfl, hn1.trans (by first | exact g2 | exact g2.drew1 | exact g2.drewN _)⟩
end Go.Proofs.Ytmegaipedagcjaa
