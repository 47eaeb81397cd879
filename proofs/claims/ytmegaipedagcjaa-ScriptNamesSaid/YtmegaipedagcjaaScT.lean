
/- Same[api.Op], Same[api.Pick], SameScript on equal lists; LightScript; Pick. -/
import Derived.Test.YtmegaipedagcjaaScF
import Derived.Test.YtmegaipedagcjaaInts
import Derived.LoopTactic
namespace Go.Proofs.Ytmegaipedagcjaa
open Go.RowKit

theorem drewN_add (w : World) (a b : Nat) : (w.drewN a).drewN b = w.drewN (a + b) := by simp [World.drewN, Nat.add_assoc]
set_option maxHeartbeats 1000000 in
theorem sameO_rows (b o c b' o' c' : Nat) (l : List Od) (w : World) (hm : l.length ≤ 100000) (h : OCells w b o l) (h' : OCells w b' o' l) :
    Calls Try.prog 47 #[.slice (some ⟨b, o, none⟩) l.length c, .slice (some ⟨b', o', none⟩) l.length c'] w fun e w' => e = .returned (.bool true) ∧ ∃ m, w' = w.drewN m := by
  have H := Lib.hid (And.intro h h')
  clear h h'
  go_enter Try.func47, Try.ntmps47
  go_wp2
  go_loopw [5] (fun i wr => ∃ k : Nat, k ≤ l.length ∧ i = .int .i64 k ∧ ∃ m, wr = w.drewN m) (fun i _ => l.length - (intOf i).toNat)
  case atStart => exact ⟨0, Nat.zero_le _, rfl, 0, rfl⟩
  case round =>
    obtain ⟨k, hk, rfl, m, hW⟩ := hrel
    have hG : Nw w wr := by rw [hW]; exact (Nw.refl w).drewN m
    by_cases hlt : k < l.length
    · obtain ⟨c0, c1, c2, c3, c4, c5⟩ := (H.out.1.nw hG).2 k hlt
      obtain ⟨d0, d1, d2, d3, d4, d5⟩ := (H.out.2.nw hG).2 k hlt
      generalize l[k] = x at *
      obtain ⟨x0, x1, x2, x3, x4, x5⟩ := x
      simp only at c0 c1 c2 c3 c4 c5 d0 d1 d2 d3 d4 d5
      have HW := Lib.hid hW
      clear hW hG
      go_wp2_with fail
      go_quiet (fail)
      go_wp2
      go_roundw
      case rel => exact ⟨k + 1, by omega, by go_num, _, by rw [HW.out]; exact drewN_add _ _ _⟩
      case measure => simp [intOf]; omega
    · have HW := Lib.hid (show ∃ m, wr = w.drewN m from ⟨m, hW⟩)
      clear hW hG
      go_wp2
      go_ret
      exact ⟨rfl, HW.out⟩
theorem sameO_none (a a' : Option Addr) (c c' : Nat) (w : World) : Calls Try.prog 47 #[.slice a 0 c, .slice a' 0 c'] w fun e w' => e = .returned (.bool true) ∧ ∃ m, w' = w.drewN m := by
  go_enter Try.func47, Try.ntmps47
  go_wp2
  refine wp_loop_rounds 1 ?_
  repeat (rw [rounds_succ]; go_wp2)
  go_ret
  exact ⟨rfl, 0, rfl⟩
theorem sameO_any (v v' : Value) (l : List Od) (w : World) (hm : l.length ≤ 100000) (h : OpsAt w v l) (h' : OpsAt w v' l) : Calls Try.prog 47 #[v, v'] w fun e w' => e = .returned (.bool true) ∧ ∃ m, w' = w.drewN m := by
  obtain ⟨a, c, rfl, rfl | ⟨b, o, rfl, hc⟩⟩ := h
  · obtain ⟨a', c', rfl, _⟩ := h'
    exact sameO_none a a' c c' w
  · obtain ⟨a', c', rfl, rfl | ⟨b', o', rfl, hc'⟩⟩ := h'
    · exact sameO_none _ a' c c' w
    · exact sameO_rows b o c b' o' c' l w hm hc hc'
theorem sameO_q (v v' : Value) (l : List Od) (w : World) (hm : l.length ≤ 100000) (h : OpsAt w v l) (h' : OpsAt w v' l) (j : Nat) : Calls Try.prog 47 #[v, v'] (w.drewN j) fun e w' => e = .returned (.bool true) ∧ ∃ m, w' = w.drewN m :=
  (sameO_any v v' l (w.drewN j) hm (h.nw ((Nw.refl w).drewN j)) (h'.nw ((Nw.refl w).drewN j))).mono fun _ _ ⟨a, m, b⟩ => ⟨a, j + m, by rw [b]; exact drewN_add _ _ _⟩
set_option maxHeartbeats 1000000 in
theorem sameP_rows (b o c b' o' c' : Nat) (l : List (Int × Int)) (w : World) (hm : l.length ≤ 100000) (h : PCells w b o l) (h' : PCells w b' o' l) :
    Calls Try.prog 24 #[.slice (some ⟨b, o, none⟩) l.length c, .slice (some ⟨b', o', none⟩) l.length c'] w fun e w' => e = .returned (.bool true) ∧ ∃ m, w' = w.drewN m := by
  have H := Lib.hid (And.intro h h')
  clear h h'
  go_enter Try.func24, Try.ntmps24
  go_wp2
  go_loopw [5] (fun i wr => ∃ k : Nat, k ≤ l.length ∧ i = .int .i64 k ∧ ∃ m, wr = w.drewN m) (fun i _ => l.length - (intOf i).toNat)
  case atStart => exact ⟨0, Nat.zero_le _, rfl, 0, rfl⟩
  case round =>
    obtain ⟨k, hk, rfl, m, hW⟩ := hrel
    have hG : Nw w wr := by rw [hW]; exact (Nw.refl w).drewN m
    by_cases hlt : k < l.length
    · obtain ⟨c0, c1⟩ := (H.out.1.nw hG).2 k hlt
      obtain ⟨d0, d1⟩ := (H.out.2.nw hG).2 k hlt
      generalize l[k] = x at *
      obtain ⟨x0, x1⟩ := x
      simp only at c0 c1 d0 d1
      have HW := Lib.hid hW
      clear hW hG
      go_wp2_with fail
      go_quiet (fail)
      go_wp2
      go_roundw
      case rel => exact ⟨k + 1, by omega, by go_num, _, by rw [HW.out]; exact drewN_add _ _ _⟩
      case measure => simp [intOf]; omega
    · have HW := Lib.hid (show ∃ m, wr = w.drewN m from ⟨m, hW⟩)
      clear hW hG
      go_wp2
      go_ret
      exact ⟨rfl, HW.out⟩
theorem sameP_none (a a' : Option Addr) (c c' : Nat) (w : World) : Calls Try.prog 24 #[.slice a 0 c, .slice a' 0 c'] w fun e w' => e = .returned (.bool true) ∧ ∃ m, w' = w.drewN m := by
  go_enter Try.func24, Try.ntmps24
  go_wp2
  refine wp_loop_rounds 1 ?_
  repeat (rw [rounds_succ]; go_wp2)
  go_ret
  exact ⟨rfl, 0, rfl⟩
theorem sameP_any (v v' : Value) (l : List (Int × Int)) (w : World) (hm : l.length ≤ 100000) (h : PksAt w v l) (h' : PksAt w v' l) : Calls Try.prog 24 #[v, v'] w fun e w' => e = .returned (.bool true) ∧ ∃ m, w' = w.drewN m := by
  obtain ⟨a, c, rfl, rfl | ⟨b, o, rfl, hc⟩⟩ := h
  · obtain ⟨a', c', rfl, _⟩ := h'
    exact sameP_none a a' c c' w
  · obtain ⟨a', c', rfl, rfl | ⟨b', o', rfl, hc'⟩⟩ := h'
    · exact sameP_none _ a' c c' w
    · exact sameP_rows b o c b' o' c' l w hm hc hc'
theorem sameP_q (v v' : Value) (l : List (Int × Int)) (w : World) (hm : l.length ≤ 100000) (h : PksAt w v l) (h' : PksAt w v' l) (j : Nat) : Calls Try.prog 24 #[v, v'] (w.drewN j) fun e w' => e = .returned (.bool true) ∧ ∃ m, w' = w.drewN m :=
  (sameP_any v v' l (w.drewN j) hm (h.nw ((Nw.refl w).drewN j)) (h'.nw ((Nw.refl w).drewN j))).mono fun _ _ ⟨a, m, b⟩ => ⟨a, j + m, by rw [b]; exact drewN_add _ _ _⟩
set_option maxRecDepth 100000 in
set_option maxHeartbeats 2000000 in
theorem sameScript_parts (a0 a1 p0 p1 : Option Addr) (nt np t0 t1 q0 q1 : Nat) (c1 c2 c3 c4 : Int) (th : List (List Od)) (w : World) (hnt : th.length = nt) (hm : nt ≤ 100000) (hm2 : ∀ x ∈ th, x.length ≤ 100000)
    (HP : Hid (∀ z, Nw w z → Calls Try.prog 24 #[.slice p0 np q0, .slice p1 np q1] z fun e w' => e = .returned (.bool true) ∧ Nw z w'))
    (HT : Hid (∀ k (hk : k < th.length), ∃ b o b' o' u u', a0 = some ⟨b, o, none⟩ ∧ a1 = some ⟨b', o', none⟩ ∧ w.cell? ⟨b, o + k, none⟩ = some u ∧ w.cell? ⟨b', o' + k, none⟩ = some u' ∧ OpsAt w u th[k] ∧ OpsAt w u' th[k])) :
    Calls Try.prog 21 #[.agg #[.slice a0 nt t0, .slice p0 np q0, .int .i64 c1, .int .i64 c2, .int .i64 c3, .int .i64 c4], .agg #[.slice a1 nt t1, .slice p1 np q1, .int .i64 c1, .int .i64 c2, .int .i64 c3, .int .i64 c4]] w fun e w' => e = .returned (.bool true) ∧ Nw w w' := by
  go_enter Try.func21, Try.ntmps21
  go_wp2_with fail
  refine (HP.out _ (((Nw.refl w).alloc _).alloc _)).mono ?_
  rintro e w1 ⟨rfl, g1⟩
  have k0 : w1.cell? ⟨w.heap.size, 0, none⟩ = some (.slice a0 nt t0) := g1.keep' (by simp [go_sem])
  have k1 : w1.cell? ⟨w.heap.size + 1, 0, none⟩ = some (.slice a1 nt t1) := g1.keep' (by simp [go_sem])
  have hn1 : Nw w w1 := (((Nw.refl w).alloc _).alloc _).trans g1
  go_wp2
  go_loopw [5] (fun i wr => ∃ k : Nat, k ≤ nt ∧ i = .int .i64 k ∧ Nw w1 wr) (fun i _ => nt - (intOf i).toNat)
  case atStart => exact ⟨0, Nat.zero_le _, rfl, Nw.refl _⟩
  case round =>
    obtain ⟨k, hk, rfl, hG⟩ := hrel
    have x0 := hG.keep' k0
    have x1 := hG.keep' k1
    by_cases hlt : k < nt
    · obtain ⟨b, o, b', o', u, u', rfl, rfl, e0, e1, hu, hu'⟩ := HT.out k (by rw [hnt]; exact hlt)
      have hgw := hn1.trans hG
      have y0 := hgw.keep' e0
      have y1 := hgw.keep' e1
      have HO := Lib.hid (sameO_q u u' _ wr (hm2 _ (List.getElem_mem (by rw [hnt]; exact hlt))) (hu.nw hgw) (hu'.nw hgw))
      clear e0 e1 hu hu' k0 k1
      go_wp2
      go_quiet ((go_at_call 47; (with_reducible exact HO.out _)))
      go_wp2
      go_roundw
      case rel => exact ⟨k + 1, by omega, by go_num, hG.drewN _⟩
      case measure => simp [intOf]; omega
    · go_wp2
      go_ret
      exact ⟨rfl, hn1.trans hG⟩
theorem sameScript_any (vt vp vt' vp' : Value) (s : PS) (w : World) (hf : Fits s) (h : ScAt w vt vp s) (h' : ScAt w vt' vp' s) : Calls Try.prog 21 #[scV vt vp s.cp, scV vt' vp' s.cp] w fun e w' => e = .returned (.bool true) ∧ Nw w w' := by
  obtain ⟨th, pk, c1, c2, c3, c4⟩ := s
  have hP := fun (z : World) (g : Nw w z) => (sameP_any vp vp' pk z hf.2.2 (h.2.nw g) (h'.2.nw g)).mono fun e w' (q : e = .returned (.bool true) ∧ ∃ m, w' = z.drewN m) => (⟨q.1, by obtain ⟨_, m, rfl⟩ := q; exact (Nw.refl z).drewN m⟩ : e = .returned (.bool true) ∧ Nw z w')
  obtain ⟨⟨a0, t0, rfl, hc0⟩, p0, q0, rfl, _⟩ := h
  obtain ⟨⟨a1, t1, rfl, hc1⟩, p1, q1, rfl, _⟩ := h'
  refine sameScript_parts a0 a1 p0 p1 _ _ t0 t1 q0 q1 c1 c2 c3 c4 th w rfl hf.1 hf.2.1 (Lib.hid hP) (Lib.hid fun k hk => ?_)
  simp only at hc0 hc1
  rcases hc0 with rfl | ⟨b, o, rfl, hb⟩
  · simp at hk
  · rcases hc1 with rfl | ⟨b', o', rfl, hb'⟩
    · simp at hk
    · obtain ⟨u, e0, hu⟩ := hb.2 k hk
      obtain ⟨u', e1, hu'⟩ := hb'.2 k hk
      exact ⟨b, o, b', o', u, u', rfl, rfl, e0, e1, hu, hu'⟩
end Go.Proofs.Ytmegaipedagcjaa
