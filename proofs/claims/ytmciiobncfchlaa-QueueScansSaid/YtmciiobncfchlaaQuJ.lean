
/- The document's own queue: Leave. -/
import Derived.Test.YtmciiobncfchlaaQuI
namespace Go.Proofs.Ytmciiobncfchlaa
open Go.RowKit
set_option linter.unusedVariables false      -- a contract need not use every name

def capOk : Value → Prop
  | .slice _ n c => n ≤ c
  | _ => True
/-- What a call gives that returns a head and an error. -/
def HR1 (X : Hq × Int) (w : World) (e : Ending) (w' : World) : Prop := ∃ v', e = .returned (.tuple #[hdV X.1.t X.1.r v' X.1.W, .int .i64 X.2]) ∧ Nw w w' ∧ RqAt w' v' X.1.q ∧ capOk v'
theorem RqOwn.cap {w : World} {g0 : Nat} {v : Value} {q : List Rq} (h : RqOwn w g0 v q) : capOk v := by
  rcases oform h with ⟨rfl, _⟩ | ⟨g, cap, rfl⟩
  · exact Nat.le_refl _
  · exact own_cap h
/-- The result's box is filled. -/
theorem fill_nw {w a : World} {rb : Nat} (h : Nw w a) (hb : w.heap.size ≤ rb) (u0 u1 u2 u3 : Value) : Nw w ((((a.setCell ⟨rb, 0, none⟩ u0).setCell ⟨rb, 1, none⟩ u1).setCell ⟨rb, 2, none⟩ u2).setCell ⟨rb, 3, none⟩ u3) :=
  (((h.st hb _).st hb _).st hb _).st hb _
theorem fill_own {a : World} {rb g0 : Nat} {v : Value} {q : List Rq} (h : RqOwn a g0 v q) (hb : rb < g0) (u0 u1 u2 u3 : Value) : RqOwn ((((a.setCell ⟨rb, 0, none⟩ u0).setCell ⟨rb, 1, none⟩ u1).setCell ⟨rb, 2, none⟩ u2).setCell ⟨rb, 3, none⟩ u3) g0 v q :=
  own_st (own_st (own_st (own_st h (p := ⟨rb, 0, none⟩) hb u0) (p := ⟨rb, 1, none⟩) hb u1) (p := ⟨rb, 2, none⟩) hb u2) (p := ⟨rb, 3, none⟩) hb u3
theorem two_boxes (w : World) (o1 o2 : Obj) : ((w.alloc o1).alloc o2).heap[w.heap.size]? = some o1 ∧ ((w.alloc o1).alloc o2).heap[w.heap.size + 1]? = some o2 ∧ Nw w ((w.alloc o1).alloc o2) ∧ ((w.alloc o1).alloc o2).heap.size = w.heap.size + 1 + 1 := by
  have hs : (w.alloc o1).heap.size = w.heap.size + 1 := by simp
  refine ⟨((Nw.refl _).alloc o2).at' (allocAt w o1), ?_, ((Nw.refl w).alloc _).alloc _, by simp⟩
  have := allocAt (w.alloc o1) o2
  rwa [hs] at this
theorem lv_at {W : Int} {q : List Rq} {id : Int} {k : Nat} (h : Ok W q) (hk : k < q.length) (hf : fnd q id = some q[k]) : lvQ id q = q.take k ++ q.drop (k + 1) := by
  have e := (fnd_is hf).2
  rw [← lv_erase h k hk, e]

set_option maxHeartbeats 4000000 in
theorem r9leave (t r W id : Int) (v : Value) (q : List Rq) (w : World) (hl : q.length ≤ 1000) (hok : Ok W q) (hcap : capOk v) (h : RqAt w v q) :
    Calls Try.prog 26 #[hdV t r v W, .int .i64 id] w (HR1 (lvR ⟨t, r, W, q⟩ id) w) := by
  have HOk := Lib.hid hok
  clear hok
  obtain ⟨X, hX⟩ : ∃ X, lvR ⟨t, r, W, q⟩ id = X := ⟨_, rfl⟩
  rw [hX]
  have HXx := Lib.hid hX
  clear hX
  have HA := Lib.hid (fun (w1 : World) (g : Nw w w1) => r9at t r W id v q w1 hl (h.nw g))
  have HCp := Lib.hid (fun (w1 : World) (g : Nw w w1) => r9copied t r W v q w1 hl (h.nw g))
  unfold hdV at HA HCp
  unfold HR1 hdV
  obtain ⟨a, c, rfl, h⟩ := h
  have HH := Lib.hid h
  have hcq : q.length ≤ c := hcap
  clear h hcap
  have HX := Lib.hid (two_boxes w (.cells #[.int .i64 t, .int .i64 r, .slice a q.length c, .int .i64 W] 27) (.cells #[.int .i64 0, .int .i64 0, .slice none 0 0, .int .i64 0] 27))
  go_enter Try.func26, Try.ntmps26
  go_wp2_with fail
  refine (HA.out _ HX.out.2.2.1).mono ?_
  rintro e w1 ⟨i, rfl, g1, hi⟩
  have hp1 := g1.at' HX.out.1
  have hq1 := g1.at' HX.out.2.1
  have HN1 := Lib.hid (HX.out.2.2.1.trans g1)
  have c0 := hcell (j := 0) hp1
  have c1 := hcell (j := 1) hp1
  have c2 := hcell (j := 2) hp1
  have c3 := hcell (j := 3) hp1
  have hsl := hlt hp1
  have hsl2 := hlt hq1
  rcases hi with ⟨rfl, hf⟩ | ⟨k, rfl, hk, hf⟩
  · have hR := HXx.out.symm.trans (show lvR ⟨t, r, W, q⟩ id = (noH, 5) by unfold lvR; rw [hf])
    subst hR
    have d0 := hcell (j := 0) hq1
    have d1 := hcell (j := 1) hq1
    have d2 := hcell (j := 2) hq1
    have d3 := hcell (j := 3) hq1
    have fz := fun k => hfz (j := k) hq1
    clear hf hp1 hq1 g1 HA HCp HX HOk HXx HH
    go_wp2
    refine bodyPost_ret (v := .tuple #[.agg #[.int .i64 0, .int .i64 0, .slice none 0 0, .int .i64 0], .int .i64 5]) (by simp [results, Try.results26, go_sem, *]) rfl ⟨_, rfl, fill_nw HN1.out (Nat.le_succ _) _ _ _ _, Rd.nil _, Nat.le_refl _⟩
  · rcases HH.out with ⟨e, _⟩ | ⟨b, o, rfl, hc⟩
    · subst e; simp at hk
    have hR := HXx.out.symm.trans (show lvR ⟨t, r, W, q⟩ id = (⟨t, r, W, q.take k ++ q.drop (k + 1)⟩, 0) by unfold lvR; rw [hf, lv_at HOk.out hk hf])
    subst hR
    have HWo := Lib.hid (r9without t r W b o c k q w1 hl hk hcq (hc.nw HN1.out))
    unfold hdV at HWo
    have HQ1 := Lib.hid hq1
    have hs1 : w.heap.size + 1 < w1.heap.size := hlt hq1
    clear hf hp1 hq1 g1 HA HCp HX HOk HXx HH hc
    go_wp2_with fail
    refine HWo.out.mono ?_
    rintro e w2 ⟨v2, rfl, g2, hO⟩
    have hq2 := g2.at' HQ1.out
    obtain ⟨a2, k2, hv2⟩ := (RqOwn.rd hO).form
    have HO := Lib.hid hO
    have HN2 := Lib.hid (HN1.out.trans g2)
    obtain ⟨n2, hn2⟩ : ∃ n, (q.take k ++ q.drop (k + 1)).length = n := ⟨_, rfl⟩
    rw [hn2] at hv2
    subst hv2
    have d0 := hcell (j := 0) hq2
    have d1 := hcell (j := 1) hq2
    have d2 := hcell (j := 2) hq2
    have d3 := hcell (j := 3) hq2
    have fz := fun k => hfz (j := k) hq2
    have hsl3 := hlt hq2
    clear hO g2 hq2 hn2 HWo HQ1
    go_wp2
    refine bodyPost_ret (v := .tuple #[.agg #[.int .i64 t, .int .i64 r, .slice a2 n2 k2, .int .i64 W], .int .i64 0]) (by simp [results, Try.results26, go_sem, *]) rfl ⟨_, rfl, fill_nw HN2.out (Nat.le_succ _) _ _ _ _, (fill_own HO.out (by omega) _ _ _ _).rd, HO.out.cap⟩
end Go.Proofs.Ytmciiobncfchlaa
