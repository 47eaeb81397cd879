
/- Collect, Pass. -/
import Derived.Test.YtolpccchhjcddaaTkP
import Derived.StillTailTactics
namespace Go.Proofs.Ytolpccchhjcddaa
open Go.RowKit Go.Shelf

theorem collect_any (gf : Nat) (lb : Array Value) (eg : ∀ args w, (callFunc gf args).run Try.prog w = .ok (.enter gf args) w) (xs : List Tm) (S0 : Nat → Prop) (End : World → Prop) (w : World) (hsm : xs.length ≤ 100000)
    (hS0 : ∀ k, S0 k → k < w.heap.size) (hseq : SeqH Fence.wide 4 Try.prog gf lb xs S0 End w) (hEnd : ∀ (A : World) (l : Nat) (o o' : Obj), w.heap.size ≤ l → A.heap[l]? = some o → o.isCells = false → End A → End (A.putObj l o')) :
    Calls Try.prog 29 #[.func (.func gf) #[] lb] w (AsPost w S0 End xs) := by
  have H := Lib.hid (callsIn_wide.1 (appendSeq_in 5 (by omega) gf lb eg xs S0 End w hsm hS0 hseq hEnd))
  clear hseq hEnd hS0
  go_enter Try.func29, Try.ntmps29
  go_wp2_with fail
  refine H.out.mono ?_
  rintro e w1 h
  obtain ⟨v, rfl, h⟩ := h
  have HP := Lib.hid h
  clear h
  go_wp2
  go_ret
  exact ⟨v, rfl, HP.out⟩

theorem popEnd_put {W6 : World} {c ho : Nat} {v : Value} {rest : List Tm} (hc : c < W6.heap.size) (A : World) (l : Nat) (o o' : Obj) (hl : W6.heap.size ≤ l) (h : A.heap[l]? = some o) (ho' : o.isCells = false) (k : PopEnd W6 c ho v rest A) : PopEnd W6 c ho v rest (A.putObj l o') := by
  obtain ⟨v', l', k1, k2, k3, k4⟩ := k
  have hch : Ch' l (fun _ => False) A (A.putObj l o') := Ch'.put _ (.inl rfl) h ho'
  refine ⟨v', l', hch.hv k1 (fun e => e) (fun _ _ e => e), k2, k3, k4.trans fun x _ => ?_⟩
  have e : (A.putObj l o').heap[c]? = A.heap[c]? := World.putObj_heap_other (by omega)
  exact ⟨World.cell?_of_block e, World.frozen?_of_block e⟩
theorem e_pop1 : ∀ args w, (callFunc 39 args).run Try.prog w = .ok (.enter 39 args) w := enters_of Try.func39 (by kernel_rfl) rfl

/-- What is due, taken out of the slice behind a header, in a world that has the iterator's two boxes. -/
theorem collect_due (hb ho : Nat) (v : Value) (l s : List Tm) (t : Int) (w : World) (h : Hv w hb ho v l) (hs : Hs l s) (hsm : s.length ≤ 100000) :
    Calls Try.prog 29 #[.func (.func 39) #[] #[.pointer (some ⟨w.heap.size, 0, none⟩), .pointer (some ⟨w.heap.size + 1, 0, none⟩)]]
      ((w.alloc (.cells #[.pointer (some ⟨hb, ho, none⟩)] 59)).alloc (.cells #[.int .i64 t] 2))
      fun e W => ∃ v1, e = .returned v1 ∧ W.ownsRow 0 28 3 v1 (due t s).length (trows (due t s)) ∧ (∀ k, v1.ownBlock = some k → w.heap.size ≤ k) ∧
        (∃ v' l', Hv W hb ho v' l' ∧ v'.ownBlock = v.ownBlock ∧ Hs l' (late t s) ∧ Side hb ho w W) ∧ Tch (Of hb v) w W := by
  obtain ⟨W6, hW6⟩ : ∃ W6, (w.alloc (.cells #[.pointer (some ⟨hb, ho, none⟩)] 59)).alloc (.cells #[.int .i64 t] 2) = W6 := ⟨_, rfl⟩
  have nw : Nw w W6 := by rw [← hW6]; exact ((Nw.refl w).alloc _).alloc _
  have hsz : W6.heap.size = w.heap.size + 2 := by rw [← hW6]; simp
  have c1 : W6.cell? ⟨w.heap.size, 0, none⟩ = some (.pointer (some ⟨hb, ho, none⟩)) := by rw [← hW6]; simp [go_sem]
  have c2 : W6.cell? ⟨w.heap.size + 1, 0, none⟩ = some (.int .i64 t) := by rw [← hW6]; simp [go_sem]
  rw [hW6]
  have hlt := h.lt
  have own : ∀ k, Of hb v k → k < w.heap.size := by
    rintro k (rfl | e)
    · exact hlt
    · exact (World.ownsRow.lt h.row k e).2
  have hv := h.nw nw
  have hseq := pop1_in 4 (by omega) w.heap.size (w.heap.size + 1) hb ho v l s t W6 c1 c2 (fun e => by have := own _ e; omega) (fun e => by have := own _ e; omega) hv hs hsm
  have hdue : (due t s).length ≤ 100000 := Nat.le_trans (List.takeWhile_prefix _).length_le hsm
  refine (collect_any _ _ e_pop1 (due t s) (Sp w.heap.size (w.heap.size + 1) hb v) _ W6 hdue ?_ hseq (popEnd_put (by omega))).mono ?_
  · rintro k (rfl | rfl | e)
    · omega
    · omega
    · have := own k e; omega
  · rintro e W ⟨v1, rfl, q1, q2, ⟨v', l', q3, q4, q5, q6⟩, q7⟩
    refine ⟨v1, rfl, q1, fun k e => by have := q2 k e; omega, ⟨v', l', q3, q4, q5, (Side.tch (Tch.nw (S := fun _ => False) nw) hlt (fun e => e)).trans q6⟩, (Tch.nw nw).trans' q7 fun i hi e => ?_⟩
    rcases e with rfl | rfl | e
    · omega
    · omega
    · exact e

def passT (t n : Int) : Int := t + min n (9223372036854775807 - t)
theorem pass_nil (n : Int) (w : World) : Calls Try.prog 11 #[.pointer none, .int .i64 n] w fun e w' => e = .returned (.tuple #[.slice none 0 0, .int .i64 1]) ∧ w = w' := by
  go_enter Try.func11, Try.ntmps11
  go_wp2_with (go_at_call 26; refine (made_nil _).mono ?_; rintro e w' ⟨rfl, rfl⟩)
  go_ret2
  exact ⟨rfl, rfl⟩
theorem pass_bad (c : Nat) (n : Int) (w : World) (h : w.cell? ⟨c, 0, none⟩ = some (.pointer (some ⟨c, 0, none⟩))) (hn : n < 0 ∨ 1000 < n) : Calls Try.prog 11 #[.pointer (some ⟨c, 0, none⟩), .int .i64 n] w fun e w' => e = .returned (.tuple #[.slice none 0 0, .int .i64 2]) ∧ w = w' := by
  have HM := Lib.hid (made_yes c w h)
  rcases hn with hn | hn
  · go_enter Try.func11, Try.ntmps11
    go_wp2_with (go_at_call 26; refine HM.out.mono ?_; rintro e w' ⟨rfl, rfl⟩)
    go_ret2
    exact ⟨rfl, rfl⟩
  · have h0 : ¬ n < 0 := by omega
    go_enter Try.func11, Try.ntmps11
    go_wp2_with (go_at_call 26; refine HM.out.mono ?_; rintro e w' ⟨rfl, rfl⟩)
    go_ret2
    exact ⟨rfl, rfl⟩
def PassPost (w : World) (c : Nat) (F : Nat → Prop) (t : Int) (s : List Tm) (e : Ending) (W : World) : Prop :=
  ∃ v F', e = .returned (.tuple #[v, .int .i64 0]) ∧ W.ownsRow 0 28 3 v (due t s).length (trows (due t s)) ∧ (∀ k, v.ownBlock = some k → w.heap.size ≤ k) ∧ Clk W c t (late t s) F' ∧ (∀ k, F' k → F k) ∧ Tch F w W
theorem ck_time {w : World} {c : Nat} {t : Int} {v : Value} {l s : List Tm} (h : Ck w c t v l s) (T : Int) (h0 : 0 ≤ T) (h1 : T ≤ 9223372036854775807) :
    Ck (w.setCell ⟨c, 1, none⟩ (.int .i64 T)).drew c T v l s ∧ Tch (Of c v) w (w.setCell ⟨c, 1, none⟩ (.int .i64 T)).drew := by
  have hs : ∀ o, o ≠ 1 → (w.setCell ⟨c, 1, none⟩ (.int .i64 T)).drew.cell? ⟨c, o, none⟩ = w.cell? ⟨c, o, none⟩ := fun o ho => World.cell?_setCell_other _ _ _ _ (fun q => ho (by simpa using q.symm))
  have hz : ∀ o, (w.setCell ⟨c, 1, none⟩ (.int .i64 T)).drew.frozen? ⟨c, o, none⟩ = w.frozen? ⟨c, o, none⟩ := fun o => World.frozen?_setCell ..
  refine ⟨⟨(hs 0 (by decide)).trans h.self, World.cell?_setCell_same _ _ _ h.now, (hz 1).trans h.nowf, ⟨(hs 2 (by decide)).trans h.tm.hd, (hz 2).trans h.tm.hf, ?_, h.tm.ne⟩, h.hs, h.uq, h0, h1⟩, ?_⟩
  · rcases h.tm.form with ⟨rfl, rfl⟩ | ⟨g, cap, rfl, hp⟩
    · exact World.ownsRow_nil _ _ _ _
    · exact TRow.kept (w := w) hp.row (Below.heap_setCell _ _ _ _ (fun e => hp.ne e.symm))
  · exact (Tch.set (S := Of c v) (p := ⟨c, 1, none⟩) (Tch.refl _ w) (.inl (.inl rfl)) _).drew
theorem late_uq {s : List Tm} (h : (s.map (·.2)).Nodup) (t : Int) : ((late t s).map (·.2)).Nodup := List.Nodup.sublist (List.Sublist.map _ (List.dropWhile_sublist _)) h
theorem pass_fin {w W7 W : World} {c : Nat} {T : Int} {v v1 : Value} {l s : List Tm} (h : Ck W7 c T v l s) (ht : Tch (Of c v) w W7) (q1 : W.ownsRow 0 28 3 v1 (due T s).length (trows (due T s))) (q2 : ∀ k, v1.ownBlock = some k → W7.heap.size ≤ k)
    (q3 : ∃ v' l', Hv W c 2 v' l' ∧ v'.ownBlock = v.ownBlock ∧ Hs l' (late T s) ∧ Side c 2 W7 W) (q4 : Tch (Of c v) W7 W) : PassPost w c (Of c v) T s (.returned (.tuple #[v1, .int .i64 0])) W := by
  obtain ⟨v', l', p1, p2, p3, p4⟩ := q3
  refine ⟨v1, Of c v', rfl, q1, fun k e => Nat.le_trans ht.size (q2 k e), ⟨v', l', ⟨(p4 0 (by decide)).1.trans h.self, (p4 1 (by decide)).1.trans h.now, (p4 1 (by decide)).2.trans h.nowf, p1, p3, late_uq h.uq T, h.tb⟩, rfl⟩, ?_, ht.trans q4⟩
  rintro k (rfl | e)
  · exact .inl rfl
  · exact .inr (by rw [← p2]; exact e)
set_option maxHeartbeats 2000000 in
theorem pass_any (c : Nat) (t : Int) (s : List Tm) (F : Nat → Prop) (n : Int) (w : World) (h : Clk w c t s F) (hsm : s.length ≤ 50000) (h0 : 0 ≤ n) (h1 : n ≤ 1000) :
    Calls Try.prog 11 #[.pointer (some ⟨c, 0, none⟩), .int .i64 n] w (PassPost w c F (passT t n) s) := by
  obtain ⟨v, l, h, rfl⟩ := h
  have HC := Lib.hid h
  have HM := Lib.hid (made_yes c w h.self)
  have hn := h.now
  have hf := h.nowf
  obtain ⟨t0, t1⟩ := h.tb
  clear h
  by_cases hmin : n ≤ 9223372036854775807 - t
  · have e : passT t n = t + n := by unfold passT; rw [Int.min_eq_left hmin]
    rw [e]
    clear e
    go_enter Try.func11, Try.ntmps11
    go_wp2_with (go_at_call 26; refine HM.out.mono ?_; rintro e w' ⟨rfl, rfl⟩)
    go_region
    go_wp2
    obtain ⟨T, hT⟩ : ∃ T, t + n = T := ⟨_, rfl⟩
    have HS := Lib.hid (ck_time HC.out T (by omega) (by omega))
    rw [hT]
    have HT := Lib.hid hT
    clear hT hn hf hmin
    obtain ⟨W5, hW5⟩ : ∃ W5, (w.setCell ⟨c, 1, none⟩ (.int .i64 T)).drew = W5 := ⟨_, rfl⟩
    rw [hW5] at HS ⊢
    clear hW5
    have c1 := HS.out.1.now
    refine wp_region_still_tail 7 (by kernel_rfl) (by kernel_rfl) ?_
    simp only [List.take_succ_cons, List.take_zero, List.drop_succ_cons, List.drop_zero]
    iterate 7 still_step
    refine wpStill_nil ?_
    change wpList _ _ _ _ _ W5.drew
    have HD := Lib.hid (And.intro (HS.out.1.nw ((Nw.refl W5).drewN 1)) (HS.out.2.drewN 1))
    change Hid (Ck W5.drew _ _ _ _ _ ∧ Tch _ w W5.drew) at HD
    clear c1 HS
    generalize W5.drew = W7 at *
    have HX := Lib.hid (collect_due c 2 v l s T W7 HD.out.1.tm HD.out.1.hs (by omega))
    have eg := e_pop1
    go_wp2_with fail
    refine (popUntil_any c 2 T W7).mono ?_
    rintro e w1 ⟨rfl, rfl⟩
    go_wp2_with fail
    refine HX.out.mono ?_
    rintro e w1 h
    obtain ⟨v1, rfl, q1, q2, q3, q4⟩ := h
    have HQ := Lib.hid (pass_fin HD.out.1 HD.out.2 q1 q2 q3 q4)
    clear q1 q2 q3 q4
    go_wp2
    go_ret2
    rw [HT.out]
    exact HQ.out
  · have e : passT t n = t + (9223372036854775807 - t) := by unfold passT; rw [Int.min_eq_right (by omega)]
    rw [e]
    clear e
    have hmin' : 9223372036854775807 - t < n := by omega
    go_enter Try.func11, Try.ntmps11
    go_wp2_with (go_at_call 26; refine HM.out.mono ?_; rintro e w' ⟨rfl, rfl⟩)
    go_region
    go_wp2
    obtain ⟨T, hT⟩ : ∃ T, t + (9223372036854775807 - t) = T := ⟨_, rfl⟩
    have HS := Lib.hid (ck_time HC.out T (by omega) (by omega))
    rw [hT]
    have HT := Lib.hid hT
    clear hT hn hf hmin
    obtain ⟨W5, hW5⟩ : ∃ W5, (w.setCell ⟨c, 1, none⟩ (.int .i64 T)).drew = W5 := ⟨_, rfl⟩
    rw [hW5] at HS ⊢
    clear hW5
    have c1 := HS.out.1.now
    refine wp_region_still_tail 7 (by kernel_rfl) (by kernel_rfl) ?_
    simp only [List.take_succ_cons, List.take_zero, List.drop_succ_cons, List.drop_zero]
    iterate 7 still_step
    refine wpStill_nil ?_
    change wpList _ _ _ _ _ W5.drew
    have HD := Lib.hid (And.intro (HS.out.1.nw ((Nw.refl W5).drewN 1)) (HS.out.2.drewN 1))
    change Hid (Ck W5.drew _ _ _ _ _ ∧ Tch _ w W5.drew) at HD
    clear c1 HS
    generalize W5.drew = W7 at *
    have HX := Lib.hid (collect_due c 2 v l s T W7 HD.out.1.tm HD.out.1.hs (by omega))
    have eg := e_pop1
    go_wp2_with fail
    refine (popUntil_any c 2 T W7).mono ?_
    rintro e w1 ⟨rfl, rfl⟩
    go_wp2_with fail
    refine HX.out.mono ?_
    rintro e w1 h
    obtain ⟨v1, rfl, q1, q2, q3, q4⟩ := h
    have HQ := Lib.hid (pass_fin HD.out.1 HD.out.2 q1 q2 q3 q4)
    clear q1 q2 q3 q4
    go_wp2
    go_ret2
    rw [HT.out]
    exact HQ.out
end Go.Proofs.Ytolpccchhjcddaa
