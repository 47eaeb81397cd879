
/- The document's own parked threads. -/
import Derived.Test.YtbgpnjoghfjodaaPkL
namespace Go.Proofs.Ytbgpnjoghfjodaa
open Go.RowKit

/-- The document's own threads in memory: two rows of truths. -/
structure Rk (W : World) (o g r : Nat) (ss : List Int) : Prop where
  p0 : W.cell? ⟨o, 0, none⟩ = some (.slice (some ⟨g, 0, none⟩) ss.length ss.length)
  p1 : W.cell? ⟨o, 1, none⟩ = some (.slice (some ⟨r, 0, none⟩) ss.length ss.length)
  ps : ∀ i, i < ss.length → W.cell? ⟨g, i, none⟩ = some (.bool (decide (st ss i = 1))) ∧ W.frozen? ⟨g, i, none⟩ = false
  ts : ∀ i, i < ss.length → W.cell? ⟨r, i, none⟩ = some (.bool (decide (st ss i = 2))) ∧ W.frozen? ⟨r, i, none⟩ = false
  ol : o < W.heap.size
  gl : g < W.heap.size
  rl : r < W.heap.size
  go : g ≠ o
  ro : r ≠ o
  gr : g ≠ r
  vl : Vl ss
/-- The places that these threads may write. -/
abbrev Rf (g r : Nat) : Nat → Prop := fun k => k = g ∨ k = r
theorem Rk.tch {S : Nat → Prop} {W W' : World} {o g r : Nat} {ss : List Int} (h : Rk W o g r ss) (k : Tch S W W') (ho : ¬ S o) (hg : ¬ S g) (hr : ¬ S r) : Rk W' o g r ss :=
  ⟨(k.cell h.ol ho).trans h.p0, (k.cell h.ol ho).trans h.p1, fun i hi => ⟨(k.cell h.gl hg).trans (h.ps i hi).1, (k.froz h.gl hg).trans (h.ps i hi).2⟩, fun i hi => ⟨(k.cell h.rl hr).trans (h.ts i hi).1, (k.froz h.rl hr).trans (h.ts i hi).2⟩,
    Nat.lt_of_lt_of_le h.ol k.size, Nat.lt_of_lt_of_le h.gl k.size, Nat.lt_of_lt_of_le h.rl k.size, h.go, h.ro, h.gr, h.vl⟩
theorem Rk.nw {W W' : World} {o g r : Nat} {ss : List Int} (h : Rk W o g r ss) (k : Nw W W') : Rk W' o g r ss := h.tch (Tch.nw (S := fun _ => False) k) (fun e => e) (fun e => e) (fun e => e)
def RTo (W : World) (o g r : Nat) (ss : List Int) (W' : World) : Prop := Rk W' o g r ss ∧ Tch (Rf g r) W W'
theorem Rk.keep {W : World} {o g r : Nat} {ss : List Int} (h : Rk W o g r ss) : RTo W o g r ss W := ⟨h, Tch.refl _ W⟩
theorem Rk.put1 {W : World} {o g r : Nat} {ss : List Int} (h : Rk W o g r ss) {i : Nat} (x : Int) (b : Bool) (hi : i < ss.length) (hb : decide (x = 1) = b) (hx : decide (x = 2) = decide (st ss i = 2)) (x0 : 0 ≤ x) (x1 : x ≤ 2) :
    RTo W o g r (ss.set i x) (W.setCell ⟨g, i, none⟩ (.bool b)) := by
  have t := setCell_at W ⟨g, i, none⟩ (.bool b)
  have c : ∀ k j, k < W.heap.size → k ≠ g → (W.setCell ⟨g, i, none⟩ (.bool b)).cell? ⟨k, j, none⟩ = W.cell? ⟨k, j, none⟩ := fun k j hk e => t.cell hk e
  refine ⟨⟨by rw [List.length_set]; exact (c _ _ h.ol h.go.symm).trans h.p0, by rw [List.length_set]; exact (c _ _ h.ol h.go.symm).trans h.p1, fun j hj => ?_, fun j hj => ?_, by simpa using h.ol, by simpa using h.gl, by simpa using h.rl, h.go, h.ro, h.gr, h.vl.set hi x0 x1⟩, t.mono fun _ _ e => .inl e⟩
  · rw [List.length_set] at hj
    refine ⟨?_, by rw [World.frozen?_setCell]; exact (h.ps j hj).2⟩
    rw [st_set _ _ _ _ hi]
    by_cases e : i = j
    · subst e
      rw [if_pos rfl, hb]
      exact World.cell?_setCell_same _ _ _ (h.ps i hi).1
    · rw [if_neg e]
      exact (World.cell?_setCell_other _ _ _ _ (fun q => e (congrArg Addr.off q))).trans (h.ps j hj).1
  · rw [List.length_set] at hj
    refine ⟨?_, by rw [World.frozen?_setCell]; exact (h.ts j hj).2⟩
    rw [st_set _ _ _ _ hi, c _ _ h.rl h.gr.symm, (h.ts j hj).1]
    by_cases e : i = j
    · subst e
      rw [if_pos rfl, hx]
    · rw [if_neg e]
theorem Rk.put2 {W : World} {o g r : Nat} {ss : List Int} (h : Rk W o g r ss) {i : Nat} (x : Int) (b : Bool) (hi : i < ss.length) (hb : decide (x = 2) = b) (hx : decide (x = 1) = decide (st ss i = 1)) (x0 : 0 ≤ x) (x1 : x ≤ 2) :
    RTo W o g r (ss.set i x) (W.setCell ⟨r, i, none⟩ (.bool b)) := by
  have t := setCell_at W ⟨r, i, none⟩ (.bool b)
  have c : ∀ k j, k < W.heap.size → k ≠ r → (W.setCell ⟨r, i, none⟩ (.bool b)).cell? ⟨k, j, none⟩ = W.cell? ⟨k, j, none⟩ := fun k j hk e => t.cell hk e
  refine ⟨⟨by rw [List.length_set]; exact (c _ _ h.ol h.ro.symm).trans h.p0, by rw [List.length_set]; exact (c _ _ h.ol h.ro.symm).trans h.p1, fun j hj => ?_, fun j hj => ?_, by simpa using h.ol, by simpa using h.gl, by simpa using h.rl, h.go, h.ro, h.gr, h.vl.set hi x0 x1⟩, t.mono fun _ _ e => .inr e⟩
  · rw [List.length_set] at hj
    refine ⟨?_, by rw [World.frozen?_setCell]; exact (h.ps j hj).2⟩
    rw [st_set _ _ _ _ hi, c _ _ h.gl h.gr, (h.ps j hj).1]
    by_cases e : i = j
    · subst e
      rw [if_pos rfl, hx]
    · rw [if_neg e]
  · rw [List.length_set] at hj
    refine ⟨?_, by rw [World.frozen?_setCell]; exact (h.ts j hj).2⟩
    rw [st_set _ _ _ _ hi]
    by_cases e : i = j
    · subst e
      rw [if_pos rfl, hb]
      exact World.cell?_setCell_same _ _ _ (h.ts i hi).1
    · rw [if_neg e]
      exact (World.cell?_setCell_other _ _ _ _ (fun q => e (congrArg Addr.off q))).trans (h.ts j hj).1

theorem ris_at {o g r : Nat} {ss : List Int} {W : World} (h : Rk W o g r ss) (t : Int) : Calls Try.prog 33 #[.pointer (some ⟨o, 0, none⟩), .int .i64 t] W fun e W' => e = .returned (.bool (decide (Okt ss t))) ∧ W = W' := by
  have h1 := h.p0
  clear h
  by_cases a0 : 0 ≤ t
  · by_cases a1 : t < (ss.length : Int)
    · rw [decide_eq_true (show Okt ss t from ⟨a0, a1⟩)]
      generalize ss.length = N at *
      have d1 : decide (t < (N : Int)) = true := by simpa using a1
      go_enter Try.func33, Try.ntmps33
      go_wp2
      go_ret
      exact ⟨rfl, rfl⟩
    · rw [decide_eq_false (show ¬ Okt ss t from fun e => a1 e.2)]
      generalize ss.length = N at *
      have d1 : decide (t < (N : Int)) = false := by simpa using a1
      go_enter Try.func33, Try.ntmps33
      go_wp2
      go_ret
      exact ⟨rfl, rfl⟩
  · rw [decide_eq_false (show ¬ Okt ss t from fun e => a0 e.1)]
    generalize ss.length = N at *
    go_enter Try.func33, Try.ntmps33
    go_wp2
    go_ret
    exact ⟨rfl, rfl⟩
theorem rpark_at {o g r : Nat} {ss : List Int} {W : World} (h : Rk W o g r ss) (t : Int) : Calls Try.prog 22 #[.pointer (some ⟨o, 0, none⟩), .int .i64 t] W fun e W' => e = .returned (.tuple #[.bool (parkR ss t).1, .int .i64 (parkR ss t).2]) ∧ RTo W o g r (parkS ss t) W' := by
  have HC := Lib.hid (ris_at h t)
  have HK := Lib.hid h.keep
  by_cases q : Okt ss t
  · rw [decide_eq_true q] at HC
    obtain ⟨i, rfl, hi⟩ := q.n
    have h1 := h.p0
    have h2 := h.p1
    have hl := h.vl.l1
    obtain ⟨c1, f1⟩ := h.ps i hi
    obtain ⟨c2, f2⟩ := h.ts i hi
    have hgl := h.gl
    have hrl := h.rl
    by_cases k1 : st ss i = 1
    · rw [(park_twice q k1).1, (park_twice q k1).2]
      rw [decide_eq_true k1] at c1
      clear q h k1 c2
      generalize ss.length = N at *
      go_enter Try.func22, Try.ntmps22
      go_wp2_with (go_at_call 33; refine HC.out.mono ?_; rintro e w' ⟨rfl, rfl⟩)
      exact bodyPost_ret (v := .tuple #[.bool false, .int .i64 4]) (by simp [results, Try.results22, go_sem]) rfl ⟨rfl, HK.out⟩
    · by_cases k2 : st ss i = 2
      · rw [(park_tok q k2).1, (park_tok q k2).2]
        rw [decide_eq_false k1] at c1
        rw [decide_eq_true k2] at c2
        have HG := Lib.hid (h.put2 0 false hi (by decide) (by rw [decide_eq_false k1]; rfl) (by omega) (by omega))
        clear q h k1 k2 HK
        generalize ss.length = N at *
        go_enter Try.func22, Try.ntmps22
        go_wp2_with (go_at_call 33; refine HC.out.mono ?_; rintro e w' ⟨rfl, rfl⟩)
        exact bodyPost_ret (v := .tuple #[.bool true, .int .i64 0]) (by simp [results, Try.results22, go_sem]) rfl ⟨rfl, HG.out⟩
      · have k0 : st ss i = 0 := by have := h.vl.bd i hi; omega
        rw [(park_run q k0).1, (park_run q k0).2]
        rw [decide_eq_false k1] at c1
        rw [decide_eq_false k2] at c2
        have HG := Lib.hid (h.put1 1 true hi (by decide) (by rw [decide_eq_false k2]; rfl) (by omega) (by omega))
        clear q h k1 k2 k0 HK
        generalize ss.length = N at *
        go_enter Try.func22, Try.ntmps22
        go_wp2_with (go_at_call 33; refine HC.out.mono ?_; rintro e w' ⟨rfl, rfl⟩)
        exact bodyPost_ret (v := .tuple #[.bool false, .int .i64 0]) (by simp [results, Try.results22, go_sem]) rfl ⟨rfl, HG.out⟩
  · rw [decide_eq_false q] at HC
    rw [(park_bad q).1, (park_bad q).2]
    clear h q
    go_enter Try.func22, Try.ntmps22
    go_wp2_with (go_at_call 33; refine HC.out.mono ?_; rintro e w' ⟨rfl, rfl⟩)
    exact bodyPost_ret (v := .tuple #[.bool false, .int .i64 2]) (by simp [results, Try.results22, go_sem]) rfl ⟨rfl, HK.out⟩
theorem runpark_at {o g r : Nat} {ss : List Int} {W : World} (h : Rk W o g r ss) (t : Int) : Calls Try.prog 20 #[.pointer (some ⟨o, 0, none⟩), .int .i64 t] W fun e W' => e = .returned (.tuple #[.bool (unpR ss t).1, .int .i64 (unpR ss t).2]) ∧ RTo W o g r (unpS ss t) W' := by
  have HC := Lib.hid (ris_at h t)
  have HK := Lib.hid h.keep
  by_cases q : Okt ss t
  · rw [decide_eq_true q] at HC
    obtain ⟨i, rfl, hi⟩ := q.n
    have h1 := h.p0
    have h2 := h.p1
    have hl := h.vl.l1
    obtain ⟨c1, f1⟩ := h.ps i hi
    obtain ⟨c2, f2⟩ := h.ts i hi
    have hgl := h.gl
    have hrl := h.rl
    by_cases k1 : st ss i = 1
    · rw [(unp_yes q k1).1, (unp_yes q k1).2]
      rw [decide_eq_true k1] at c1
      have HG := Lib.hid (h.put1 0 false hi (by decide) (by rw [k1]; rfl) (by omega) (by omega))
      clear q h k1 c2 HK
      generalize ss.length = N at *
      go_enter Try.func20, Try.ntmps20
      go_wp2_with (go_at_call 33; refine HC.out.mono ?_; rintro e w' ⟨rfl, rfl⟩)
      exact bodyPost_ret (v := .tuple #[.bool true, .int .i64 0]) (by simp [results, Try.results20, go_sem]) rfl ⟨rfl, HG.out⟩
    · rw [(unp_no q k1).1, (unp_no q k1).2]
      rw [decide_eq_false k1] at c1
      have HG := Lib.hid (h.put2 2 true hi (by decide) (by rw [decide_eq_false k1]; rfl) (by omega) (by omega))
      clear q h k1 HK
      generalize decide (st ss i = 2) = b2 at *
      generalize ss.length = N at *
      go_enter Try.func20, Try.ntmps20
      go_wp2_with (go_at_call 33; refine HC.out.mono ?_; rintro e w' ⟨rfl, rfl⟩)
      exact bodyPost_ret (v := .tuple #[.bool false, .int .i64 0]) (by simp [results, Try.results20, go_sem]) rfl ⟨rfl, HG.out⟩
  · rw [decide_eq_false q] at HC
    rw [(unp_bad q).1, (unp_bad q).2]
    clear h q
    go_enter Try.func20, Try.ntmps20
    go_wp2_with (go_at_call 33; refine HC.out.mono ?_; rintro e w' ⟨rfl, rfl⟩)
    exact bodyPost_ret (v := .tuple #[.bool false, .int .i64 2]) (by simp [results, Try.results20, go_sem]) rfl ⟨rfl, HK.out⟩
theorem rparked_at {o g r : Nat} {ss : List Int} {W : World} (h : Rk W o g r ss) (t : Int) : Calls Try.prog 23 #[.pointer (some ⟨o, 0, none⟩), .int .i64 t] W fun e W' => e = .returned (.bool (isB ss t 1)) ∧ W = W' := by
  have HC := Lib.hid (ris_at h t)
  by_cases q : Okt ss t
  · rw [decide_eq_true q] at HC
    obtain ⟨i, rfl, hi⟩ := q.n
    have h1 := h.p0
    have h2 := h.p1
    have hl := h.vl.l1
    obtain ⟨c1, _⟩ := h.ps i hi
    obtain ⟨c2, _⟩ := h.ts i hi
    have e1 : isB ss i 1 = decide (st ss i = 1) := by
      unfold isB
      simp only [Int.toNat_natCast]
      exact decide_eq_decide.2 ⟨fun e => e.2, fun e => ⟨q, e⟩⟩
    rw [e1]
    clear h q e1
    generalize decide (st ss i = 1) = b1 at *
    generalize decide (st ss i = 2) = b2 at *
    generalize ss.length = N at *
    go_enter Try.func23, Try.ntmps23
    go_wp2_with (go_at_call 33; refine HC.out.mono ?_; rintro e w' ⟨rfl, rfl⟩)
    go_ret
    exact ⟨rfl, rfl⟩
  · rw [decide_eq_false q] at HC
    rw [is_bad q]
    clear h q
    go_enter Try.func23, Try.ntmps23
    go_wp2_with (go_at_call 33; refine HC.out.mono ?_; rintro e w' ⟨rfl, rfl⟩)
    go_ret
    exact ⟨rfl, rfl⟩
theorem rtoken_at {o g r : Nat} {ss : List Int} {W : World} (h : Rk W o g r ss) (t : Int) : Calls Try.prog 24 #[.pointer (some ⟨o, 0, none⟩), .int .i64 t] W fun e W' => e = .returned (.bool (isB ss t 2)) ∧ W = W' := by
  have HC := Lib.hid (ris_at h t)
  by_cases q : Okt ss t
  · rw [decide_eq_true q] at HC
    obtain ⟨i, rfl, hi⟩ := q.n
    have h1 := h.p0
    have h2 := h.p1
    have hl := h.vl.l1
    obtain ⟨c1, _⟩ := h.ps i hi
    obtain ⟨c2, _⟩ := h.ts i hi
    have e1 : isB ss i 2 = decide (st ss i = 2) := by
      unfold isB
      simp only [Int.toNat_natCast]
      exact decide_eq_decide.2 ⟨fun e => e.2, fun e => ⟨q, e⟩⟩
    rw [e1]
    clear h q e1
    generalize decide (st ss i = 1) = b1 at *
    generalize decide (st ss i = 2) = b2 at *
    generalize ss.length = N at *
    go_enter Try.func24, Try.ntmps24
    go_wp2_with (go_at_call 33; refine HC.out.mono ?_; rintro e w' ⟨rfl, rfl⟩)
    go_ret
    exact ⟨rfl, rfl⟩
  · rw [decide_eq_false q] at HC
    rw [is_bad q]
    clear h q
    go_enter Try.func24, Try.ntmps24
    go_wp2_with (go_at_call 33; refine HC.out.mono ?_; rintro e w' ⟨rfl, rfl⟩)
    go_ret
    exact ⟨rfl, rfl⟩
theorem rdrop_at {o g r : Nat} {ss : List Int} {W : World} (h : Rk W o g r ss) (t : Int) : Calls Try.prog 21 #[.pointer (some ⟨o, 0, none⟩), .int .i64 t] W fun e W' => e = .returned (.bool (isB ss t 2)) ∧ RTo W o g r (takeS ss t 2) W' := by
  have HC := Lib.hid (rtoken_at h t)
  have HK := Lib.hid h.keep
  by_cases q : isB ss t 2 = true
  · have q2 := of_decide_eq_true q
    obtain ⟨i, rfl, hi⟩ := q2.1.n
    have k2 : st ss i = 2 := by simpa using q2.2
    rw [q] at HC ⊢
    rw [take_yes q2.1 k2]
    have h2 := h.p1
    have hl := h.vl.l1
    obtain ⟨c2, f2⟩ := h.ts i hi
    have hrl := h.rl
    rw [decide_eq_true k2] at c2
    have HG := Lib.hid (h.put2 0 false hi (by decide) (by rw [k2]; rfl) (by omega) (by omega))
    clear q h k2 q2 HK
    generalize ss.length = N at *
    go_enter Try.func21, Try.ntmps21
    go_wp2_with (go_at_call 24; refine HC.out.mono ?_; rintro e w' ⟨rfl, rfl⟩)
    go_ret
    exact ⟨rfl, HG.out⟩
  · have q1 : isB ss t 2 = false := by simpa using q
    rw [q1] at HC ⊢
    rw [take_no q1]
    clear h q q1
    go_enter Try.func21, Try.ntmps21
    go_wp2_with (go_at_call 24; refine HC.out.mono ?_; rintro e w' ⟨rfl, rfl⟩)
    go_ret
    exact ⟨rfl, HK.out⟩
theorem rlen_at {o g r : Nat} {ss : List Int} {W : World} (h : Rk W o g r ss) : Calls Try.prog 26 #[.pointer (some ⟨o, 0, none⟩)] W fun e W' => e = .returned (.int .i64 ss.length) ∧ W = W' := by
  have h1 := h.p0
  clear h
  generalize ss.length = N at *
  go_enter Try.func26, Try.ntmps26
  go_wp2
  go_ret
  exact ⟨rfl, rfl⟩
theorem rwaiting_at {o g r : Nat} {ss : List Int} {W : World} (h : Rk W o g r ss) : Calls Try.prog 25 #[.pointer (some ⟨o, 0, none⟩)] W (NewIS W (waitL ss)) := by
  have HH := Lib.hid (fun w' (k : Nw W w') => h.nw k)
  have HP := Lib.hid (fun w' (k : Nw W w') => (h.nw k).p0)
  have HC := Lib.hid (fun w' (k : Nw W w') i hi => (((h.nw k).ps i hi).1.trans (show some (Value.bool (decide (st ss i = 1))) = some (Value.bool (waitB ss i)) from rfl)))
  have hl := h.vl.l1
  have HT := Lib.hid (waitT_succ ss)
  have HE := Lib.hid (waitT_len ss)
  have HZ := Lib.hid (show waitT ss 0 = [] from rfl)
  unfold NewIS waitL
  clear h HH
  generalize ss.length = N at *
  generalize waitT ss = T at *
  go_enter Try.func25, Try.ntmps25
  go_wp2
  go_loopw [3, 4] (fun v i wr => ∃ k : Nat, k ≤ N ∧ i = .int .i64 k ∧ Hid (IS wr v (T k)) ∧ (∀ k, v.ownBlock = some k → W.heap.size ≤ k) ∧ Nw W wr) (fun _ i _ => N - (intOf i).toNat)
  case atStart => exact ⟨0, Nat.zero_le _, rfl, Lib.hid (by rw [HZ.out]; exact IS.nil _), fun k e => by simp [Value.ownBlock] at e, Nw.refl _⟩
  case round =>
    obtain ⟨k, hk, rfl, hI, hv, hG⟩ := hrel
    obtain ⟨ao, cap, rfl, _⟩ := hI.out.box
    have c0 := HP.out _ hG
    by_cases hlt : k < N
    · have hb := HE.out k
      have hs1 := HT.out k
      have c1 := HC.out _ hG k hlt
      have HG := Lib.hid hG
      have Hv := Lib.hid hv
      clear hG hv
      cases hB : waitB ss k with
      | true =>
        rw [hB] at c1 hs1
        rw [if_pos rfl] at hs1
        clear hB
        obtain ⟨v', w2, hrun, q1, q2, q3, g', cap', rfl⟩ := IS.push wr _ (T k) k hI.out (by omega)
        have HQ := Lib.hid (And.intro q1 (And.intro q2 q3))
        have HR2 := Lib.hid hrun
        clear q1 q2 q3 hrun
        go_wp2_with (at_builtin; refine wpList_append_run (by rfl) (.tmp 21) (.tmp 23) 31 rfl _ _ _ _ rfl rfl HR2.out ?_)
        go_roundw
        case rel =>
          refine ⟨k + 1, by omega, by go_num, Lib.hid (by rw [hs1]; exact HQ.out.1), fun k e => (HQ.out.2.2 k e).elim (Hv.out k) (fun q => Nat.le_trans HG.out.sz q), nw_tch HG.out HQ.out.2.1 (fun i e => Hv.out i e)⟩
        case measure => simp [intOf]; omega
      | false =>
        rw [hB] at c1 hs1
        rw [if_neg (by simp)] at hs1
        clear hB
        go_wp2
        go_roundw
        case rel => exact ⟨k + 1, by omega, by go_num, Lib.hid (by rw [hs1]; exact hI.out), Hv.out, HG.out⟩
        case measure => simp [intOf]; omega
    · obtain rfl : k = N := by omega
      go_wp2
      go_ret
      exact ⟨_, rfl, hI.out, hv, hG⟩
end Go.Proofs.Ytbgpnjoghfjodaa
