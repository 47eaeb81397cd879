
/- The document's own clock: Pass. -/
import Derived.Test.YtolpccchhjcddaaTkRD
namespace Go.Proofs.Ytolpccchhjcddaa
open Go.RowKit Go.Shelf

theorem due_split (t : Int) : ∀ (s : List Tm) (k : Nat), k ≤ s.length → (∀ q, q < k → (at' s q).1 ≤ t) → (k < s.length → ¬ (at' s k).1 ≤ t) → due t s = s.take k ∧ late t s = s.drop k
  | [], k, hk, _, _ => by
    obtain rfl : k = 0 := by simpa using hk
    exact ⟨rfl, rfl⟩
  | a :: s, 0, _, _, h2 => due_cons_gt (h2 (by simp))
  | a :: s, k + 1, hk, h1, h2 => by
    obtain ⟨e1, e2⟩ := due_cons_le (x := a) (r := s) (h1 0 (by omega))
    obtain ⟨i1, i2⟩ := due_split t s k (by simpa using hk) (fun q hq => by have := h1 (q + 1) (by omega); simpa [at'] using this) (fun hk => by have := h2 (by simpa using hk); simpa [at'] using this)
    rw [e1, e2, i1, i2]
    exact ⟨rfl, rfl⟩
theorem rpass_bad (c : Nat) (n : Int) (w : World) (hb : n < 0 ∨ 1000 < n) : Calls Try.prog 20 #[.pointer (some ⟨c, 0, none⟩), .int .i64 n] w fun e w' => e = .returned (.tuple #[.slice none 0 0, .int .i64 2]) ∧ w = w' := by
  rcases hb with hb | hb
  · go_enter Try.func20, Try.ntmps20
    go_wp2
    go_ret2
    exact ⟨rfl, rfl⟩
  · have hb2 : ¬ n < 0 := by omega
    go_enter Try.func20, Try.ntmps20
    go_wp2
    go_ret2
    exact ⟨rfl, rfl⟩
def RPost (w : World) (c : Nat) (v : Value) (T : Int) (s : List Tm) (e : Ending) (W' : World) : Prop :=
  ∃ v1 v', e = .returned (.tuple #[v1, .int .i64 0]) ∧ TS W' v1 (due T s) ∧ (∀ k, v1.ownBlock = some k → w.heap.size ≤ k) ∧ Rc W' c T v' (late T s) ∧ (∀ k, v'.ownBlock = some k → w.heap.size ≤ k) ∧ Tch (fun k => k = c) w W'
theorem rp_end {w wT w6 w8 : World} {c : Nat} {t T : Int} {v v1 v2 : Value} {s d l : List Tm} (hT : Tch (fun k => k = c) w wT) (hR : Rc wT c T v s) (F1 : Fr wT w6 v1 d) (F2 : Fr w6 w8 v2 l) (hd : due T s = d) (hl : late T s = l) :
    RPost w c v T s (.returned (.tuple #[v1, .int .i64 0])) (w8.setCell ⟨c, 1, none⟩ v2) := by
  obtain ⟨p1, p2⟩ := (hR.nw F1.nw).put F2
  subst hd hl
  have hs := hT.size
  refine ⟨v1, v2, rfl, F1.ts.tch p2 (fun g e q => by have := F1.new g e; have := hR.lt; omega), fun k e => Nat.le_trans hs (F1.new k e), p1, fun k e => Nat.le_trans hs (Nat.le_trans F1.nw.sz (F2.new k e)), (hT.trans (Tch.nw F1.nw)).trans p2⟩
/-- The time is another one now. -/
theorem Rc.tick {w : World} {c : Nat} {t : Int} {v : Value} {s : List Tm} (h : Rc w c t v s) (T : Int) : Rc (w.setCell ⟨c, 0, none⟩ (.int .i64 T)) c T v s ∧ Tch (fun k => k = c) w (w.setCell ⟨c, 0, none⟩ (.int .i64 T)) := by
  have t1 : Tch (fun k => k = c) w (w.setCell ⟨c, 0, none⟩ (.int .i64 T)) := Tch.set (S := fun k => k = c) (Tch.refl _ w) (.inl rfl) _
  refine ⟨⟨World.cell?_setCell_same _ _ _ h.now, ?_, fun j => ?_, Nat.lt_of_lt_of_le h.lt t1.size, h.ts.tch t1 h.ne, h.ne⟩, t1⟩
  · rw [World.cell?_setCell_other _ _ _ _ (by simp)]; exact h.lst
  · have := h.fz j; simpa [go_sem] using this
set_option maxHeartbeats 4000000 in
theorem rpass_rowb (c : Nat) (t : Int) (g cap : Nat) (s : List Tm) (n : Int) (w : World) (h : Rc w c t (.slice (some ⟨g, 0, none⟩) s.length cap) s) (hsm : s.length ≤ 50000) (t0 : 0 ≤ t) (t1 : t ≤ 9223372036854775807) (n0 : 0 ≤ n) (n1 : n ≤ 1000) (T : Int) (hp : 9223372036854775807 - n < t ∧ T = 9223372036854775807) :
    Calls Try.prog 20 #[.pointer (some ⟨c, 0, none⟩), .int .i64 n] w (RPost w c (.slice (some ⟨g, 0, none⟩) s.length cap) T s) := by
  have HC0 := Lib.hid h
  have hnow := h.now
  have hlst0 := h.lst
  have hlt0 := h.lt
  have hf0 := h.fz
  have hm1 : ¬ n < 0 := by omega
  have hm2 : ¬ 1000 < n := by omega
  clear h
  obtain ⟨hb, rfl⟩ := hp
  go_enter Try.func20, Try.ntmps20
  go_wp2
  obtain ⟨wT, hwT⟩ : ∃ wT, w.setCell ⟨c, 0, none⟩ (.int .i64 9223372036854775807) = wT := ⟨_, rfl⟩
  rw [hwT]
  have hC := HC0.out.tick 9223372036854775807
  rw [hwT] at hC
  have HC := Lib.hid hC.1
  have HT := Lib.hid hC.2
  have hn := HC.out.lst
  clear hC hwT hnow hlst0 hlt0 hf0
  have HR := Lib.hid (show TRow wT g cap s from HC.out.ts)
  have z6 : s.length ≤ cap ∧ cap ≤ 9223372036854775807 := by have := HR.out.cap_le; unfold maxLen at this; omega
  go_loopw [6] (fun i wr => ∃ k : Nat, k ≤ s.length ∧ i = .int .i64 k ∧ Hid (Nw wT wr) ∧ Hid (∀ q, q < k → (at' s q).1 ≤ 9223372036854775807)) (fun i _ => s.length - (intOf i).toNat)
  case atStart => exact ⟨0, Nat.zero_le _, rfl, Lib.hid (Nw.refl _), Lib.hid (fun q h => by omega)⟩
  case round =>
    obtain ⟨k, hk, rfl, G, D⟩ := hrel
    have y0 := (G.out.cell HC.out.lt).trans hn
    have y1 := (G.out.cell HC.out.lt).trans HC.out.now
    have hml : s.length ≤ maxLen := by unfold maxLen; omega
    by_cases hlk : k < s.length
    · obtain ⟨c0, _, _⟩ := HR.out.cells k hlk
      have d0 := (G.out.cell HR.out.lt).trans c0
      have HT2 : Hid ((at' s k).1 ≤ 9223372036854775807 → ∀ q, q < k + 1 → (at' s q).1 ≤ 9223372036854775807) := Lib.hid (fun e q hq => by
        rcases Nat.lt_or_ge q k with h | h
        · exact D.out q h
        · obtain rfl : q = k := by omega
          exact e)
      have HF : Hid (¬ (at' s k).1 ≤ 9223372036854775807 → due 9223372036854775807 s = s.take k ∧ late 9223372036854775807 s = s.drop k) := Lib.hid (fun e => due_split 9223372036854775807 s k hk D.out (fun _ => e))
      generalize (at' s k).1 = p at *
      clear c0
      go_wp2
      go_quiet (fail)
      obtain ⟨w5, hw5⟩ : ∃ w5, wr.drewN nq = w5 := ⟨_, rfl⟩
      rw [hw5]
      have NQ : Hid (Nw wT w5) := Lib.hid (hw5 ▸ G.out.drewN _)
      clear hw5 y0 y1 d0
      by_cases hy : p ≤ 9223372036854775807
      · clear HF
        go_wp2
        go_roundw
        case rel => exact ⟨k + 1, by omega, by go_num, NQ, Lib.hid (HT2.out (by omega))⟩
        case measure => simp [intOf]; omega
      · have HSP := Lib.hid (HF.out (by omega))
        have z8 : ¬ cap = k := by omega
        clear HT2 HF
        obtain ⟨v1, w6, r1, F1⟩ := Fr.app (Fr.start NQ.out) (some ⟨g, 0, none⟩) k cap (s.take k) (by simp <;> omega) (by simp) ((HR.out.kept ((NQ.out.alloc _).block g HR.out.lt)).sub_take k) (by simp <;> omega)
        obtain ⟨v3, w8, r3, F3⟩ := Fr.app (Fr.start (Nw.refl w6)) (some ⟨g, k * 3, none⟩) (s.length - k) (cap - k) (s.drop k) (by simp <;> omega) (by simp) ((HR.out.kept ((F1.nw.alloc _).block g HR.out.lt)).sub_drop k hk) (by simp <;> omega)
        obtain ⟨ao3, n3, cap3, rfl⟩ : ∃ ao n cap, v3 = .slice ao n cap := by
          obtain ⟨ao, cap, e, _⟩ := F3.ts.row2
          exact ⟨ao, _, cap, e⟩
        rw [List.nil_append] at F1 F3
        have R1 := Lib.hid r1
        have R3 := Lib.hid r3
        have l5 := (NQ.out.cell HC.out.lt).trans hn
        have b5 : c < w5.heap.size := Nat.lt_of_lt_of_le HC.out.lt NQ.out.sz
        have l6 := (F1.nw.cell HC.out.lt).trans hn
        have b6 : c < w6.heap.size := Nat.lt_of_lt_of_le HC.out.lt F1.nw.sz
        have l8 := (F3.nw.cell b6).trans l6
        have b8 : c < w8.heap.size := Nat.lt_of_lt_of_le b6 F3.nw.sz
        have f8 := (HC.out.nw (F1.nw.trans F3.nw)).fz
        have HE := Lib.hid (rp_end (t := t) HT.out HC.out F1 F3 HSP.out.1 HSP.out.2)
        clear r1 r3 F1 F3 HSP
        go_wp2_with (at_builtin; first
          | refine wpList_append_run rfl (.tmp 57) (.tmp 63) 31 rfl _ _ _ _ rfl rfl R1.out ?_
          | refine wpList_append_run rfl (.tmp 66) (.tmp 72) 31 rfl _ _ _ _ rfl rfl R3.out ?_)
        go_ret2
        exact HE.out
    · obtain rfl : k = s.length := by omega
      have HSP : Hid (due 9223372036854775807 s = s.take s.length ∧ late 9223372036854775807 s = []) := Lib.hid (by
        have := due_split 9223372036854775807 s s.length hk D.out (fun h => by omega)
        rw [List.drop_length] at this
        exact this)
      have b0 : decide (s.length < s.length) = false := by simp
      go_wp2
      go_quiet (fail)
      obtain ⟨w5, hw5⟩ : ∃ w5, wr.drewN nq = w5 := ⟨_, rfl⟩
      rw [hw5]
      have NQ : Hid (Nw wT w5) := Lib.hid (hw5 ▸ G.out.drewN _)
      clear hw5 y0 y1 D b0
      by_cases hcc : cap = s.length
      · subst hcc
        obtain ⟨v1, w6, r1, F1⟩ := Fr.app (Fr.start NQ.out) (some ⟨g, 0, none⟩) s.length s.length (s.take s.length) (by simp <;> omega) (by simp) ((HR.out.kept ((NQ.out.alloc _).block g HR.out.lt)).sub_take s.length) (by simp <;> omega)
        obtain ⟨v3, w8, r3, F3⟩ := Fr.app (Fr.start (Nw.refl w6)) (some ⟨g, 0, none⟩) 0 0 [] (by simp <;> omega) (by simp) (no_cells _) (by simp <;> omega)
        obtain ⟨ao3, n3, cap3, rfl⟩ : ∃ ao n cap, v3 = .slice ao n cap := by
          obtain ⟨ao, cap, e, _⟩ := F3.ts.row2
          exact ⟨ao, _, cap, e⟩
        rw [List.nil_append] at F1 F3
        have R1 := Lib.hid r1
        have R3 := Lib.hid r3
        have l5 := (NQ.out.cell HC.out.lt).trans hn
        have b5 : c < w5.heap.size := Nat.lt_of_lt_of_le HC.out.lt NQ.out.sz
        have l6 := (F1.nw.cell HC.out.lt).trans hn
        have b6 : c < w6.heap.size := Nat.lt_of_lt_of_le HC.out.lt F1.nw.sz
        have l8 := (F3.nw.cell b6).trans l6
        have b8 : c < w8.heap.size := Nat.lt_of_lt_of_le b6 F3.nw.sz
        have f8 := (HC.out.nw (F1.nw.trans F3.nw)).fz
        have HE := Lib.hid (rp_end (t := t) HT.out HC.out F1 F3 HSP.out.1 HSP.out.2)
        clear r1 r3 F1 F3 HSP
        go_wp2_with (at_builtin; first
          | refine wpList_append_run rfl (.tmp 57) (.tmp 63) 31 rfl _ _ _ _ rfl rfl R1.out ?_
          | refine wpList_append_run rfl (.tmp 66) (.tmp 72) 31 rfl _ _ _ _ rfl rfl R3.out ?_)
        go_ret2
        exact HE.out
      · have z8 : ¬ s.length = cap := fun e => hcc e.symm
        obtain ⟨v1, w6, r1, F1⟩ := Fr.app (Fr.start NQ.out) (some ⟨g, 0, none⟩) s.length cap (s.take s.length) (by simp <;> omega) (by simp) ((HR.out.kept ((NQ.out.alloc _).block g HR.out.lt)).sub_take s.length) (by simp <;> omega)
        obtain ⟨v3, w8, r3, F3⟩ := Fr.app (Fr.start (Nw.refl w6)) (some ⟨g, s.length * 3, none⟩) 0 (cap - s.length) [] (by simp <;> omega) (by simp) (no_cells _) (by simp <;> omega)
        obtain ⟨ao3, n3, cap3, rfl⟩ : ∃ ao n cap, v3 = .slice ao n cap := by
          obtain ⟨ao, cap, e, _⟩ := F3.ts.row2
          exact ⟨ao, _, cap, e⟩
        rw [List.nil_append] at F1 F3
        have R1 := Lib.hid r1
        have R3 := Lib.hid r3
        have l5 := (NQ.out.cell HC.out.lt).trans hn
        have b5 : c < w5.heap.size := Nat.lt_of_lt_of_le HC.out.lt NQ.out.sz
        have l6 := (F1.nw.cell HC.out.lt).trans hn
        have b6 : c < w6.heap.size := Nat.lt_of_lt_of_le HC.out.lt F1.nw.sz
        have l8 := (F3.nw.cell b6).trans l6
        have b8 : c < w8.heap.size := Nat.lt_of_lt_of_le b6 F3.nw.sz
        have f8 := (HC.out.nw (F1.nw.trans F3.nw)).fz
        have HE := Lib.hid (rp_end (t := t) HT.out HC.out F1 F3 HSP.out.1 HSP.out.2)
        clear r1 r3 F1 F3 HSP
        go_wp2_with (at_builtin; first
          | refine wpList_append_run rfl (.tmp 57) (.tmp 63) 31 rfl _ _ _ _ rfl rfl R1.out ?_
          | refine wpList_append_run rfl (.tmp 66) (.tmp 72) 31 rfl _ _ _ _ rfl rfl R3.out ?_)
        go_ret2
        exact HE.out
set_option maxHeartbeats 4000000 in
theorem rpass_nilb (c : Nat) (t : Int) (n : Int) (w : World) (h : Rc w c t (.slice none 0 0) []) (t0 : 0 ≤ t) (t1 : t ≤ 9223372036854775807) (n0 : 0 ≤ n) (n1 : n ≤ 1000) (T : Int) (hp : 9223372036854775807 - n < t ∧ T = 9223372036854775807) :
    Calls Try.prog 20 #[.pointer (some ⟨c, 0, none⟩), .int .i64 n] w (RPost w c (.slice none 0 0) T []) := by
  have HC0 := Lib.hid h
  have hnow := h.now
  have hlst0 := h.lst
  have hlt0 := h.lt
  have hf0 := h.fz
  have hm1 : ¬ n < 0 := by omega
  have hm2 : ¬ 1000 < n := by omega
  clear h
  obtain ⟨hb, rfl⟩ := hp
  go_enter Try.func20, Try.ntmps20
  go_wp2
  obtain ⟨wT, hwT⟩ : ∃ wT, w.setCell ⟨c, 0, none⟩ (.int .i64 9223372036854775807) = wT := ⟨_, rfl⟩
  rw [hwT]
  have hC := HC0.out.tick 9223372036854775807
  rw [hwT] at hC
  have HC := Lib.hid hC.1
  have HT := Lib.hid hC.2
  have hn := HC.out.lst
  clear hC hwT hnow hlst0 hlt0 hf0
  go_loopw [6] (fun i wr => i = .int .i64 0 ∧ Hid (Nw wT wr)) (fun _ _ => 0)
  case atStart => exact ⟨rfl, Lib.hid (Nw.refl _)⟩
  case round =>
    obtain ⟨rfl, G⟩ := hrel
    have y0 := (G.out.cell HC.out.lt).trans hn
    have HSP : Hid (due 9223372036854775807 [] = [] ∧ late 9223372036854775807 [] = []) := Lib.hid ⟨rfl, rfl⟩
    go_wp2
    go_quiet (fail)
    obtain ⟨w5, hw5⟩ : ∃ w5, wr.drewN nq = w5 := ⟨_, rfl⟩
    rw [hw5]
    have NQ : Hid (Nw wT w5) := Lib.hid (hw5 ▸ G.out.drewN _)
    clear hw5 y0
    obtain ⟨v1, w6, r1, F1⟩ := Fr.app (Fr.start NQ.out) none 0 0 [] (by simp <;> omega) (by simp) none_cells (by simp <;> omega)
    obtain ⟨v3, w8, r3, F3⟩ := Fr.app (Fr.start (Nw.refl w6)) none 0 0 [] (by simp <;> omega) (by simp) none_cells (by simp <;> omega)
    obtain ⟨ao3, n3, cap3, rfl⟩ : ∃ ao n cap, v3 = .slice ao n cap := by
      obtain ⟨ao, cap, e, _⟩ := F3.ts.row2
      exact ⟨ao, _, cap, e⟩
    rw [List.nil_append] at F1 F3
    have R1 := Lib.hid r1
    have R3 := Lib.hid r3
    have l5 := (NQ.out.cell HC.out.lt).trans hn
    have b5 : c < w5.heap.size := Nat.lt_of_lt_of_le HC.out.lt NQ.out.sz
    have l6 := (F1.nw.cell HC.out.lt).trans hn
    have b6 : c < w6.heap.size := Nat.lt_of_lt_of_le HC.out.lt F1.nw.sz
    have l8 := (F3.nw.cell b6).trans l6
    have b8 : c < w8.heap.size := Nat.lt_of_lt_of_le b6 F3.nw.sz
    have f8 := (HC.out.nw (F1.nw.trans F3.nw)).fz
    have HE := Lib.hid (rp_end (t := t) HT.out HC.out F1 F3 HSP.out.1 HSP.out.2)
    clear r1 r3 F1 F3 HSP
    go_wp2_with (at_builtin; first
      | refine wpList_append_run rfl (.tmp 57) (.tmp 63) 31 rfl _ _ _ _ rfl rfl R1.out ?_
      | refine wpList_append_run rfl (.tmp 66) (.tmp 72) 31 rfl _ _ _ _ rfl rfl R3.out ?_)
    go_ret2
    exact HE.out
set_option maxHeartbeats 4000000 in
theorem rpass_rows (c : Nat) (t : Int) (g cap : Nat) (s : List Tm) (n : Int) (w : World) (h : Rc w c t (.slice (some ⟨g, 0, none⟩) s.length cap) s) (hsm : s.length ≤ 50000) (t0 : 0 ≤ t) (t1 : t ≤ 9223372036854775807) (n0 : 0 ≤ n) (n1 : n ≤ 1000) (T : Int) (hp : ¬ 9223372036854775807 - n < t ∧ t + n = T) :
    Calls Try.prog 20 #[.pointer (some ⟨c, 0, none⟩), .int .i64 n] w (RPost w c (.slice (some ⟨g, 0, none⟩) s.length cap) T s) := by
  have HC0 := Lib.hid h
  have hnow := h.now
  have hlst0 := h.lst
  have hlt0 := h.lt
  have hf0 := h.fz
  have hm1 : ¬ n < 0 := by omega
  have hm2 : ¬ 1000 < n := by omega
  clear h
  obtain ⟨hb, rfl⟩ := hp
  go_enter Try.func20, Try.ntmps20
  go_wp2
  obtain ⟨wT, hwT⟩ : ∃ wT, w.setCell ⟨c, 0, none⟩ (.int .i64 (t + n)) = wT := ⟨_, rfl⟩
  rw [hwT]
  have hC := HC0.out.tick (t + n)
  rw [hwT] at hC
  have HC := Lib.hid hC.1
  have HT := Lib.hid hC.2
  have hn := HC.out.lst
  clear hC hwT hnow hlst0 hlt0 hf0
  have HR := Lib.hid (show TRow wT g cap s from HC.out.ts)
  have z6 : s.length ≤ cap ∧ cap ≤ 9223372036854775807 := by have := HR.out.cap_le; unfold maxLen at this; omega
  go_loopw [6] (fun i wr => ∃ k : Nat, k ≤ s.length ∧ i = .int .i64 k ∧ Hid (Nw wT wr) ∧ Hid (∀ q, q < k → (at' s q).1 ≤ (t + n))) (fun i _ => s.length - (intOf i).toNat)
  case atStart => exact ⟨0, Nat.zero_le _, rfl, Lib.hid (Nw.refl _), Lib.hid (fun q h => by omega)⟩
  case round =>
    obtain ⟨k, hk, rfl, G, D⟩ := hrel
    have y0 := (G.out.cell HC.out.lt).trans hn
    have y1 := (G.out.cell HC.out.lt).trans HC.out.now
    have hml : s.length ≤ maxLen := by unfold maxLen; omega
    by_cases hlk : k < s.length
    · obtain ⟨c0, _, _⟩ := HR.out.cells k hlk
      have d0 := (G.out.cell HR.out.lt).trans c0
      have HT2 : Hid ((at' s k).1 ≤ (t + n) → ∀ q, q < k + 1 → (at' s q).1 ≤ (t + n)) := Lib.hid (fun e q hq => by
        rcases Nat.lt_or_ge q k with h | h
        · exact D.out q h
        · obtain rfl : q = k := by omega
          exact e)
      have HF : Hid (¬ (at' s k).1 ≤ (t + n) → due (t + n) s = s.take k ∧ late (t + n) s = s.drop k) := Lib.hid (fun e => due_split (t + n) s k hk D.out (fun _ => e))
      generalize (at' s k).1 = p at *
      clear c0
      go_wp2
      go_quiet (fail)
      obtain ⟨w5, hw5⟩ : ∃ w5, wr.drewN nq = w5 := ⟨_, rfl⟩
      rw [hw5]
      have NQ : Hid (Nw wT w5) := Lib.hid (hw5 ▸ G.out.drewN _)
      clear hw5 y0 y1 d0
      by_cases hy : p ≤ (t + n)
      · clear HF
        go_wp2
        go_roundw
        case rel => exact ⟨k + 1, by omega, by go_num, NQ, Lib.hid (HT2.out (by omega))⟩
        case measure => simp [intOf]; omega
      · have HSP := Lib.hid (HF.out (by omega))
        have z8 : ¬ cap = k := by omega
        clear HT2 HF
        obtain ⟨v1, w6, r1, F1⟩ := Fr.app (Fr.start NQ.out) (some ⟨g, 0, none⟩) k cap (s.take k) (by simp <;> omega) (by simp) ((HR.out.kept ((NQ.out.alloc _).block g HR.out.lt)).sub_take k) (by simp <;> omega)
        obtain ⟨v3, w8, r3, F3⟩ := Fr.app (Fr.start (Nw.refl w6)) (some ⟨g, k * 3, none⟩) (s.length - k) (cap - k) (s.drop k) (by simp <;> omega) (by simp) ((HR.out.kept ((F1.nw.alloc _).block g HR.out.lt)).sub_drop k hk) (by simp <;> omega)
        obtain ⟨ao3, n3, cap3, rfl⟩ : ∃ ao n cap, v3 = .slice ao n cap := by
          obtain ⟨ao, cap, e, _⟩ := F3.ts.row2
          exact ⟨ao, _, cap, e⟩
        rw [List.nil_append] at F1 F3
        have R1 := Lib.hid r1
        have R3 := Lib.hid r3
        have l5 := (NQ.out.cell HC.out.lt).trans hn
        have b5 : c < w5.heap.size := Nat.lt_of_lt_of_le HC.out.lt NQ.out.sz
        have l6 := (F1.nw.cell HC.out.lt).trans hn
        have b6 : c < w6.heap.size := Nat.lt_of_lt_of_le HC.out.lt F1.nw.sz
        have l8 := (F3.nw.cell b6).trans l6
        have b8 : c < w8.heap.size := Nat.lt_of_lt_of_le b6 F3.nw.sz
        have f8 := (HC.out.nw (F1.nw.trans F3.nw)).fz
        have HE := Lib.hid (rp_end (t := t) HT.out HC.out F1 F3 HSP.out.1 HSP.out.2)
        clear r1 r3 F1 F3 HSP
        go_wp2_with (at_builtin; first
          | refine wpList_append_run rfl (.tmp 57) (.tmp 63) 31 rfl _ _ _ _ rfl rfl R1.out ?_
          | refine wpList_append_run rfl (.tmp 66) (.tmp 72) 31 rfl _ _ _ _ rfl rfl R3.out ?_)
        go_ret2
        exact HE.out
    · obtain rfl : k = s.length := by omega
      have HSP : Hid (due (t + n) s = s.take s.length ∧ late (t + n) s = []) := Lib.hid (by
        have := due_split (t + n) s s.length hk D.out (fun h => by omega)
        rw [List.drop_length] at this
        exact this)
      have b0 : decide (s.length < s.length) = false := by simp
      go_wp2
      go_quiet (fail)
      obtain ⟨w5, hw5⟩ : ∃ w5, wr.drewN nq = w5 := ⟨_, rfl⟩
      rw [hw5]
      have NQ : Hid (Nw wT w5) := Lib.hid (hw5 ▸ G.out.drewN _)
      clear hw5 y0 y1 D b0
      by_cases hcc : cap = s.length
      · subst hcc
        obtain ⟨v1, w6, r1, F1⟩ := Fr.app (Fr.start NQ.out) (some ⟨g, 0, none⟩) s.length s.length (s.take s.length) (by simp <;> omega) (by simp) ((HR.out.kept ((NQ.out.alloc _).block g HR.out.lt)).sub_take s.length) (by simp <;> omega)
        obtain ⟨v3, w8, r3, F3⟩ := Fr.app (Fr.start (Nw.refl w6)) (some ⟨g, 0, none⟩) 0 0 [] (by simp <;> omega) (by simp) (no_cells _) (by simp <;> omega)
        obtain ⟨ao3, n3, cap3, rfl⟩ : ∃ ao n cap, v3 = .slice ao n cap := by
          obtain ⟨ao, cap, e, _⟩ := F3.ts.row2
          exact ⟨ao, _, cap, e⟩
        rw [List.nil_append] at F1 F3
        have R1 := Lib.hid r1
        have R3 := Lib.hid r3
        have l5 := (NQ.out.cell HC.out.lt).trans hn
        have b5 : c < w5.heap.size := Nat.lt_of_lt_of_le HC.out.lt NQ.out.sz
        have l6 := (F1.nw.cell HC.out.lt).trans hn
        have b6 : c < w6.heap.size := Nat.lt_of_lt_of_le HC.out.lt F1.nw.sz
        have l8 := (F3.nw.cell b6).trans l6
        have b8 : c < w8.heap.size := Nat.lt_of_lt_of_le b6 F3.nw.sz
        have f8 := (HC.out.nw (F1.nw.trans F3.nw)).fz
        have HE := Lib.hid (rp_end (t := t) HT.out HC.out F1 F3 HSP.out.1 HSP.out.2)
        clear r1 r3 F1 F3 HSP
        go_wp2_with (at_builtin; first
          | refine wpList_append_run rfl (.tmp 57) (.tmp 63) 31 rfl _ _ _ _ rfl rfl R1.out ?_
          | refine wpList_append_run rfl (.tmp 66) (.tmp 72) 31 rfl _ _ _ _ rfl rfl R3.out ?_)
        go_ret2
        exact HE.out
      · have z8 : ¬ s.length = cap := fun e => hcc e.symm
        obtain ⟨v1, w6, r1, F1⟩ := Fr.app (Fr.start NQ.out) (some ⟨g, 0, none⟩) s.length cap (s.take s.length) (by simp <;> omega) (by simp) ((HR.out.kept ((NQ.out.alloc _).block g HR.out.lt)).sub_take s.length) (by simp <;> omega)
        obtain ⟨v3, w8, r3, F3⟩ := Fr.app (Fr.start (Nw.refl w6)) (some ⟨g, s.length * 3, none⟩) 0 (cap - s.length) [] (by simp <;> omega) (by simp) (no_cells _) (by simp <;> omega)
        obtain ⟨ao3, n3, cap3, rfl⟩ : ∃ ao n cap, v3 = .slice ao n cap := by
          obtain ⟨ao, cap, e, _⟩ := F3.ts.row2
          exact ⟨ao, _, cap, e⟩
        rw [List.nil_append] at F1 F3
        have R1 := Lib.hid r1
        have R3 := Lib.hid r3
        have l5 := (NQ.out.cell HC.out.lt).trans hn
        have b5 : c < w5.heap.size := Nat.lt_of_lt_of_le HC.out.lt NQ.out.sz
        have l6 := (F1.nw.cell HC.out.lt).trans hn
        have b6 : c < w6.heap.size := Nat.lt_of_lt_of_le HC.out.lt F1.nw.sz
        have l8 := (F3.nw.cell b6).trans l6
        have b8 : c < w8.heap.size := Nat.lt_of_lt_of_le b6 F3.nw.sz
        have f8 := (HC.out.nw (F1.nw.trans F3.nw)).fz
        have HE := Lib.hid (rp_end (t := t) HT.out HC.out F1 F3 HSP.out.1 HSP.out.2)
        clear r1 r3 F1 F3 HSP
        go_wp2_with (at_builtin; first
          | refine wpList_append_run rfl (.tmp 57) (.tmp 63) 31 rfl _ _ _ _ rfl rfl R1.out ?_
          | refine wpList_append_run rfl (.tmp 66) (.tmp 72) 31 rfl _ _ _ _ rfl rfl R3.out ?_)
        go_ret2
        exact HE.out
set_option maxHeartbeats 4000000 in
theorem rpass_nils (c : Nat) (t : Int) (n : Int) (w : World) (h : Rc w c t (.slice none 0 0) []) (t0 : 0 ≤ t) (t1 : t ≤ 9223372036854775807) (n0 : 0 ≤ n) (n1 : n ≤ 1000) (T : Int) (hp : ¬ 9223372036854775807 - n < t ∧ t + n = T) :
    Calls Try.prog 20 #[.pointer (some ⟨c, 0, none⟩), .int .i64 n] w (RPost w c (.slice none 0 0) T []) := by
  have HC0 := Lib.hid h
  have hnow := h.now
  have hlst0 := h.lst
  have hlt0 := h.lt
  have hf0 := h.fz
  have hm1 : ¬ n < 0 := by omega
  have hm2 : ¬ 1000 < n := by omega
  clear h
  obtain ⟨hb, rfl⟩ := hp
  go_enter Try.func20, Try.ntmps20
  go_wp2
  obtain ⟨wT, hwT⟩ : ∃ wT, w.setCell ⟨c, 0, none⟩ (.int .i64 (t + n)) = wT := ⟨_, rfl⟩
  rw [hwT]
  have hC := HC0.out.tick (t + n)
  rw [hwT] at hC
  have HC := Lib.hid hC.1
  have HT := Lib.hid hC.2
  have hn := HC.out.lst
  clear hC hwT hnow hlst0 hlt0 hf0
  go_loopw [6] (fun i wr => i = .int .i64 0 ∧ Hid (Nw wT wr)) (fun _ _ => 0)
  case atStart => exact ⟨rfl, Lib.hid (Nw.refl _)⟩
  case round =>
    obtain ⟨rfl, G⟩ := hrel
    have y0 := (G.out.cell HC.out.lt).trans hn
    have HSP : Hid (due (t + n) [] = [] ∧ late (t + n) [] = []) := Lib.hid ⟨rfl, rfl⟩
    go_wp2
    go_quiet (fail)
    obtain ⟨w5, hw5⟩ : ∃ w5, wr.drewN nq = w5 := ⟨_, rfl⟩
    rw [hw5]
    have NQ : Hid (Nw wT w5) := Lib.hid (hw5 ▸ G.out.drewN _)
    clear hw5 y0
    obtain ⟨v1, w6, r1, F1⟩ := Fr.app (Fr.start NQ.out) none 0 0 [] (by simp <;> omega) (by simp) none_cells (by simp <;> omega)
    obtain ⟨v3, w8, r3, F3⟩ := Fr.app (Fr.start (Nw.refl w6)) none 0 0 [] (by simp <;> omega) (by simp) none_cells (by simp <;> omega)
    obtain ⟨ao3, n3, cap3, rfl⟩ : ∃ ao n cap, v3 = .slice ao n cap := by
      obtain ⟨ao, cap, e, _⟩ := F3.ts.row2
      exact ⟨ao, _, cap, e⟩
    rw [List.nil_append] at F1 F3
    have R1 := Lib.hid r1
    have R3 := Lib.hid r3
    have l5 := (NQ.out.cell HC.out.lt).trans hn
    have b5 : c < w5.heap.size := Nat.lt_of_lt_of_le HC.out.lt NQ.out.sz
    have l6 := (F1.nw.cell HC.out.lt).trans hn
    have b6 : c < w6.heap.size := Nat.lt_of_lt_of_le HC.out.lt F1.nw.sz
    have l8 := (F3.nw.cell b6).trans l6
    have b8 : c < w8.heap.size := Nat.lt_of_lt_of_le b6 F3.nw.sz
    have f8 := (HC.out.nw (F1.nw.trans F3.nw)).fz
    have HE := Lib.hid (rp_end (t := t) HT.out HC.out F1 F3 HSP.out.1 HSP.out.2)
    clear r1 r3 F1 F3 HSP
    go_wp2_with (at_builtin; first
      | refine wpList_append_run rfl (.tmp 57) (.tmp 63) 31 rfl _ _ _ _ rfl rfl R1.out ?_
      | refine wpList_append_run rfl (.tmp 66) (.tmp 72) 31 rfl _ _ _ _ rfl rfl R3.out ?_)
    go_ret2
    exact HE.out
theorem rpass_any (c : Nat) (t : Int) (v : Value) (s : List Tm) (n : Int) (w : World) (h : Rc w c t v s) (hsm : s.length ≤ 50000) (t0 : 0 ≤ t) (t1 : t ≤ 9223372036854775807) (n0 : 0 ≤ n) (n1 : n ≤ 1000) :
    Calls Try.prog 20 #[.pointer (some ⟨c, 0, none⟩), .int .i64 n] w (RPost w c v (passT t n) s) := by
  unfold passT
  rcases h.ts.form with ⟨rfl, rfl⟩ | ⟨g, cap, rfl, hr⟩
  · by_cases hb : 9223372036854775807 - n < t
    · exact rpass_nilb c t n w h t0 t1 n0 n1 _ ⟨hb, by omega⟩
    · exact rpass_nils c t n w h t0 t1 n0 n1 _ ⟨hb, by omega⟩
  · by_cases hb : 9223372036854775807 - n < t
    · exact rpass_rowb c t g cap s n w h hsm t0 t1 n0 n1 _ ⟨hb, by omega⟩
    · exact rpass_rows c t g cap s n w h hsm t0 t1 n0 n1 _ ⟨hb, by omega⟩
end Go.Proofs.Ytolpccchhjcddaa
