
/- The document's own clock: Set. -/
import Derived.Test.YtolpccchhjcddaaTkRB
namespace Go.Proofs.Ytolpccchhjcddaa
open Go.RowKit Go.Shelf

theorem Fr.alloc {w W : World} {v : Value} {l : List Tm} (h : Fr w W v l) (o : Obj) : Fr w (W.alloc o) v l := ⟨h.ts.nw ((Nw.refl W).alloc o), h.new, h.nw.alloc o⟩
theorem TRow.sub_take {W : World} {g cap : Nat} {s : List Tm} (h : TRow W g cap s) (k : Nat) : ∀ a, some (⟨g, 0, none⟩ : Addr) = some a → ∀ j u, (trows (s.take k))[j]? = some u → W.cell? (a.add j) = some u := fun a e j u hu => by
  cases e
  exact World.ownsRow.cells h rfl j u (trows_take s k j u hu)
theorem TRow.sub_drop {W : World} {g cap : Nat} {s : List Tm} (h : TRow W g cap s) (k : Nat) (hk : k ≤ s.length) : ∀ a, some (⟨g, k * 3, none⟩ : Addr) = some a → ∀ j u, (trows (s.drop k))[j]? = some u → W.cell? (a.add j) = some u := fun a e j u hu => by
  cases e
  have := World.ownsRow.cells h rfl (k * 3 + j) u (trows_drop s k j u hk hu)
  rw [Addr.add_lit] at this ⊢
  rw [Nat.zero_add] at this
  exact this
theorem none_cells {W : World} : ∀ a, (none : Option Addr) = some a → ∀ (j : Nat) (u : Value), (trows [])[j]? = some u → W.cell? (a.add j) = some u := fun a e => by cases e
theorem no_cells {W : World} (b : Addr) : ∀ a, some b = some a → ∀ (j : Nat) (u : Value), (trows [])[j]? = some u → W.cell? (a.add j) = some u := fun a _ j u hu => by simp [trows] at hu

set_option maxHeartbeats 4000000 in
theorem rset_row (c : Nat) (t : Int) (g cap : Nat) (s : List Tm) (a who mark : Int) (w : World) (h : Rc w c t (.slice (some ⟨g, 0, none⟩) s.length cap) s) (hsm : s.length ≤ 50000) (ha : ¬ a ≤ t) (hi : idxI who mark s = -1) :
    Calls Try.prog 18 #[.pointer (some ⟨c, 0, none⟩), .int .i64 a, .int .i64 who, .int .i64 mark] w fun e W' => e = .returned (.int .i64 0) ∧
      ∃ v', Rc W' c t v' (ins (a, who, mark) s) ∧ (∀ k, v'.ownBlock = some k → w.heap.size ≤ k) ∧ Tch (fun k => k = c) w W' := by
  have hn := h.now
  have HC := Lib.hid h
  have HL := Lib.hid (rat_any c t _ _ who mark w h (by omega))
  rw [hi] at HL
  have hlt := HC.out.lt
  clear h hi
  go_enter Try.func18, Try.ntmps18
  go_wp2_with fail
  refine HL.out.mono ?_
  rintro e w' ⟨rfl, rfl⟩
  go_wp2
  obtain ⟨w1, hw1⟩ : ∃ w1, w.alloc (.cells #[.int .i64 a, .int .i64 who, .int .i64 mark] 28) = w1 := ⟨_, rfl⟩
  obtain ⟨xb, hxb⟩ : ∃ xb, w.heap.size = xb := ⟨_, rfl⟩
  rw [hw1, hxb]
  have N1 : Nw w w1 := hw1 ▸ (Nw.refl _).alloc _
  have x0 : w1.cell? ⟨xb, 0, none⟩ = some (.int .i64 a) := by rw [← hw1, ← hxb]; simp [go_sem]
  have x1 : w1.cell? ⟨xb, 1, none⟩ = some (.int .i64 who) := by rw [← hw1, ← hxb]; simp [go_sem]
  have x2 : w1.cell? ⟨xb, 2, none⟩ = some (.int .i64 mark) := by rw [← hw1, ← hxb]; simp [go_sem]
  have xl : xb < w1.heap.size := by rw [← hw1, ← hxb]; simp
  have h1 := HC.out.nw N1
  have hlst1 := h1.lst
  have hlt1 := h1.lt
  have HC1 := Lib.hid h1
  have HN1 := Lib.hid N1
  clear hw1 hxb N1 hn HL h1 hlt
  have HR := Lib.hid (show TRow w1 g cap s from HC1.out.ts)
  have z6 : s.length ≤ cap ∧ cap ≤ 9223372036854775807 := by have := HR.out.cap_le; unfold maxLen at this; omega
  have hgl := HR.out.lt
  go_loopw [10] (fun i wr => ∃ k : Nat, k ≤ s.length ∧ i = .int .i64 k ∧ Hid (Nw w1 wr) ∧ Hid (∀ q, q < k → tlt (at' s q) (a, who, mark) = true)) (fun i _ => s.length - (intOf i).toNat)
  case atStart => exact ⟨0, Nat.zero_le _, rfl, Lib.hid (Nw.refl _), Lib.hid (fun q h => by omega)⟩
  case round =>
    obtain ⟨k, hk, rfl, G, T⟩ := hrel
    have y0 := (G.out.cell xl).trans x0
    have y1 := (G.out.cell xl).trans x1
    have y2 := (G.out.cell xl).trans x2
    have hlst2 := (G.out.cell hlt1).trans hlst1
    have hml : s.length ≤ maxLen := by unfold maxLen; omega
    have gw : g < wr.heap.size := Nat.lt_of_lt_of_le hgl G.out.sz
    have cw : c < wr.heap.size := Nat.lt_of_lt_of_le hlt1 G.out.sz
    have xw : xb < wr.heap.size := Nat.lt_of_lt_of_le xl G.out.sz
    by_cases hlk : k < s.length
    · obtain ⟨c0, c1, c2⟩ := HR.out.cells k hlk
      have d0 := (G.out.cell hgl).trans c0
      have d1 := (G.out.cell hgl).trans c1
      have d2 := (G.out.cell hgl).trans c2
      have HLS := fun w => rless_any (at' s k) (a, who, mark) w
      have HT : Hid (tlt (at' s k) (a, who, mark) = true → ∀ q, q < k + 1 → tlt (at' s q) (a, who, mark) = true) := Lib.hid (fun e q hq => by
        rcases Nat.lt_or_ge q k with h | h
        · exact T.out q h
        · obtain rfl : q = k := by omega
          exact e)
      have HF : Hid (tlt (at' s k) (a, who, mark) = false → ins (a, who, mark) s = s.take k ++ (a, who, mark) :: s.drop k) := Lib.hid (fun e => ins_split _ s k hk T.out (fun _ => e))
      generalize at' s k = y at *
      obtain ⟨p0, p1, p2⟩ := y
      simp only at d0 d1 d2
      unfold agT at HLS
      simp only at HLS
      have HQ := Lib.hid HLS
      clear c0 c1 c2 HLS
      go_wp2
      refine region_in (fun W => Nw wr W) (by kernel_rfl) (by kernel_rfl) ((Nw.refl wr).drewN 1) ?_
      have q0 : ∀ d : Wd (fun W => Nw wr W), d.w.cell? ⟨xb, 0, none⟩ = some (.int .i64 a) := fun d => (d.h.cell xw).trans y0
      have q1 : ∀ d : Wd (fun W => Nw wr W), d.w.cell? ⟨xb, 1, none⟩ = some (.int .i64 who) := fun d => (d.h.cell xw).trans y1
      have q2 : ∀ d : Wd (fun W => Nw wr W), d.w.cell? ⟨xb, 2, none⟩ = some (.int .i64 mark) := fun d => (d.h.cell xw).trans y2
      have q3 : ∀ d : Wd (fun W => Nw wr W), d.w.cell? ⟨c, 1, none⟩ = some (.slice (some ⟨g, 0, none⟩) s.length cap) := fun d => (d.h.cell cw).trans hlst2
      have q4 : ∀ d : Wd (fun W => Nw wr W), d.w.cell? ⟨g, k * 3, none⟩ = some (.int .i64 p0) := fun d => (d.h.cell gw).trans d0
      have q5 : ∀ d : Wd (fun W => Nw wr W), d.w.cell? ⟨g, k * 3 + 1, none⟩ = some (.int .i64 p1) := fun d => (d.h.cell gw).trans d1
      have q6 : ∀ d : Wd (fun W => Nw wr W), d.w.cell? ⟨g, k * 3 + 2, none⟩ = some (.int .i64 p2) := fun d => (d.h.cell gw).trans d2
      have hne : Nonempty (Wd (fun W => Nw wr W)) := ⟨⟨wr, Nw.refl wr⟩⟩
      clear y0 y1 y2 hlst2 d0 d1 d2
      repeat (first | go_big_quiet_step (exact quietN (fun a b h k => h.trans k) (HQ.out _)) | quiet_step (exact quietN (fun a b h k => h.trans k) (HQ.out _)))
      refine wpQuiet_nil ?_
      intro d
      have h5 := d.h
      clear q0 q1 q2 q3 q4 q5 q6 hne
      revert h5
      generalize d.w = w5
      intro h5
      cases hy : tlt (p0, p1, p2) (a, who, mark) with
      | true =>
        clear HF
        go_wp2
        go_roundw
        case rel => exact ⟨k + 1, by omega, by go_num, Lib.hid (G.out.trans h5), Lib.hid (HT.out hy)⟩
        case measure => simp [intOf]; omega
      | false =>
        have HSP := Lib.hid (HF.out hy)
        have NQ := Lib.hid (G.out.trans h5)
        have z8 : ¬ cap = k := by omega
        clear HT HF h5
        obtain ⟨v1, w6, r1, F1⟩ := Fr.app (Fr.start NQ.out) (some ⟨g, 0, none⟩) k cap (s.take k) (by simp <;> omega) (by simp) ((HR.out.kept ((NQ.out.alloc _).block g HR.out.lt)).sub_take k) (by simp <;> omega)
        obtain ⟨v2, w7, r2, F2⟩ := Fr.app (F1.alloc (.cells #[.int .i64 a, .int .i64 who, .int .i64 mark] 28)) (some ⟨w6.heap.size, 0, none⟩) 1 1 [(a, who, mark)] rfl (by simp) (fun a' e => by cases e; exact World.ownsRow.cells (ts_one w6 (a, who, mark)) rfl) (by simp <;> omega)
        obtain ⟨v3, w8, r3, F3⟩ := Fr.app F2 (some ⟨g, k * 3, none⟩) (s.length - k) (cap - k) (s.drop k) (by simp <;> omega) (by simp) ((HR.out.kept (F2.nw.block g HR.out.lt)).sub_drop k hk) (by simp <;> omega)
        obtain ⟨ao3, n3, cap3, rfl⟩ : ∃ ao n cap, v3 = .slice ao n cap := by
          obtain ⟨ao, cap, e, _⟩ := F3.ts.row2
          exact ⟨ao, _, cap, e⟩
        have R1 := Lib.hid r1
        have R2 := Lib.hid r2
        have R3 := Lib.hid r3
        have q0 := (F1.nw.cell xl).trans x0
        have q1 := (F1.nw.cell xl).trans x1
        have q2 := (F1.nw.cell xl).trans x2
        have q3 : xb < w6.heap.size := Nat.lt_of_lt_of_le xl F1.nw.sz
        have l5 := (NQ.out.cell hlt1).trans hlst1
        have l7 := (F2.nw.cell hlt1).trans hlst1
        have l8 := (F3.nw.cell hlt1).trans hlst1
        have b5 : c < w5.heap.size := Nat.lt_of_lt_of_le hlt1 NQ.out.sz
        have b8 : c < w8.heap.size := Nat.lt_of_lt_of_le hlt1 F3.nw.sz
        have f8 := (HC1.out.nw F3.nw).fz
        have HF := Lib.hid (show Fr w1 w8 (.slice ao3 n3 cap3) (ins (a, who, mark) s) from by have := F3; rw [HSP.out]; simpa using this)
        clear r1 r2 r3 F1 F2 F3 HSP x0 x1 x2 hlst1
        go_wp2_with (at_builtin; first
          | refine wpList_append_run rfl (.tmp 47) (.tmp 53) 31 rfl _ _ _ _ rfl rfl R1.out ?_
          | refine wpList_append_run rfl (.tmp 55) (.tmp 57) 31 rfl _ _ _ _ rfl rfl R2.out ?_
          | refine wpList_append_run rfl (.tmp 60) (.tmp 66) 31 rfl _ _ _ _ rfl rfl R3.out ?_)
        go_ret
        exact ⟨rfl, _, (HC1.out.put HF.out).1, fun k e => Nat.le_trans HN1.out.sz (HF.out.new k e), (Tch.nw HN1.out).trans (HC1.out.put HF.out).2⟩
    · obtain rfl : k = s.length := by omega
      have HSP : Hid (ins (a, who, mark) s = s.take s.length ++ (a, who, mark) :: s.drop s.length) := Lib.hid (ins_split _ s s.length hk T.out (fun h => by omega))
      have b0 : decide (s.length < s.length) = false := by simp
      go_wp2
      go_quiet (fail)
      obtain ⟨w5, hw5⟩ : ∃ w5, wr.drewN nq = w5 := ⟨_, rfl⟩
      rw [hw5]
      have NQ : Hid (Nw w1 w5) := Lib.hid (hw5 ▸ G.out.drewN _)
      clear hw5 y0 y1 y2 hlst2 T b0
      by_cases hcc : cap = s.length
      · subst hcc
        obtain ⟨v1, w6, r1, F1⟩ := Fr.app (Fr.start NQ.out) (some ⟨g, 0, none⟩) s.length s.length (s.take s.length) (by simp <;> omega) (by simp) ((HR.out.kept ((NQ.out.alloc _).block g HR.out.lt)).sub_take s.length) (by simp <;> omega)
        obtain ⟨v2, w7, r2, F2⟩ := Fr.app (F1.alloc (.cells #[.int .i64 a, .int .i64 who, .int .i64 mark] 28)) (some ⟨w6.heap.size, 0, none⟩) 1 1 [(a, who, mark)] rfl (by simp) (fun a' e => by cases e; exact World.ownsRow.cells (ts_one w6 (a, who, mark)) rfl) (by simp <;> omega)
        obtain ⟨v3, w8, r3, F3⟩ := Fr.app F2 (some ⟨g, 0, none⟩) 0 0 [] (by simp <;> omega) (by simp) (no_cells _) (by simp <;> omega)
        obtain ⟨ao3, n3, cap3, rfl⟩ : ∃ ao n cap, v3 = .slice ao n cap := by
          obtain ⟨ao, cap, e, _⟩ := F3.ts.row2
          exact ⟨ao, _, cap, e⟩
        have R1 := Lib.hid r1
        have R2 := Lib.hid r2
        have R3 := Lib.hid r3
        have q0 := (F1.nw.cell xl).trans x0
        have q1 := (F1.nw.cell xl).trans x1
        have q2 := (F1.nw.cell xl).trans x2
        have q3 : xb < w6.heap.size := Nat.lt_of_lt_of_le xl F1.nw.sz
        have l5 := (NQ.out.cell hlt1).trans hlst1
        have l7 := (F2.nw.cell hlt1).trans hlst1
        have l8 := (F3.nw.cell hlt1).trans hlst1
        have b5 : c < w5.heap.size := Nat.lt_of_lt_of_le hlt1 NQ.out.sz
        have b8 : c < w8.heap.size := Nat.lt_of_lt_of_le hlt1 F3.nw.sz
        have f8 := (HC1.out.nw F3.nw).fz
        have HF := Lib.hid (show Fr w1 w8 (.slice ao3 n3 cap3) (ins (a, who, mark) s) from by have := F3; rw [HSP.out]; simpa using this)
        clear r1 r2 r3 F1 F2 F3 HSP x0 x1 x2 hlst1
        go_wp2_with (at_builtin; first
          | refine wpList_append_run rfl (.tmp 47) (.tmp 53) 31 rfl _ _ _ _ rfl rfl R1.out ?_
          | refine wpList_append_run rfl (.tmp 55) (.tmp 57) 31 rfl _ _ _ _ rfl rfl R2.out ?_
          | refine wpList_append_run rfl (.tmp 60) (.tmp 66) 31 rfl _ _ _ _ rfl rfl R3.out ?_)
        go_ret
        exact ⟨rfl, _, (HC1.out.put HF.out).1, fun k e => Nat.le_trans HN1.out.sz (HF.out.new k e), (Tch.nw HN1.out).trans (HC1.out.put HF.out).2⟩
      · have z8 : ¬ s.length = cap := fun e => hcc e.symm
        obtain ⟨v1, w6, r1, F1⟩ := Fr.app (Fr.start NQ.out) (some ⟨g, 0, none⟩) s.length cap (s.take s.length) (by simp <;> omega) (by simp) ((HR.out.kept ((NQ.out.alloc _).block g HR.out.lt)).sub_take s.length) (by simp <;> omega)
        obtain ⟨v2, w7, r2, F2⟩ := Fr.app (F1.alloc (.cells #[.int .i64 a, .int .i64 who, .int .i64 mark] 28)) (some ⟨w6.heap.size, 0, none⟩) 1 1 [(a, who, mark)] rfl (by simp) (fun a' e => by cases e; exact World.ownsRow.cells (ts_one w6 (a, who, mark)) rfl) (by simp <;> omega)
        obtain ⟨v3, w8, r3, F3⟩ := Fr.app F2 (some ⟨g, s.length * 3, none⟩) 0 (cap - s.length) [] (by simp <;> omega) (by simp) (no_cells _) (by simp <;> omega)
        obtain ⟨ao3, n3, cap3, rfl⟩ : ∃ ao n cap, v3 = .slice ao n cap := by
          obtain ⟨ao, cap, e, _⟩ := F3.ts.row2
          exact ⟨ao, _, cap, e⟩
        have R1 := Lib.hid r1
        have R2 := Lib.hid r2
        have R3 := Lib.hid r3
        have q0 := (F1.nw.cell xl).trans x0
        have q1 := (F1.nw.cell xl).trans x1
        have q2 := (F1.nw.cell xl).trans x2
        have q3 : xb < w6.heap.size := Nat.lt_of_lt_of_le xl F1.nw.sz
        have l5 := (NQ.out.cell hlt1).trans hlst1
        have l7 := (F2.nw.cell hlt1).trans hlst1
        have l8 := (F3.nw.cell hlt1).trans hlst1
        have b5 : c < w5.heap.size := Nat.lt_of_lt_of_le hlt1 NQ.out.sz
        have b8 : c < w8.heap.size := Nat.lt_of_lt_of_le hlt1 F3.nw.sz
        have f8 := (HC1.out.nw F3.nw).fz
        have HF := Lib.hid (show Fr w1 w8 (.slice ao3 n3 cap3) (ins (a, who, mark) s) from by have := F3; rw [HSP.out]; simpa using this)
        clear r1 r2 r3 F1 F2 F3 HSP x0 x1 x2 hlst1
        go_wp2_with (at_builtin; first
          | refine wpList_append_run rfl (.tmp 47) (.tmp 53) 31 rfl _ _ _ _ rfl rfl R1.out ?_
          | refine wpList_append_run rfl (.tmp 55) (.tmp 57) 31 rfl _ _ _ _ rfl rfl R2.out ?_
          | refine wpList_append_run rfl (.tmp 60) (.tmp 66) 31 rfl _ _ _ _ rfl rfl R3.out ?_)
        go_ret
        exact ⟨rfl, _, (HC1.out.put HF.out).1, fun k e => Nat.le_trans HN1.out.sz (HF.out.new k e), (Tch.nw HN1.out).trans (HC1.out.put HF.out).2⟩
set_option maxHeartbeats 4000000 in
theorem rset_nil (c : Nat) (t : Int) (a who mark : Int) (w : World) (h : Rc w c t (.slice none 0 0) []) (ha : ¬ a ≤ t) (hi : idxI who mark [] = -1) :
    Calls Try.prog 18 #[.pointer (some ⟨c, 0, none⟩), .int .i64 a, .int .i64 who, .int .i64 mark] w fun e W' => e = .returned (.int .i64 0) ∧
      ∃ v', Rc W' c t v' (ins (a, who, mark) []) ∧ (∀ k, v'.ownBlock = some k → w.heap.size ≤ k) ∧ Tch (fun k => k = c) w W' := by
  have hn := h.now
  have HC := Lib.hid h
  have HL := Lib.hid (rat_any c t _ _ who mark w h (by simp))
  rw [hi] at HL
  have hlt := HC.out.lt
  clear h hi
  go_enter Try.func18, Try.ntmps18
  go_wp2_with fail
  refine HL.out.mono ?_
  rintro e w' ⟨rfl, rfl⟩
  go_wp2
  obtain ⟨w1, hw1⟩ : ∃ w1, w.alloc (.cells #[.int .i64 a, .int .i64 who, .int .i64 mark] 28) = w1 := ⟨_, rfl⟩
  obtain ⟨xb, hxb⟩ : ∃ xb, w.heap.size = xb := ⟨_, rfl⟩
  rw [hw1, hxb]
  have N1 : Nw w w1 := hw1 ▸ (Nw.refl _).alloc _
  have x0 : w1.cell? ⟨xb, 0, none⟩ = some (.int .i64 a) := by rw [← hw1, ← hxb]; simp [go_sem]
  have x1 : w1.cell? ⟨xb, 1, none⟩ = some (.int .i64 who) := by rw [← hw1, ← hxb]; simp [go_sem]
  have x2 : w1.cell? ⟨xb, 2, none⟩ = some (.int .i64 mark) := by rw [← hw1, ← hxb]; simp [go_sem]
  have xl : xb < w1.heap.size := by rw [← hw1, ← hxb]; simp
  have h1 := HC.out.nw N1
  have hlst1 := h1.lst
  have hlt1 := h1.lt
  have HC1 := Lib.hid h1
  have HN1 := Lib.hid N1
  clear hw1 hxb N1 hn HL h1 hlt
  go_loopw [10] (fun i wr => i = .int .i64 0 ∧ Hid (Nw w1 wr)) (fun _ _ => 0)
  case atStart => exact ⟨rfl, Lib.hid (Nw.refl _)⟩
  case round =>
    obtain ⟨rfl, G⟩ := hrel
    have hlst2 := (G.out.cell hlt1).trans hlst1
    have HSP : Hid (ins (a, who, mark) [] = [(a, who, mark)]) := Lib.hid rfl
    go_wp2
    go_quiet (fail)
    obtain ⟨w5, hw5⟩ : ∃ w5, wr.drewN nq = w5 := ⟨_, rfl⟩
    rw [hw5]
    have NQ : Hid (Nw w1 w5) := Lib.hid (hw5 ▸ G.out.drewN _)
    clear hw5 hlst2
    obtain ⟨v1, w6, r1, F1⟩ := Fr.app (Fr.start NQ.out) none 0 0 [] (by simp <;> omega) (by simp) none_cells (by simp <;> omega)
    obtain ⟨v2, w7, r2, F2⟩ := Fr.app (F1.alloc (.cells #[.int .i64 a, .int .i64 who, .int .i64 mark] 28)) (some ⟨w6.heap.size, 0, none⟩) 1 1 [(a, who, mark)] rfl (by simp) (fun a' e => by cases e; exact World.ownsRow.cells (ts_one w6 (a, who, mark)) rfl) (by simp <;> omega)
    obtain ⟨v3, w8, r3, F3⟩ := Fr.app F2 none 0 0 [] (by simp <;> omega) (by simp) none_cells (by simp <;> omega)
    obtain ⟨ao3, n3, cap3, rfl⟩ : ∃ ao n cap, v3 = .slice ao n cap := by
      obtain ⟨ao, cap, e, _⟩ := F3.ts.row2
      exact ⟨ao, _, cap, e⟩
    have R1 := Lib.hid r1
    have R2 := Lib.hid r2
    have R3 := Lib.hid r3
    have q0 := (F1.nw.cell xl).trans x0
    have q1 := (F1.nw.cell xl).trans x1
    have q2 := (F1.nw.cell xl).trans x2
    have q3 : xb < w6.heap.size := Nat.lt_of_lt_of_le xl F1.nw.sz
    have l5 := (NQ.out.cell hlt1).trans hlst1
    have l7 := (F2.nw.cell hlt1).trans hlst1
    have l8 := (F3.nw.cell hlt1).trans hlst1
    have b5 : c < w5.heap.size := Nat.lt_of_lt_of_le hlt1 NQ.out.sz
    have b8 : c < w8.heap.size := Nat.lt_of_lt_of_le hlt1 F3.nw.sz
    have f8 := (HC1.out.nw F3.nw).fz
    have HF := Lib.hid (show Fr w1 w8 (.slice ao3 n3 cap3) (ins (a, who, mark) []) from by have := F3; rw [HSP.out]; simpa using this)
    clear r1 r2 r3 F1 F2 F3 HSP x0 x1 x2 hlst1
    go_wp2_with (at_builtin; first
      | refine wpList_append_run rfl (.tmp 47) (.tmp 53) 31 rfl _ _ _ _ rfl rfl R1.out ?_
      | refine wpList_append_run rfl (.tmp 55) (.tmp 57) 31 rfl _ _ _ _ rfl rfl R2.out ?_
      | refine wpList_append_run rfl (.tmp 60) (.tmp 66) 31 rfl _ _ _ _ rfl rfl R3.out ?_)
    go_ret
    exact ⟨rfl, _, (HC1.out.put HF.out).1, fun k e => Nat.le_trans HN1.out.sz (HF.out.new k e), (Tch.nw HN1.out).trans (HC1.out.put HF.out).2⟩
theorem rset_any (c : Nat) (t : Int) (v : Value) (s : List Tm) (a who mark : Int) (w : World) (h : Rc w c t v s) (hsm : s.length ≤ 50000) :
    Calls Try.prog 18 #[.pointer (some ⟨c, 0, none⟩), .int .i64 a, .int .i64 who, .int .i64 mark] w fun e W' => e = .returned (.int .i64 (setE t s a who mark)) ∧
      ∃ v', Rc W' c t v' (setS t s a who mark) ∧ (∀ k, v'.ownBlock = some k → v.ownBlock = some k ∨ w.heap.size ≤ k) ∧ Tch (fun k => k = c) w W' := by
  have hn := h.now
  have HC := Lib.hid h
  have HL := Lib.hid (rat_any c t v s who mark w h (by omega))
  by_cases ha : a ≤ t
  · unfold setE setS
    rw [if_pos ha, if_pos ha]
    clear h
    go_enter Try.func18, Try.ntmps18
    go_wp2
    go_ret
    exact ⟨rfl, v, HC.out, fun k e => .inl e, Tch.refl _ w⟩
  · rcases idx_cases who mark s with ⟨hi, hno⟩ | ⟨k, hi, _, _, hyes⟩
    · unfold setE setS
      rw [if_neg ha, if_neg ha, hno, if_neg (by simp), if_neg (by simp)]
      rcases h.ts.form with ⟨rfl, rfl⟩ | ⟨g, cap, rfl, hr⟩
      · exact (rset_nil c t a who mark w h ha hi).mono fun e W' ⟨h1, v', h2, h3, h4⟩ => ⟨h1, v', h2, fun k e => .inr (h3 k e), h4⟩
      · exact (rset_row c t g cap s a who mark w h hsm ha hi).mono fun e W' ⟨h1, v', h2, h3, h4⟩ => ⟨h1, v', h2, fun k e => .inr (h3 k e), h4⟩
    · unfold setE setS
      rw [if_neg ha, if_neg ha, hyes, if_pos rfl, if_pos rfl]
      rw [hi] at HL
      clear h hi hyes
      go_enter Try.func18, Try.ntmps18
      go_wp2_with fail
      refine HL.out.mono ?_
      rintro e w' ⟨rfl, rfl⟩
      go_wp2
      go_ret
      exact ⟨rfl, v, HC.out, fun k e => .inl e, Tch.refl _ w⟩
end Go.Proofs.Ytolpccchhjcddaa
