
/- The document's own clock: Next, Each, Drop. -/
import Derived.Test.YtolpccchhjcddaaTkRC
namespace Go.Proofs.Ytolpccchhjcddaa
open Go.RowKit Go.Shelf

theorem rnext_any (c : Nat) (t : Int) (v : Value) (s : List Tm) (w : World) (h : Rc w c t v s) : Calls Try.prog 21 #[.pointer (some ⟨c, 0, none⟩)] w fun e w' => e = .returned (nxtV s) ∧ Nw w w' := by
  have hn := h.lst
  have hlt := h.lt
  cases s with
  | nil =>
    obtain ⟨ao, cap, rfl, _⟩ := h.ts.row2
    clear h
    simp only [List.length_nil] at hn
    go_enter Try.func21, Try.ntmps21
    go_wp2
    exact bodyPost_ret (v := .tuple #[.agg #[.int .i64 0, .int .i64 0, .int .i64 0], .bool false]) (by simp [results, Try.results21, go_sem]) rfl ⟨rfl, (Nw.refl _).alloc _⟩
  | cons a s =>
    obtain ⟨ao, cap, rfl, hao⟩ := h.ts.row2
    obtain ⟨g, rfl, hr⟩ := hao (by simp)
    have hcap := hr.cap_le
    obtain ⟨c0, c1, c2⟩ := hr.cells 0 (by simp)
    have hg := hr.lt
    have ha : at' (a :: s) 0 = a := rfl
    rw [ha] at c0 c1 c2
    obtain ⟨x0, x1, x2⟩ := a
    clear h hr ha hao
    unfold maxLen at hcap
    simp only [List.length_cons, Nat.zero_mul, Nat.zero_add] at hn c0 c1 c2 hcap
    generalize s.length = N at *
    go_enter Try.func21, Try.ntmps21
    go_wp2
    exact bodyPost_ret (v := .tuple #[.agg #[.int .i64 x0, .int .i64 x1, .int .i64 x2], .bool true]) (by simp [results, Try.results21, go_sem]) rfl ⟨rfl, (Nw.refl _).alloc _⟩
theorem reach_any (c : Nat) (t : Int) (v : Value) (s : List Tm) (w : World) (h : Rc w c t v s) (hsm : s.length ≤ 50000) : Calls Try.prog 25 #[.pointer (some ⟨c, 0, none⟩)] w fun e w' => ∃ v', e = .returned v' ∧ TS w' v' s ∧ Nw w w' := by
  have hn := h.lst
  have hlt := h.lt
  rcases h.ts.form with ⟨rfl, rfl⟩ | ⟨g, cap, rfl, hr⟩
  · obtain ⟨v1, w6, r1, F1⟩ := Fr.app (Fr.start (Nw.refl w)) none 0 0 [] rfl (by simp) none_cells (by simp)
    have R1 := Lib.hid r1
    have HF := Lib.hid F1
    clear r1 F1 h
    go_enter Try.func25, Try.ntmps25
    go_wp2_with (at_builtin; refine wpList_append_run rfl (.tmp 3) (.tmp 7) 31 rfl _ _ _ _ rfl rfl R1.out ?_)
    go_ret
    exact ⟨v1, rfl, HF.out.ts, HF.out.nw⟩
  · obtain ⟨v1, w6, r1, F1⟩ := Fr.app (Fr.start (Nw.refl w)) (some ⟨g, 0, none⟩) s.length cap s rfl (by simp) (fun a e => by cases e; exact World.ownsRow.cells (hr.kept (((Nw.refl w).alloc _).block g hr.lt)) rfl) (by simp <;> omega)
    have R1 := Lib.hid r1
    have HF := Lib.hid F1
    clear r1 F1 h
    go_enter Try.func25, Try.ntmps25
    go_wp2_with (at_builtin; refine wpList_append_run rfl (.tmp 3) (.tmp 7) 31 rfl _ _ _ _ rfl rfl R1.out ?_)
    go_ret
    exact ⟨v1, rfl, by have := HF.out.ts; simpa using this, HF.out.nw⟩
set_option maxHeartbeats 2000000 in
theorem rdrop_any (c : Nat) (t : Int) (v : Value) (s : List Tm) (who mark : Int) (w : World) (h : Rc w c t v s) (hsm : s.length ≤ 50000) (hu : (s.map (·.2)).Nodup) :
    Calls Try.prog 19 #[.pointer (some ⟨c, 0, none⟩), .int .i64 who, .int .i64 mark] w fun e W' => e = .returned (.bool (s.any (keyB who mark))) ∧
      ∃ v', Rc W' c t v' (drp s who mark) ∧ (∀ k, v'.ownBlock = some k → v.ownBlock = some k ∨ w.heap.size ≤ k) ∧ Tch (fun k => k = c) w W' := by
  have hn := h.lst
  have hlt := h.lt
  have HC := Lib.hid h
  have HL := Lib.hid (rat_any c t v s who mark w h (by omega))
  rcases idx_cases who mark s with ⟨hi, hno⟩ | ⟨k, hi, hk, hkey, hyes⟩
  · rw [hi] at HL
    rw [hno, drp_none s who mark hno]
    clear h hi hno
    go_enter Try.func19, Try.ntmps19
    go_wp2_with fail
    refine HL.out.mono ?_
    rintro e w' ⟨rfl, rfl⟩
    go_wp2
    go_ret
    exact ⟨rfl, v, HC.out, fun k e => .inl e, Tch.refl _ w⟩
  · rw [hi] at HL
    rw [hyes]
    have HSP := Lib.hid (drp_split who mark s k hk hu hkey)
    rcases h.ts.form with ⟨rfl, rfl⟩ | ⟨g, cap, rfl, hr⟩
    · simp at hk
    · have hcap := hr.cap_le
      unfold maxLen at hcap
      clear hi hkey hyes hu
      have z1 : k ≤ cap := by omega
      have z2 : k + 1 ≤ s.length := by omega
      by_cases hcc : cap = k + 1
      · obtain rfl : cap = k + 1 := hcc
        have z3 : s.length = k + 1 := by omega
        have z4 : s.drop (k + 1) = [] := List.drop_eq_nil_of_le (by omega)
        rw [z4] at HSP
        rw [z3] at HC hn
        obtain ⟨v1, w6, r1, F1⟩ := Fr.app (Fr.start (Nw.refl w)) (some ⟨g, 0, none⟩) k (k + 1) (s.take k) (by simp <;> omega) (by simp) ((hr.kept (((Nw.refl w).alloc _).block g hr.lt)).sub_take k) (by simp <;> omega)
        obtain ⟨v3, w8, r3, F3⟩ := Fr.app F1 (some ⟨g, 0, none⟩) 0 0 [] (by simp <;> omega) (by simp) (no_cells _) (by simp <;> omega)
        obtain ⟨ao3, n3, cap3, rfl⟩ : ∃ ao n cap, v3 = .slice ao n cap := by
          obtain ⟨ao, cap, e, _⟩ := F3.ts.row2
          exact ⟨ao, _, cap, e⟩
        have R1 := Lib.hid r1
        have R3 := Lib.hid r3
        have l6 := (F1.nw.cell hlt).trans hn
        have l8 := (F3.nw.cell hlt).trans hn
        have b8 : c < w8.heap.size := Nat.lt_of_lt_of_le hlt F3.nw.sz
        have f8 := (HC.out.nw F3.nw).fz
        have HF := Lib.hid (show Fr w w8 (.slice ao3 n3 cap3) (drp s who mark) from by have := F3; rw [HSP.out]; simpa using this)
        clear r1 r3 F1 F3 HSP h z4
        go_enter Try.func19, Try.ntmps19
        go_wp2_with fail
        refine HL.out.mono ?_
        rintro e w' ⟨rfl, rfl⟩
        go_wp2_with (at_builtin; first
          | refine wpList_append_run rfl (.tmp 15) (.tmp 21) 31 rfl _ _ _ _ rfl rfl R1.out ?_
          | refine wpList_append_run rfl (.tmp 24) (.tmp 31) 31 rfl _ _ _ _ rfl rfl R3.out ?_)
        go_ret
        exact ⟨rfl, _, (HC.out.put HF.out).1, fun k e => .inr (HF.out.new k e), (HC.out.put HF.out).2⟩
      · have z3 : ¬ cap = k + 1 := hcc
        have z5 : s.length - (k + 1) ≤ 50000 := by omega
        obtain ⟨v1, w6, r1, F1⟩ := Fr.app (Fr.start (Nw.refl w)) (some ⟨g, 0, none⟩) k cap (s.take k) (by simp <;> omega) (by simp) ((hr.kept (((Nw.refl w).alloc _).block g hr.lt)).sub_take k) (by simp <;> omega)
        obtain ⟨v3, w8, r3, F3⟩ := Fr.app F1 (some ⟨g, (k + 1) * 3, none⟩) (s.length - (k + 1)) (cap - (k + 1)) (s.drop (k + 1)) (by simp <;> omega) (by simp) ((hr.kept (F1.nw.block g hr.lt)).sub_drop (k + 1) z2) (by simp <;> omega)
        obtain ⟨ao3, n3, cap3, rfl⟩ : ∃ ao n cap, v3 = .slice ao n cap := by
          obtain ⟨ao, cap, e, _⟩ := F3.ts.row2
          exact ⟨ao, _, cap, e⟩
        have R1 := Lib.hid r1
        have R3 := Lib.hid r3
        have l6 := (F1.nw.cell hlt).trans hn
        have l8 := (F3.nw.cell hlt).trans hn
        have b8 : c < w8.heap.size := Nat.lt_of_lt_of_le hlt F3.nw.sz
        have f8 := (HC.out.nw F3.nw).fz
        have HF := Lib.hid (show Fr w w8 (.slice ao3 n3 cap3) (drp s who mark) from by have := F3; rw [HSP.out]; simpa using this)
        clear r1 r3 F1 F3 HSP h
        go_enter Try.func19, Try.ntmps19
        go_wp2_with fail
        refine HL.out.mono ?_
        rintro e w' ⟨rfl, rfl⟩
        go_wp2_with (at_builtin; first
          | refine wpList_append_run rfl (.tmp 15) (.tmp 21) 31 rfl _ _ _ _ rfl rfl R1.out ?_
          | refine wpList_append_run rfl (.tmp 24) (.tmp 31) 31 rfl _ _ _ _ rfl rfl R3.out ?_)
        go_ret
        exact ⟨rfl, _, (HC.out.put HF.out).1, fun k e => .inr (HF.out.new k e), (HC.out.put HF.out).2⟩
end Go.Proofs.Ytolpccchhjcddaa
