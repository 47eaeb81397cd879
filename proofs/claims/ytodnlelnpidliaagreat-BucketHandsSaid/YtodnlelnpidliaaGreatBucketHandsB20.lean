/- Texts merged: QvS -/
import Derived.Test.YtodnlelnpidliaaGreatBucketHandsB19

/- SortStableFunc as far as it is wanted: what it makes of a list, and when: at most 20; or at most 40, where the two parts sorted stand in order. -/
section
namespace Go.Proofs.YtodnlelnpidliaaGreat
open Go.RowKit
set_option linter.unusedVariables false      -- a contract need not use every name

def StOk (c : Int → Int → Int) (l : List Int) : Prop := l.length ≤ 20 ∨ (l.length ≤ 40 ∧ (sortS c (l.take 20) ++ sortS c (l.drop 20)).Pairwise fun x y => c x y < 0 ∧ ¬ c y x < 0)
def stR (c : Int → Int → Int) (l : List Int) : List Int := if l.length ≤ 20 then sortS c l else sortS c (l.take 20) ++ sortS c (l.drop 20)
theorem stOk_20 (c : Int → Int → Int) (l : List Int) (h : l.length ≤ 20) : StOk c l := .inl h
theorem stR_perm (c : Int → Int → Int) (l : List Int) : (stR c l).Perm l := by
  unfold stR
  split
  · exact sortS_perm c l
  · have := (sortS_perm c (l.take 20)).append (sortS_perm c (l.drop 20))
    rwa [List.take_append_drop] at this
theorem stR_sorted (c : Int → Int → Int) (M : Int → Prop) (tr : ∀ x y z, M x → M y → M z → c x y < 0 → c y z < 0 → c x z < 0) (tot : ∀ x y, M x → M y → x ≠ y → c x y < 0 ∨ c y x < 0) (S : List Int) (hS : ∀ x ∈ S, M x) (hn : S.Nodup) (h : StOk c S) : (stR c S).Pairwise (fun x y => c x y < 0) := by
  unfold stR
  split
  · exact sortS_sorted c M tr tot S hS hn
  · rcases h with h | ⟨_, h⟩
    · exact absurd h (by assumption)
    · exact h.imp fun h => h.1
theorem Cmps.later {w w1 : World} {f : Value} {gi : Nat} {c : Int → Int → Int} {P : Int → Prop} (h : Cmps w f gi c P) (hT : Tch (fun k => k = gi) w w1) : Cmps w1 f gi c P := by
  obtain ⟨g, lb, e, eg, hc⟩ := h
  exact ⟨g, lb, e, eg, fun x y w2 hx hy h2 => hc x y w2 hx hy (hT.trans h2)⟩
theorem sortS_len (c : Int → Int → Int) (S : List Int) : (sortS c S).length = S.length := (sortS_perm c S).length_eq
theorem pw_at {R : Int → Int → Prop} {l : List Int} (h : l.Pairwise R) {i j : Nat} (hij : i < j) (hj : j < l.length) : R (l.getD i 0) (l.getD j 0) := by
  have := List.pairwise_iff_getElem.1 h i j (by omega) hj hij
  simpa [List.getD, hj, Nat.lt_trans hij hj] using this
theorem getD_mem {l : List Int} {j : Nat} (h : j < l.length) : l.getD j 0 ∈ l := by
  have : l.getD j 0 = l[j] := by simp [List.getD, h]
  rw [this]
  exact List.getElem_mem h
set_option maxRecDepth 100000 in
set_option maxHeartbeats 4000000 in
theorem stable40 (f : Value) (c : Int → Int → Int) (P : Int → Prop) (v : Value) (l : List Int) (w : World) (gi : Nat) (h20 : 20 < l.length) (h40 : l.length ≤ 40) (hs : (sortS c (l.take 20) ++ sortS c (l.drop 20)).Pairwise fun x y => c x y < 0 ∧ ¬ c y x < 0) (h : IS w v l) (hP : ∀ x ∈ l, P x) (hf : Cmps w f gi c P) (hgi : ∀ g, v.ownBlock = some g → g = gi) :
    Calls Tryz.prog 154 #[v, .int .i64 l.length, f] w fun e w' => e = .returned (.tuple #[]) ∧ IS w' v (sortS c (l.take 20) ++ sortS c (l.drop 20)) ∧ Tch (fun k => v.ownBlock = some k) w w' := by
  rcases h.form with ⟨rfl, rfl⟩ | ⟨g, cap, rfl⟩
  · simp at h20
  · obtain rfl := hgi g rfl
    have h1 := insSort f c P g cap l 0 20 w (by omega) (by omega) (by omega) h hP hf
    rw [srt_part c l 0 20 (by omega) (by omega)] at h1
    rw [show l.take 0 ++ sortS c ((l.drop 0).take (20 - 0)) ++ l.drop 20 = sortS c (l.take 20) ++ l.drop 20 by rw [List.take_zero, List.drop_zero, List.nil_append]] at h1
    have hA : (sortS c (l.take 20)).length = 20 := by rw [sortS_len, List.length_take]; omega
    have hPA : ∀ x ∈ sortS c (l.take 20) ++ l.drop 20, P x := fun x hx => by
      rcases List.mem_append.1 hx with hx | hx
      · exact hP x (List.mem_of_mem_take ((sortS_perm c _).mem_iff.1 hx))
      · exact hP x (List.mem_of_mem_drop hx)
    have hB : (l.drop 20).length = l.length - 20 := List.length_drop
    have hPB : ∀ x ∈ sortS c (l.take 20) ++ sortS c (l.drop 20), P x := fun x hx => by
      rcases List.mem_append.1 hx with hx | hx
      · exact hPA x (List.mem_append_left _ hx)
      · exact hPA x (List.mem_append_right _ ((sortS_perm c _).mem_iff.1 hx))
    have hBl := sortS_len c (l.drop 20)
    obtain ⟨n, hn⟩ : ∃ n, l.length = n := ⟨_, rfl⟩
    rw [hn] at h20 h40 h1 hB ⊢
    clear h hP hgi hn
    generalize sortS c (l.take 20) = A at *
    generalize l.drop 20 = B at *
    have h2 : ∀ w1, Tch (fun k => k = g) w w1 → IS w1 (.slice (some ⟨g, 0, none⟩) n cap) (A ++ B) → Calls Tryz.prog 156 #[.slice (some ⟨g, 0, none⟩) n cap, .int .i64 20, .int .i64 n, f] w1 fun e w' => e = .returned (.tuple #[]) ∧ IS w' (.slice (some ⟨g, 0, none⟩) n cap) (A ++ sortS c B) ∧ Tch (fun k => k = g) w1 w' := by
      intro w1 hT hI
      have hAB : (A ++ B).length = n := by rw [List.length_append, hA, hB]; omega
      have q := insSort f c P g cap (A ++ B) 20 n w1 (by omega) (by omega) (by omega) (by rw [hAB]; exact hI) hPA (hf.later hT)
      rw [srt_part c (A ++ B) 20 n (by omega) (by omega), hAB] at q
      rw [show (A ++ B).take 20 = A by rw [List.take_append_of_le_length (by omega), List.take_of_length_le (by omega)], show (A ++ B).drop 20 = B by rw [List.drop_append_of_le_length (by omega), List.drop_of_length_le (by omega), List.nil_append], List.take_of_length_le (by omega), show (A ++ B).drop n = [] from List.drop_of_length_le (by omega), List.append_nil] at q
      exact q
    obtain ⟨gf, lb, rfl, eg, hc⟩ := hf
    have h3 : ∀ w2, Tch (fun k => k = g) w w2 → IS w2 (.slice (some ⟨g, 0, none⟩) n cap) (A ++ sortS c B) → Calls Tryz.prog 157 #[.slice (some ⟨g, 0, none⟩) n cap, .int .i64 ((0 : Nat) : Int), .int .i64 ((20 : Nat) : Int), .int .i64 n, .func (.func gf) #[] lb] w2 fun e w' => e = .returned (.tuple #[]) ∧ Nw w2 w' := by
      intro w2 hT hI
      have hl2 : (A ++ sortS c B).length = n := by rw [List.length_append, hA, hBl, hB]; omega
      refine symMerge gf lb g cap n (A ++ sortS c B) (by omega) n 0 20 n w2 (by omega) (by omega) (by omega) (Nat.le_refl _) ⟨eg, fun i z hi hz => hz.kp (hI.cell i (by omega)), fun i j _ hij hj => ⟨_, ?_, fun z hz => hc _ _ z (hPB _ ?_) (hPB _ ?_) (hT.trans (Tch.nw hz))⟩⟩
      · rw [decide_eq_false_iff_not]
        exact (pw_at hs hij (by omega)).2
      · exact getD_mem (by omega)
      · exact getD_mem (by omega)
    generalize sortS c B = B' at *
    have H1 := Lib.hid h1
    have H2 := Lib.hid h2
    have H3 := Lib.hid h3
    have HN := Lib.hid (fun w1 => insSort_no (.slice (some ⟨g, 0, none⟩) 40 cap) (.func (.func gf) #[] lb) 40 (some ⟨g, 0, none⟩) cap 40 40 w1 rfl (Nat.le_refl _) (by omega) gf lb rfl)
    clear h1 h2 h3 hc hs hPA hPB hA hB hBl
    by_cases hn : n = 40
    · subst hn
      clear h20 h40
      go_enter Tryz.func154, Tryz.ntmps154
      go_wp2
      refine wp_loop_rounds 3 ?_
      rw [rounds_succ]
      go_wp2_with (go_at_call 156; refine H1.out.mono ?_; rintro e w1 ⟨rfl, hI, hT⟩)
      have HA := Lib.hid (H2.out _ hT hI)
      have HT := Lib.hid hT
      clear hI hT
      rw [rounds_succ]
      go_wp2_with (go_at_call 156; refine HA.out.mono ?_; rintro e w2 ⟨rfl, hI, hT⟩)
      have HB := Lib.hid (And.intro hI (HT.out.trans hT))
      have HM := Lib.hid (H3.out _ HB.out.2 HB.out.1)
      clear hI hT
      rw [rounds_succ]
      go_wp2_with (go_at_call 156; refine (HN.out _).mono ?_; rintro e w3 ⟨rfl, rfl⟩)
      refine wp_loop_rounds 2 ?_
      rw [rounds_succ]
      go_wp2
      refine wp_loop_rounds 2 ?_
      rw [rounds_succ]
      go_wp2_with (go_at_call 157; refine HM.out.mono ?_; rintro e w4 ⟨rfl, g4⟩)
      have HG := Lib.hid g4
      clear g4
      rw [rounds_succ]
      go_wp2
      rw [rounds_succ]
      go_wp2
      exact bodyPost_end (results_none rfl _ _ _) rfl ⟨rfl, HB.out.1.nw HG.out, (HB.out.2.trans (Tch.nw HG.out)).mono fun i _ e => by rw [e]; rfl⟩
    · have d1 : decide ((20 : Int) ≤ (n : Int)) = true := by rw [decide_eq_true_iff]; omega
      have d2 : decide ((40 : Int) ≤ (n : Int)) = false := by rw [decide_eq_false_iff_not]; omega
      have d3 : decide ((20 : Int) < (n : Int)) = true := by rw [decide_eq_true_iff]; omega
      have d4 : decide ((40 : Int) < (n : Int)) = false := by rw [decide_eq_false_iff_not]; omega
      have d1' : decide (20 ≤ n) = true := by rw [decide_eq_true_iff]; omega
      have d2' : decide (40 ≤ n) = false := by rw [decide_eq_false_iff_not]; omega
      have d3' : decide (20 < n) = true := by rw [decide_eq_true_iff]; omega
      have d4' : decide (40 < n) = false := by rw [decide_eq_false_iff_not]; omega
      clear h20 h40 hn
      go_enter Tryz.func154, Tryz.ntmps154
      go_wp2
      refine wp_loop_rounds 2 ?_
      rw [rounds_succ]
      go_wp2_with (go_at_call 156; refine H1.out.mono ?_; rintro e w1 ⟨rfl, hI, hT⟩)
      have HA := Lib.hid (H2.out _ hT hI)
      have HT := Lib.hid hT
      clear hI hT
      rw [rounds_succ]
      go_wp2_with (go_at_call 156; refine HA.out.mono ?_; rintro e w2 ⟨rfl, hI, hT⟩)
      have HB := Lib.hid (And.intro hI (HT.out.trans hT))
      have HM := Lib.hid (H3.out _ HB.out.2 HB.out.1)
      clear hI hT
      refine wp_loop_rounds 2 ?_
      rw [rounds_succ]
      go_wp2
      refine wp_loop_rounds 1 ?_
      rw [rounds_succ]
      go_wp2_with (go_at_call 157; refine HM.out.mono ?_; rintro e w4 ⟨rfl, g4⟩)
      have HG := Lib.hid g4
      clear g4
      rw [rounds_succ]
      go_wp2
      exact bodyPost_end (results_none rfl _ _ _) rfl ⟨rfl, HB.out.1.nw HG.out, (HB.out.2.trans (Tch.nw HG.out)).mono fun i _ e => by rw [e]; rfl⟩
theorem dStable (f : Value) (c : Int → Int → Int) (P : Int → Prop) (v : Value) (l : List Int) (w : World) (gi : Nat) (hl : StOk c l) (h : IS w v l) (hP : ∀ x ∈ l, P x) (hf : Cmps w f gi c P) (hgi : ∀ g, v.ownBlock = some g → g = gi) :
    Calls Tryz.prog 147 #[v, f] w fun e w' => e = .returned (.tuple #[]) ∧ IS w' v (stR c l) ∧ Tch (fun k => v.ownBlock = some k) w w' := by
  by_cases h20 : l.length ≤ 20
  · unfold stR
    rw [if_pos h20]
    exact stableF20 f c P v l w gi h20 h hP hf hgi
  · obtain ⟨h40, hs⟩ := hl.resolve_left h20
    have HS := Lib.hid (stable40 f c P v l w gi (by omega) h40 hs h hP hf hgi)
    unfold stR
    rw [if_neg h20]
    obtain ⟨ao, cap, rfl, _⟩ := h.box
    obtain ⟨gf, lb, rfl, _⟩ := hf
    clear h hP hgi hl hs h20 h40
    go_enter Tryz.func147, Tryz.ntmps147
    go_wp2_with (go_at_call 154; refine HS.out.mono ?_; rintro e w1 ⟨rfl, hI, hT⟩)
    exact bodyPost_end (results_none rfl _ _ _) rfl ⟨rfl, hI, hT⟩
end Go.Proofs.YtodnlelnpidliaaGreat
end
