
/- SortStableFunc of at most 20 ints; plain facts of the insertion sort. -/
import Derived.Test.YtmciiobncfchlaaQvM
namespace Go.Proofs.Ytmciiobncfchlaa
open Go.RowKit
set_option linter.unusedVariables false      -- a contract need not use every name

/-- Insert from behind. -/
def insL (c : Int → Int → Int) (v : Int) : List Int → List Int
  | [] => [v]
  | x :: r => if c v x < 0 then x :: insL c v r else v :: x :: r
def sortS (c : Int → Int → Int) (S : List Int) : List Int := (S.foldl (fun acc v => insL c v acc) []).reverse
theorem getD_at {P : List Int} (x : Int) (Q : List Int) {k : Nat} (h : P.length = k) : (P ++ x :: Q).getD k 0 = x := by subst h; simp [List.getD]
theorem set_at' {P : List Int} (x y : Int) (Q : List Int) {k : Nat} (h : P.length = k) : (P ++ x :: Q).set k y = P ++ y :: Q := by
  subst h
  rw [List.set_append_right _ _ (Nat.le_refl _), Nat.sub_self, List.set_cons_zero]
theorem insF_spec (c : Int → Int → Int) (v : Int) (P : List Int) (a : Nat) (hP : P.length = a) : ∀ (X Q : List Int), insF c a (a + X.length) (P ++ X.reverse ++ v :: Q) = P ++ (insL c v X).reverse ++ Q
  | [], Q => by
    rw [insF_stop (by simp)]
    simp [insL]
  | x :: X, Q => by
    have hl : (P ++ X.reverse).length = a + X.length := by simp [hP]
    have hl2 : (P ++ X.reverse ++ [x]).length = a + X.length + 1 := by simp [hP]; omega
    have e0 : P ++ (x :: X).reverse ++ v :: Q = (P ++ X.reverse) ++ x :: (v :: Q) := by simp
    have e1 : P ++ (x :: X).reverse ++ v :: Q = (P ++ X.reverse ++ [x]) ++ v :: Q := by simp
    have g1 : (P ++ (x :: X).reverse ++ v :: Q).getD (a + X.length + 1) 0 = v := by rw [e1]; exact getD_at v Q hl2
    have g0 : (P ++ (x :: X).reverse ++ v :: Q).getD (a + X.length) 0 = x := by rw [e0]; exact getD_at x _ hl
    rw [show a + (x :: X).length = a + X.length + 1 by simp; omega]
    unfold insL
    by_cases h : c v x < 0
    · rw [if_pos h, insF_go (by omega) (by rw [g1, g0]; exact h), g1, g0]
      have s1 : ((P ++ (x :: X).reverse ++ v :: Q).set (a + X.length + 1) x).set (a + X.length) v = P ++ X.reverse ++ v :: (x :: Q) := by
        rw [e1, set_at' v x Q hl2]
        have : P ++ X.reverse ++ [x] ++ x :: Q = (P ++ X.reverse) ++ x :: (x :: Q) := by simp
        rw [this, set_at' x v _ hl]
      rw [s1, insF_spec c v P a hP X (x :: Q)]
      simp
    · rw [if_neg h, insF_keep (by rw [g1, g0]; exact h)]
      simp
theorem srtF_spec (c : Int → Int → Int) (P : List Int) (a : Nat) (hP : P.length = a) : ∀ (S X Q : List Int), srtF c a S.length (a + X.length) (P ++ X.reverse ++ S ++ Q) = P ++ (S.foldl (fun acc v => insL c v acc) X).reverse ++ Q
  | [], X, Q => by simp [srtF]
  | v :: S, X, Q => by
    have hx : ∀ l : List Int, (insL c v l).length = l.length + 1 := by
      intro l
      induction l with
      | nil => rfl
      | cons x r ih => unfold insL; split <;> simp [ih]
    show srtF c a S.length (a + X.length + 1) (insF c a (a + X.length) (P ++ X.reverse ++ v :: S ++ Q)) = _
    have e : P ++ X.reverse ++ v :: S ++ Q = P ++ X.reverse ++ v :: (S ++ Q) := by simp
    rw [e, insF_spec c v P a hP X (S ++ Q)]
    have := srtF_spec c P a hP S (insL c v X) Q
    rw [hx X, show a + (X.length + 1) = a + X.length + 1 by omega] at this
    rw [show P ++ (insL c v X).reverse ++ (S ++ Q) = P ++ (insL c v X).reverse ++ S ++ Q by simp, this]
    rfl
/-- A part sorted, from a to b. -/
theorem srt_part (c : Int → Int → Int) (l : List Int) (a b : Nat) (hab : a ≤ b) (hb : b ≤ l.length) : srtF c a (b - (a + 1)) (a + 1) l = l.take a ++ sortS c ((l.drop a).take (b - a)) ++ l.drop b := by
  have hsp : l = l.take a ++ ((l.drop a).take (b - a) ++ l.drop b) := by
    have h1 : l.drop b = (l.drop a).drop (b - a) := by rw [List.drop_drop, show a + (b - a) = b by omega]
    rw [h1, List.take_append_drop, List.take_append_drop]
  obtain ⟨S, hS⟩ : ∃ S, (l.drop a).take (b - a) = S := ⟨_, rfl⟩
  have hSl : S.length = b - a := by rw [← hS]; simp; omega
  rw [hS] at hsp ⊢
  have hPl : (l.take a).length = a := by simp; omega
  generalize l.take a = P at *
  generalize l.drop b = Q at *
  subst hsp
  cases S with
  | nil =>
    have : b - (a + 1) = 0 := by simp at hSl; omega
    rw [this]
    simp [srtF, sortS]
  | cons v S =>
    have h1 : b - (a + 1) = S.length := by simp at hSl; omega
    rw [h1]
    have := srtF_spec c P a hPl S [v] Q
    rw [show P ++ [v].reverse ++ S ++ Q = P ++ (v :: S ++ Q) by simp] at this
    rw [show a + 1 = a + [v].length by rfl, this]
    rfl
theorem insL_perm (c : Int → Int → Int) (v : Int) : ∀ l : List Int, (insL c v l).Perm (v :: l)
  | [] => .refl _
  | x :: r => by
    unfold insL
    split
    · exact (List.Perm.cons x (insL_perm c v r)).trans (List.Perm.swap v x r)
    · exact .refl _
theorem fold_perm (c : Int → Int → Int) : ∀ (S X : List Int), (S.foldl (fun acc v => insL c v acc) X).Perm (X ++ S)
  | [], X => by simp
  | v :: S, X => by
    rw [List.foldl_cons]
    refine (fold_perm c S (insL c v X)).trans ?_
    refine ((insL_perm c v X).append_right S).trans ?_
    exact (List.perm_middle (l₁ := X) (a := v) (l₂ := S)).symm
theorem sortS_perm (c : Int → Int → Int) (S : List Int) : (sortS c S).Perm S := by
  unfold sortS
  exact (List.reverse_perm _).trans ((fold_perm c S []).trans (by simp))
/-- Sorted by a strict order on the members. -/
theorem insL_sorted (c : Int → Int → Int) (M : Int → Prop) (tr : ∀ x y z, M x → M y → M z → c x y < 0 → c y z < 0 → c x z < 0) (tot : ∀ x y, M x → M y → x ≠ y → c x y < 0 ∨ c y x < 0) (v : Int) (hv : M v) : ∀ l : List Int, (∀ x ∈ l, M x ∧ x ≠ v) → l.Pairwise (fun x y => c y x < 0) → (insL c v l).Pairwise (fun x y => c y x < 0)
  | [], _, _ => by simp [insL]
  | x :: r, h, hp => by
    have hx := h x (by simp)
    have hr : ∀ y ∈ r, M y ∧ y ≠ v := fun y hy => h y (List.mem_cons_of_mem _ hy)
    rw [List.pairwise_cons] at hp
    unfold insL
    split
    · rename_i hc
      rw [List.pairwise_cons]
      refine ⟨fun y hy => ?_, insL_sorted c M tr tot v hv r hr hp.2⟩
      rcases List.mem_cons.1 ((insL_perm c v r).mem_iff.1 hy) with rfl | hy
      · exact hc
      · exact hp.1 y hy
    · rename_i hc
      have hxv : c x v < 0 := (tot v x hv hx.1 (fun e => hx.2 e.symm)).resolve_left hc
      rw [List.pairwise_cons]
      refine ⟨fun y hy => ?_, by rw [List.pairwise_cons]; exact hp⟩
      rcases List.mem_cons.1 hy with rfl | hy
      · exact hxv
      · exact tr y x v (hr y hy).1 hx.1 hv (hp.1 y hy) hxv
theorem fold_sorted (c : Int → Int → Int) (M : Int → Prop) (tr : ∀ x y z, M x → M y → M z → c x y < 0 → c y z < 0 → c x z < 0) (tot : ∀ x y, M x → M y → x ≠ y → c x y < 0 ∨ c y x < 0) : ∀ (S X : List Int), (∀ x ∈ S, M x) → (∀ x ∈ X, M x) → (X ++ S).Nodup → X.Pairwise (fun x y => c y x < 0) → (S.foldl (fun acc v => insL c v acc) X).Pairwise (fun x y => c y x < 0)
  | [], X, _, _, _, h => h
  | v :: S, X, hS, hX, hn, h => by
    rw [List.foldl_cons]
    have hn' := List.nodup_append.1 hn
    refine fold_sorted c M tr tot S _ (fun x hx => hS x (List.mem_cons_of_mem _ hx)) (fun x hx => ?_) ?_ (insL_sorted c M tr tot v (hS v (by simp)) X (fun x hx => ⟨hX x hx, fun e => hn'.2.2 x hx v (by simp) e⟩) h)
    · rcases List.mem_cons.1 ((insL_perm c v X).mem_iff.1 hx) with rfl | hx
      · exact hS _ (by simp)
      · exact hX x hx
    · refine (((insL_perm c v X).append_right S).trans ?_).nodup_iff.2 hn
      exact (List.perm_middle (l₁ := X) (a := v) (l₂ := S)).symm
theorem sortS_sorted (c : Int → Int → Int) (M : Int → Prop) (tr : ∀ x y z, M x → M y → M z → c x y < 0 → c y z < 0 → c x z < 0) (tot : ∀ x y, M x → M y → x ≠ y → c x y < 0 ∨ c y x < 0) (S : List Int) (hS : ∀ x ∈ S, M x) (hn : S.Nodup) : (sortS c S).Pairwise (fun x y => c x y < 0) := by
  unfold sortS
  rw [List.pairwise_reverse]
  exact fold_sorted c M tr tot S [] hS (by simp) (by simpa using hn) .nil
theorem insSort_no (v f : Value) (n : Nat) (ao : Option Addr) (cap a b : Nat) (w : World) (hv : v = .slice ao n cap) (hab : b ≤ a) (ha : a ≤ 1000) (gf : Nat) (lb : Array Value) (hf : f = .func (.func gf) #[] lb) :
    Calls Try.prog 119 #[v, .int .i64 a, .int .i64 b, f] w fun e w' => e = .returned (.tuple #[]) ∧ w = w' := by
  subst hv hf
  have d : decide (((a : Int) + 1) < (b : Int)) = false := by rw [decide_eq_false_iff_not]; omega
  go_enter Try.func119, Try.ntmps119
  go_wp2
  refine wp_loop_rounds 1 ?_
  repeat (rw [rounds_succ]; go_wp2)
  exact bodyPost_end (results_none rfl _ _ _) rfl ⟨rfl, rfl⟩
set_option maxRecDepth 100000 in
set_option maxHeartbeats 4000000 in
theorem stable20 (f : Value) (c : Int → Int → Int) (P : Int → Prop) (v : Value) (l : List Int) (w : World) (gi : Nat) (hl : l.length ≤ 20) (h : IS w v l) (hP : ∀ x ∈ l, P x) (hf : Cmps w f gi c P) (hgi : ∀ g, v.ownBlock = some g → g = gi) :
    Calls Try.prog 112 #[v, .int .i64 l.length, f] w fun e w' => e = .returned (.tuple #[]) ∧ IS w' v (sortS c l) ∧ Tch (fun k => v.ownBlock = some k) w w' := by
  rcases h.form with ⟨rfl, rfl⟩ | ⟨g, cap, rfl⟩
  · obtain ⟨gf, lb, rfl, _⟩ := hf
    have HN := Lib.hid (insSort_no (.slice none 0 0) (.func (.func gf) #[] lb) 0 none 0 0 0 w rfl (Nat.le_refl _) (by omega) gf lb rfl)
    clear hP hgi hl
    have H := Lib.hid h
    clear h
    go_enter Try.func112, Try.ntmps112
    go_wp2
    refine wp_loop_rounds 1 ?_
    rw [rounds_succ]
    go_wp2_with (go_at_call 119; refine HN.out.mono ?_; rintro e w1 ⟨rfl, rfl⟩)
    refine wp_loop_rounds 1 ?_
    repeat (rw [rounds_succ]; go_wp2)
    exact bodyPost_end (results_none rfl _ _ _) rfl ⟨rfl, H.out, Tch.refl _ _⟩
  · obtain rfl := hgi g rfl
    by_cases hn : l.length = 20
    · have h1 := insSort f c P g cap l 0 20 w (by omega) (by omega) (by omega) h hP hf
      rw [srt_part c l 0 20 (by omega) (by omega)] at h1
      rw [show l.take 0 ++ sortS c ((l.drop 0).take (20 - 0)) ++ l.drop 20 = sortS c l by
        rw [List.take_zero, List.drop_zero, List.nil_append, List.drop_of_length_le (by omega), List.append_nil, show 20 - 0 = l.length by omega, List.take_length]] at h1
      obtain ⟨gf, lb, rfl, _⟩ := hf
      rw [hn] at h1 ⊢
      have HS := Lib.hid h1
      have HN := Lib.hid (fun w1 => insSort_no (.slice (some ⟨g, 0, none⟩) 20 cap) (.func (.func gf) #[] lb) 20 (some ⟨g, 0, none⟩) cap 20 20 w1 rfl (Nat.le_refl _) (by omega) gf lb rfl)
      clear h1 h hP hn hl hgi
      go_enter Try.func112, Try.ntmps112
      go_wp2
      refine wp_loop_rounds 2 ?_
      rw [rounds_succ]
      go_wp2_with (go_at_call 119; refine HS.out.mono ?_; rintro e w1 ⟨rfl, hI, hT⟩)
      have HI := Lib.hid (And.intro hI hT)
      clear hI hT
      rw [rounds_succ]
      go_wp2_with (go_at_call 119; refine (HN.out _).mono ?_; rintro e w2 ⟨rfl, rfl⟩)
      refine wp_loop_rounds 1 ?_
      repeat (rw [rounds_succ]; go_wp2)
      exact bodyPost_end (results_none rfl _ _ _) rfl ⟨rfl, HI.out.1, HI.out.2.mono fun i _ e => by rw [e]; rfl⟩
    · have h1 := insSort f c P g cap l 0 l.length w (by omega) (by omega) (Nat.le_refl _) h hP hf
      rw [srt_part c l 0 l.length (by omega) (Nat.le_refl _)] at h1
      rw [show l.take 0 ++ sortS c ((l.drop 0).take (l.length - 0)) ++ l.drop l.length = sortS c l by
        rw [List.take_zero, List.drop_zero, List.nil_append, List.drop_length, List.append_nil, Nat.sub_zero, List.take_length]] at h1
      obtain ⟨gf, lb, rfl, _⟩ := hf
      have d1 : decide ((20 : Int) ≤ (l.length : Int)) = false := by rw [decide_eq_false_iff_not]; omega
      have d2 : decide ((20 : Int) < (l.length : Int)) = false := by rw [decide_eq_false_iff_not]; omega
      have HS := Lib.hid h1
      clear h1 h hP hn hl hgi
      generalize l.length = n at *
      go_enter Try.func112, Try.ntmps112
      go_wp2
      refine wp_loop_rounds 1 ?_
      rw [rounds_succ]
      go_wp2_with (go_at_call 119; refine HS.out.mono ?_; rintro e w1 ⟨rfl, hI, hT⟩)
      have HI := Lib.hid (And.intro hI hT)
      clear hI hT
      refine wp_loop_rounds 1 ?_
      repeat (rw [rounds_succ]; go_wp2)
      exact bodyPost_end (results_none rfl _ _ _) rfl ⟨rfl, HI.out.1, HI.out.2.mono fun i _ e => by rw [e]; rfl⟩
theorem stableF20 (f : Value) (c : Int → Int → Int) (P : Int → Prop) (v : Value) (l : List Int) (w : World) (gi : Nat) (hl : l.length ≤ 20) (h : IS w v l) (hP : ∀ x ∈ l, P x) (hf : Cmps w f gi c P) (hgi : ∀ g, v.ownBlock = some g → g = gi) :
    Calls Try.prog 89 #[v, f] w fun e w' => e = .returned (.tuple #[]) ∧ IS w' v (sortS c l) ∧ Tch (fun k => v.ownBlock = some k) w w' := by
  have HS := Lib.hid (stable20 f c P v l w gi hl h hP hf hgi)
  obtain ⟨ao, cap, rfl, _⟩ := h.box
  obtain ⟨gf, lb, rfl, _⟩ := hf
  clear h hP hgi hl
  go_enter Try.func89, Try.ntmps89
  go_wp2_with (go_at_call 112; refine HS.out.mono ?_; rintro e w1 ⟨rfl, hI, hT⟩)
  exact bodyPost_end (results_none rfl _ _ _) rfl ⟨rfl, hI, hT⟩
end Go.Proofs.Ytmciiobncfchlaa
