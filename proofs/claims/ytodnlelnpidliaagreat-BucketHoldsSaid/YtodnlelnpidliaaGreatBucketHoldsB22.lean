/- Texts merged: SmE, SmG, SmF, QvO, QvP, SmT, QvQ, QvR -/
import Derived.Test.YtodnlelnpidliaaGreatBucketHoldsB21
import Derived.Shelf.Abstract

/- symMergeCmpFunc of ints: any two sorted parts. -/
section
namespace Go.Proofs.YtodnlelnpidliaaGreat
open Go.RowKit
set_option linter.unusedVariables false      -- a contract need not use every name

theorem symAll (f : Value) (c : Int → Int → Int) (M : Int → Prop) (o : OrdC c M) (g cap n : Nat) (hn : n ≤ 1000) : ∀ S, SymIH f c M g cap n S
  | 0 => fun P A B Q z a m b hS => by omega
  | S + 1 => fun P A B Q z a m b hS hA hB h mA mB sA sB nd hf ha hm hb => by
    have ih : SymIH f c M g cap n (A.length + B.length) := fun P' A' B' Q' z' a' m' b' hS' => symAll f c M o g cap n hn S P' A' B' Q' z' a' m' b' (by omega)
    have ndd := List.nodup_append.1 nd
    by_cases h1 : A.length = 1
    · obtain ⟨x, rfl⟩ := List.length_eq_one_iff.1 h1
      exact symOneG f c M o g cap n P B Q x z hn (by simpa using h) mB (mA x (by simp)) (fun hx => ndd.2.2 x (by simp) x hx rfl) sB hB hf a m b ha (by simpa using hm) hb
    · by_cases h2 : B.length = 1
      · obtain ⟨x, rfl⟩ := List.length_eq_one_iff.1 h2
        exact symLastG f c M o g cap n P A Q x z hn (by simpa using h) mA (mB x (by simp)) (fun hx => ndd.2.2 x hx x (by simp) rfl) sA (by omega) hf a m b ha hm (by simpa using hb)
      · by_cases h3 : (a + b) / 2 < m
        · exact symBigG f c M o g cap n P A B Q z hn h mA mB sA sB nd hf ih a m b _ ha hm hb rfl (by omega) (by omega) h3
        · exact symBigGR f c M o g cap n P A B Q z hn h mA mB sA sB nd hf ih a m b _ ha hm hb rfl (by omega) (by omega) h3
end Go.Proofs.YtodnlelnpidliaaGreat
end

/- Runs of a list, each in order, that grow: plain facts. Of no program. -/
section
namespace Go.Proofs.YtodnlelnpidliaaGreat
set_option linter.unusedVariables false

def Runs (c : Int → Int → Int) (D : List Int) (s : Nat) : Prop := ∀ j, Sd c ((D.drop (j * s)).take s)
def Mix (c : Int → Int → Int) (D : List Int) (s j : Nat) : Prop := (∀ i, i < j → Sd c ((D.drop (i * (2 * s))).take (2 * s))) ∧ (∀ i, 2 * j ≤ i → Sd c ((D.drop (i * s)).take s))
def Blk (c : Int → Int → Int) (D : List Int) (k : Nat) : Prop := ∀ i, i < k → Sd c ((D.drop (i * 20)).take 20)
theorem seg_left (D M R : List Int) {a t u : Nat} (ha : a ≤ D.length) (h : t + u ≤ a) : ((D.take a ++ M ++ R).drop t).take u = (D.drop t).take u := by
  have l : (D.take a).length = a := by simp; omega
  rw [List.append_assoc, List.drop_append_of_le_length (by omega), List.take_append_of_le_length (by rw [List.length_drop]; omega)]
  rw [List.drop_take, List.take_take]
  congr 1
  omega
theorem seg_right (D M : List Int) {a b t : Nat} (hb : a + M.length = b) (hbD : b ≤ D.length) (h : b ≤ t) : (D.take a ++ M ++ D.drop b).drop t = D.drop t := by
  have l : (D.take a ++ M).length = b := by simp; omega
  rw [List.drop_append, l, List.drop_of_length_le (by omega), List.nil_append, List.drop_drop]
  congr 1
  omega
theorem seg_mid (D M R : List Int) {a : Nat} (ha : a ≤ D.length) : ((D.take a ++ M ++ R).drop a).take M.length = M := by
  have l : (D.take a).length = a := by simp; omega
  rw [List.append_assoc, List.drop_append_of_le_length (by omega), List.drop_of_length_le (by omega), List.nil_append, List.take_append_of_le_length (Nat.le_refl _), List.take_length]
theorem sd_none {c : Int → Int → Int} {D : List Int} {t u : Nat} (h : D.length ≤ t) : Sd c ((D.drop t).take u) := by
  rw [List.drop_of_length_le h]
  simp [Sd]
theorem mix_start {c : Int → Int → Int} {D : List Int} {s : Nat} (h : Runs c D s) : Mix c D s 0 := ⟨fun i hi => by omega, fun i _ => h i⟩
theorem mul_up {i j s : Nat} (h : i < j) : i * s + s ≤ j * s := by
  have := Nat.mul_le_mul_right s (show i + 1 ≤ j from h)
  rwa [Nat.succ_mul] at this
theorem mix_step {c : Int → Int → Int} {D M : List Int} {s j a b : Nat} (h : Mix c D s j) (ha : a = j * (2 * s)) (hb : b = a + 2 * s) (hbD : b ≤ D.length) (hM : M.length = 2 * s) (sM : Sd c M) : Mix c (D.take a ++ M ++ D.drop b) s (j + 1) := by
  refine ⟨fun i hi => ?_, fun i hi => ?_⟩
  · by_cases e : i = j
    · subst e
      rw [← ha, ← hM, seg_mid D M _ (by omega)]
      exact sM
    · have := mul_up (s := 2 * s) (show i < j by omega)
      rw [seg_left D M _ (by omega) (by omega)]
      exact h.1 i (by omega)
  · have := Nat.mul_le_mul_right s hi
    have e : 2 * (j + 1) * s = b := by
      rw [hb, ha]
      have h1 : 2 * (j + 1) * s = (j + 1) * (2 * s) := by rw [Nat.mul_comm 2 (j + 1), Nat.mul_assoc]
      rw [h1, Nat.succ_mul]
    rw [e] at this
    rw [seg_right D M (by omega) hbD this]
    exact h.2 i (by omega)
theorem mix_turn {c : Int → Int → Int} {D M : List Int} {s j a : Nat} (h : Mix c D s j) (ha : a = j * (2 * s)) (haD : a ≤ D.length) (hn : D.length < a + 2 * s) (hM : a + M.length = D.length) (sM : Sd c M) : Runs c (D.take a ++ M) (2 * s) := by
  intro i
  have e : D.take a ++ M = D.take a ++ M ++ [] := by simp
  have l : (D.take a ++ M).length = D.length := by simp; omega
  by_cases e1 : i = j
  · subst e1
    have q := seg_mid D M [] haD
    rw [← e] at q
    have : ((D.take a ++ M).drop (i * (2 * s))).take (2 * s) = M := by
      rw [← ha]
      have hl : ((D.take a ++ M).drop a).length = M.length := by rw [List.length_drop, l]; omega
      rw [List.take_of_length_le (by omega)]
      rw [List.take_of_length_le (by omega)] at q
      exact q
    rw [this]
    exact sM
  · rcases Nat.lt_or_ge i j with e2 | e2
    · have := mul_up (s := 2 * s) e2
      rw [e, seg_left D M [] haD (by omega)]
      exact h.1 i e2
    · have := mul_up (s := 2 * s) (show j < i by omega)
      exact sd_none (by omega)
theorem mix_rest {c : Int → Int → Int} {D : List Int} {s j a : Nat} (h : Mix c D s j) (ha : a = j * (2 * s)) (hn : D.length ≤ a + s) : Runs c D (2 * s) := by
  intro i
  rcases Nat.lt_trichotomy i j with e | e | e
  · exact h.1 i e
  · subst e
    rw [← ha]
    have h2 := h.2 (2 * i) (Nat.le_refl _)
    have e2 : 2 * i * s = a := by rw [ha, Nat.mul_comm 2 i, Nat.mul_assoc]
    rw [e2] at h2
    rw [List.take_of_length_le (by rw [List.length_drop]; omega)] at h2 ⊢
    exact h2
  · have := mul_up (s := 2 * s) e
    exact sd_none (by omega)
theorem runs_all {c : Int → Int → Int} {D : List Int} {s : Nat} (h : Runs c D s) (hs : D.length ≤ s) : Sd c D := by
  have := h 0
  rw [Nat.zero_mul, List.drop_zero, List.take_of_length_le hs] at this
  exact this
theorem blk_step {c : Int → Int → Int} {D M : List Int} {k a b : Nat} (h : Blk c D k) (ha : a = k * 20) (hb : b = a + 20) (hbD : b ≤ D.length) (hM : M.length = 20) (sM : Sd c M) : Blk c (D.take a ++ M ++ D.drop b) (k + 1) := by
  intro i hi
  by_cases e : i = k
  · subst e
    have q := seg_mid D M (D.drop b) (a := a) (by omega)
    rw [hM] at q
    rw [← ha, q]
    exact sM
  · rw [seg_left D M _ (by omega) (by omega)]
    exact h i (by omega)
theorem blk_end {c : Int → Int → Int} {D M : List Int} {k a : Nat} (h : Blk c D k) (ha : a = k * 20) (haD : a ≤ D.length) (hn : D.length < a + 20) (hM : a + M.length = D.length) (sM : Sd c M) : Runs c (D.take a ++ M) 20 := by
  intro i
  have e : D.take a ++ M = D.take a ++ M ++ [] := by simp
  have l : (D.take a ++ M).length = D.length := by simp; omega
  rcases Nat.lt_trichotomy i k with e1 | e1 | e1
  · rw [e, seg_left D M [] haD (by omega)]
    exact h i e1
  · subst e1
    have q := seg_mid D M [] haD
    rw [← e] at q
    rw [← ha]
    have hl : ((D.take a ++ M).drop a).length = M.length := by rw [List.length_drop, l]; omega
    rw [List.take_of_length_le (by omega)] at q ⊢
    rw [q]
    exact sM
  · exact sd_none (by omega)
/-- A list in four parts. -/
theorem four (D : List Int) (a m b : Nat) (h1 : a ≤ m) (h2 : m ≤ b) : D = D.take a ++ (D.drop a).take (m - a) ++ (D.drop m).take (b - m) ++ D.drop b := by
  have e1 : D.take a ++ (D.drop a).take (m - a) = D.take m := by
    rw [← List.take_add]; congr 1; omega
  have e2 : D.take m ++ (D.drop m).take (b - m) = D.take b := by
    rw [← List.take_add]; congr 1; omega
  rw [e1, e2, List.take_append_drop]
theorem sm_perm_mid {P M X Q l : List Int} (h : M.Perm X) (k : (P ++ X ++ Q).Perm l) : (P ++ M ++ Q).Perm l := ((h.append_left P).append_right Q).trans k
end Go.Proofs.YtodnlelnpidliaaGreat
end

/- slices.SortStableFunc of ints, whatever their number (up to a thousand), by any comparison that orders them strictly. -/
section
namespace Go.Proofs.YtodnlelnpidliaaGreat
open Go.RowKit
set_option linter.unusedVariables false      -- a contract need not use every name

/-- What a sort leaves: the same numbers, in order. -/
def StP (w : World) (v : Value) (l : List Int) (c : Int → Int → Int) (e : Ending) (w' : World) : Prop := e = .returned (.tuple #[]) ∧ ∃ D, IS w' v D ∧ D.Perm l ∧ Sd c D ∧ Tch (fun k => v.ownBlock = some k) w w'
/-- What lies there between two calls. -/
structure StI (w : World) (g cap n : Nat) (l D : List Int) (wr : World) : Prop where
  row : RowN wr g cap n D
  perm : D.Perm l
  tch : Tch (fun k => k = g) w wr
theorem StI.len {w wr : World} {g cap n : Nat} {l D : List Int} (h : StI w g cap n l D wr) : n = D.length := h.row.nlen
/-- One block sorted by itself. -/
theorem st_ins (f : Value) (c : Int → Int → Int) (M : Int → Prop) (o : OrdC c M) (g cap n : Nat) (l D : List Int) (w wr : World) (hn : n ≤ 1000) (h : StI w g cap n l D wr) (hM : ∀ x ∈ l, M x) (nd : l.Nodup) (hf : Cmps w f g c M) (a b : Nat) (hab : a ≤ b) (hb : b ≤ n) :
    Calls Tryz.prog 156 #[.slice (some ⟨g, 0, none⟩) n cap, .int .i64 a, .int .i64 b, f] wr fun e w' => e = .returned (.tuple #[]) ∧ ∃ S, S.length = b - a ∧ Sd c S ∧ StI w g cap n l (D.take a ++ S ++ D.drop b) w' := by
  have hl := h.len
  have hMD : ∀ x ∈ D, M x := fun x hx => hM x (h.perm.mem_iff.1 hx)
  have q := insSort f c M g cap D a b wr (by omega) hab (by omega) (by rw [← hl]; exact h.row) hMD (hf.later h.tch)
  rw [srt_part c D a b hab (by omega), ← hl] at q
  refine q.mono ?_
  rintro e w' ⟨rfl, h1, h2⟩
  have hp := sortS_perm c ((D.drop a).take (b - a))
  refine ⟨rfl, _, by rw [hp.length_eq, List.length_take, List.length_drop]; omega, ?_, ⟨h1, ?_, h.tch.trans h2⟩⟩
  · exact sortS_sorted c M (fun x y z => o.tr x y z) (fun x y => o.tot x y) _ (fun x hx => hMD x (List.mem_of_mem_drop (List.mem_of_mem_take hx))) ((nd.perm h.perm.symm).sublist ((List.take_sublist _ _).trans (List.drop_sublist _ _)))
  · refine sm_perm_mid hp ?_
    have e := four D a b b hab (Nat.le_refl _)
    rw [Nat.sub_self, List.take_zero, List.append_nil] at e
    rw [← e]
    exact h.perm
/-- Two neighbours merged. -/
theorem st_sym (f : Value) (c : Int → Int → Int) (M : Int → Prop) (o : OrdC c M) (g cap n : Nat) (l D : List Int) (w wr : World) (hn : n ≤ 1000) (h : StI w g cap n l D wr) (hM : ∀ x ∈ l, M x) (nd : l.Nodup) (hf : Cmps w f g c M) (a m b : Nat) (ham : a < m) (hmb : m < b) (hb : b ≤ n)
    (s1 : Sd c ((D.drop a).take (m - a))) (s2 : Sd c ((D.drop m).take (b - m))) :
    Calls Tryz.prog 157 #[.slice (some ⟨g, 0, none⟩) n cap, .int .i64 a, .int .i64 m, .int .i64 b, f] wr fun e w' => e = .returned (.tuple #[]) ∧ ∃ S, S.length = b - a ∧ Sd c S ∧ StI w g cap n l (D.take a ++ S ++ D.drop b) w' := by
  have hl := h.len
  have hMD : ∀ x ∈ D, M x := fun x hx => hM x (h.perm.mem_iff.1 hx)
  have e := four D a m b (by omega) (by omega)
  have l1 : ((D.drop a).take (m - a)).length = m - a := by rw [List.length_take, List.length_drop]; omega
  have l2 : ((D.drop m).take (b - m)).length = b - m := by rw [List.length_take, List.length_drop]; omega
  have ndD := nd.perm h.perm.symm
  have ndE : ((D.drop a).take (m - a) ++ (D.drop m).take (b - m)).Nodup := by
    rw [e] at ndD
    exact ndD.sublist (by rw [List.append_assoc (D.take a)]; exact (List.sublist_append_right _ _).trans (List.sublist_append_left _ _))
  refine (symAll f c M o g cap n hn _ (D.take a) _ _ (D.drop b) wr a m b (Nat.lt_succ_self _) (by omega) (by omega) (by rw [← e]; exact h.row) (fun x hx => hMD x (List.mem_of_mem_drop (List.mem_of_mem_take hx))) (fun x hx => hMD x (List.mem_of_mem_drop (List.mem_of_mem_take hx))) s1 s2 ndE (hf.later h.tch) (by rw [List.length_take]; omega) (by omega) (by omega)).mono ?_
  rintro e' w' ⟨rfl, S, h1, h2, h3, h4⟩
  refine ⟨rfl, S, by rw [h2.length_eq, List.length_append]; omega, h3, ⟨h1, ?_, h.tch.trans h4⟩⟩
  refine sm_perm_mid h2 ?_
  rw [← List.append_assoc (D.take a), ← e]
  exact h.perm
def L1 (w : World) (g cap n : Nat) (l : List Int) (c : Int → Int → Int) (a b : Nat) (wr : World) : Prop := ∃ k D, a = k * 20 ∧ b = a + 20 ∧ StI w g cap n l D wr ∧ Blk c D k
def L2 (w : World) (g cap n : Nat) (l : List Int) (c : Int → Int → Int) (s : Nat) (wr : World) : Prop := ∃ D, StI w g cap n l D wr ∧ Runs c D s
def L3 (w : World) (g cap n : Nat) (l : List Int) (c : Int → Int → Int) (s a b : Nat) (wr : World) : Prop := ∃ j D, a = j * (2 * s) ∧ b = a + 2 * s ∧ StI w g cap n l D wr ∧ Mix c D s j
set_option maxRecDepth 100000 in
set_option maxHeartbeats 8000000 in
theorem stableG (f : Value) (c : Int → Int → Int) (M : Int → Prop) (o : OrdC c M) (g cap n : Nat) (l : List Int) (w : World) (hn : n ≤ 1000) (hln : l.length = n) (h : RowN w g cap n l) (hM : ∀ x ∈ l, M x) (nd : l.Nodup) (hf : Cmps w f g c M) :
    Calls Tryz.prog 154 #[.slice (some ⟨g, 0, none⟩) n cap, .int .i64 n, f] w (StP w (.slice (some ⟨g, 0, none⟩) n cap) l c) := by
  have HI := Lib.hid (fun D wr (q : StI w g cap n l D wr) a b hab hb => st_ins f c M o g cap n l D w wr hn q hM nd hf a b hab hb)
  have HS := Lib.hid (fun D wr (q : StI w g cap n l D wr) a m b ham hmb hb s1 s2 => st_sym f c M o g cap n l D w wr hn q hM nd hf a m b ham hmb hb s1 s2)
  have H0 := Lib.hid (show L1 w g cap n l c 0 20 w from ⟨0, l, rfl, rfl, ⟨h, .refl _, Tch.refl _ _⟩, fun i hi => by omega⟩)
  obtain ⟨gf, lb, rfl, eg, hT⟩ := hf
  clear hT h hM nd hln
  go_enter Tryz.func154, Tryz.ntmps154
  go_wp2
  go_loopw [7, 8] (fun va vb wr => ∃ a b : Nat, va = .int .i64 a ∧ vb = .int .i64 b ∧ a ≤ n ∧ b ≤ n + 20 ∧ a ≤ b ∧ b ≤ a + 20 ∧ Hid (L1 w g cap n l c a b wr)) (fun va _ _ => n - (intOf va).toNat)
  case atStart => exact ⟨0, 20, rfl, rfl, Nat.zero_le _, by omega, by omega, by omega, H0⟩
  case round =>
    clear H0
    obtain ⟨a, b, rfl, rfl, han, hbn, hab, hba, HL⟩ := hrel
    obtain ⟨k, D, ea, eb, hSt, hB⟩ := HL.out
    by_cases hle : b ≤ n
    · have dle : decide ((b : Int) ≤ (n : Int)) = true := by rw [decide_eq_true_iff]; omega
      have hX := HI.out D wr hSt a b hab hle
      have HX := Lib.hid hX
      obtain ⟨b2, hb2⟩ : ∃ b2, b + 20 = b2 := ⟨_, rfl⟩
      have w1 : IntKind.i64.wrap ((b : Int) + 20) = (b2 : Int) := by rw [IntKind.wrap_i64]; omega
      have HN := Lib.hid (fun w' S (q1 : S.length = b - a) (q2 : Sd c S) (q3 : StI w g cap n l (D.take a ++ S ++ D.drop b) w') => show L1 w g cap n l c b b2 w' from
        ⟨k + 1, _, by omega, by omega, q3, blk_step hB ea eb (by rw [← hSt.len]; exact hle) (by omega) q2⟩)
      have hb2n : b2 ≤ n + 20 := by omega
      have hb2a : b < b2 := by omega
      have hb2b : b2 ≤ b + 20 := by omega
      have hab' : a < b := by omega
      clear hX HL ea eb hSt hB hb2
      go_wp2_with fail
      refine HX.out.mono ?_
      rintro e w5 ⟨rfl, S, q1, q2, q3⟩
      have HQ := Lib.hid (HN.out w5 S q1 q2 q3)
      clear q1 q2 q3 HX HN
      go_wp2
      go_roundw
      case rel => exact ⟨b, b2, rfl, by go_num, hle, hb2n, by omega, hb2b, HQ⟩
      case measure => simp [intOf]; omega
    · have dle : decide ((b : Int) ≤ (n : Int)) = false := by rw [decide_eq_false_iff_not]; omega
      have hX := HI.out D wr hSt a n han (Nat.le_refl _)
      have HX := Lib.hid hX
      have HN := Lib.hid (fun w' S (q1 : S.length = n - a) (q2 : Sd c S) (q3 : StI w g cap n l (D.take a ++ S ++ D.drop n) w') => show L2 w g cap n l c 20 w' from by
        have hd : D.drop n = [] := List.drop_of_length_le (by rw [← hSt.len]; exact Nat.le_refl _)
        rw [hd, List.append_nil] at q3
        have hl := hSt.len
        exact ⟨_, q3, blk_end hB ea (by omega) (by omega) (by omega) q2⟩)
      clear hX HL ea eb hSt hB
      go_wp2_with fail
      refine HX.out.mono ?_
      rintro e w5 ⟨rfl, S, q1, q2, q3⟩
      have HQ := Lib.hid (HN.out w5 S q1 q2 q3)
      clear q1 q2 q3 HX HN
      go_wp2
      go_loopw [6] (fun vs wr => ∃ s : Nat, vs = .int .i64 s ∧ 20 ≤ s ∧ s ≤ 2000 ∧ Hid (L2 w g cap n l c s wr)) (fun vs _ => 2000 - (intOf vs).toNat)
      case atStart => exact ⟨20, rfl, Nat.le_refl _, by omega, HQ⟩
      case round =>
        clear HQ
        generalize wr = w6 at *
        obtain ⟨s, rfl, hs0, hs1, HL⟩ := hrel
        by_cases hsn : s < n
        · have dsn : decide ((s : Int) < (n : Int)) = true := by rw [decide_eq_true_iff]; omega
          obtain ⟨s2, hs2⟩ : ∃ x, x = 2 * s := ⟨_, rfl⟩
          have w2 : IntKind.i64.wrap (2 * (s : Int)) = (s2 : Int) := by rw [IntKind.wrap_i64]; omega
          have w3 : IntKind.i64.wrap ((s : Int) * 2) = (s2 : Int) := by rw [IntKind.wrap_i64]; omega
          have hs2a : 40 ≤ s2 := by omega
          have hs2b : s2 ≤ 2000 := by omega
          have hs2c : s < s2 := by omega
          have H3 := Lib.hid (show L3 w g cap n l c s 0 s2 w6 from by
            obtain ⟨D, h1, h2⟩ := HL.out
            exact ⟨0, D, by simp, by omega, h1, mix_start h2⟩)
          have HS2 := Lib.hid hs2
          clear HL hs2
          go_wp2
          go_loopw [7, 8] (fun va vb wr => ∃ a b : Nat, va = .int .i64 a ∧ vb = .int .i64 b ∧ a ≤ n ∧ b ≤ n + s2 ∧ a < b ∧ Hid (b = a + s2) ∧ Hid (L3 w g cap n l c s a b wr)) (fun _ vb _ => 4000 - (intOf vb).toNat)
          case atStart => exact ⟨0, s2, rfl, by go_num, Nat.zero_le _, by omega, by omega, Lib.hid (by omega), H3⟩
          case round =>
            clear H3
            generalize wr = w7 at *
            obtain ⟨a, b, rfl, rfl, han, hbn, hab, HAB, HL⟩ := hrel
            obtain ⟨j, D, ea, eb, hSt, hMx⟩ := HL.out
            have eS := HS2.out
            obtain ⟨m, hm⟩ : ∃ m, a + s = m := ⟨_, rfl⟩
            have w4 : IntKind.i64.wrap ((a : Int) + (s : Int)) = (m : Int) := by rw [sum_nat a s (by omega) (by omega), hm]
            have m1 := hMx.2 (2 * j) (Nat.le_refl _)
            have m2 := hMx.2 (2 * j + 1) (by omega)
            have ej : 2 * j * s = a := by rw [ea, Nat.mul_comm 2 j, Nat.mul_assoc]
            rw [ej] at m1
            rw [Nat.succ_mul, ej, hm] at m2
            by_cases hle : b ≤ n
            · have dle : decide ((b : Int) ≤ (n : Int)) = true := by rw [decide_eq_true_iff]; omega
              have HX := Lib.hid (HS.out D w7 hSt a m b (by omega) (by omega) hle (by rw [show m - a = s by omega]; exact m1) (by rw [show b - m = s by omega]; exact m2))
              obtain ⟨b2, hb2⟩ : ∃ b2, b + s2 = b2 := ⟨_, rfl⟩
              have w5 : IntKind.i64.wrap ((b : Int) + (s2 : Int)) = (b2 : Int) := by rw [sum_nat b s2 (by omega) (by omega), hb2]
              have HN := Lib.hid (fun w' S (q1 : S.length = b - a) (q2 : Sd c S) (q3 : StI w g cap n l (D.take a ++ S ++ D.drop b) w') => show L3 w g cap n l c s b b2 w' from
                ⟨j + 1, _, by rw [Nat.succ_mul]; omega, by omega, q3, mix_step hMx ea eb (by rw [← hSt.len]; exact hle) (by omega) q2⟩)
              have hb2n : b2 ≤ n + s2 := by omega
              have hb2a : b < b2 := by omega
              have HB2 := Lib.hid hb2.symm
              clear HL ea eb hSt hMx hb2 m1 m2 ej eS hm
              go_wp2_with fail
              refine HX.out.mono ?_
              rintro e w8 ⟨rfl, S, q1, q2, q3⟩
              have HQ := Lib.hid (HN.out w8 S q1 q2 q3)
              clear q1 q2 q3 HX HN
              go_wp2
              go_roundw
              case rel => exact ⟨b, b2, rfl, by go_num, hle, hb2n, hb2a, HB2, HQ⟩
              case measure => simp [intOf]; omega
            · have dle : decide ((b : Int) ≤ (n : Int)) = false := by rw [decide_eq_false_iff_not]; omega
              have hl := hSt.len
              by_cases hmn : m < n
              · have dmn : decide ((m : Int) < (n : Int)) = true := by rw [decide_eq_true_iff]; omega
                have HX := Lib.hid (HS.out D w7 hSt a m n (by omega) hmn (Nat.le_refl _) (by rw [show m - a = s by omega]; exact m1) (by
                  rw [List.take_of_length_le (by rw [List.length_drop]; omega)] at m2 ⊢
                  exact m2))
                have HN := Lib.hid (fun w' S (q1 : S.length = n - a) (q2 : Sd c S) (q3 : StI w g cap n l (D.take a ++ S ++ D.drop n) w') => show L2 w g cap n l c s2 w' from by
                  have hd : D.drop n = [] := List.drop_of_length_le (by omega)
                  rw [hd, List.append_nil] at q3
                  rw [eS]
                  exact ⟨_, q3, mix_turn hMx ea (by omega) (by omega) (by omega) q2⟩)
                clear HL ea eb hSt hMx m1 m2 ej eS hl hm
                go_wp2_with fail
                refine HX.out.mono ?_
                rintro e w8 ⟨rfl, S, q1, q2, q3⟩
                have HQ := Lib.hid (HN.out w8 S q1 q2 q3)
                clear q1 q2 q3 HX HN
                go_wp2
                go_roundw
                case rel => exact ⟨s2, by go_num, by omega, by omega, HQ⟩
                case measure => simp [intOf]; omega
              · have dmn : decide ((m : Int) < (n : Int)) = false := by rw [decide_eq_false_iff_not]; omega
                have HQ := Lib.hid (show L2 w g cap n l c s2 w7 from by rw [eS]; exact ⟨D, hSt, mix_rest hMx ea (by omega)⟩)
                clear HL ea eb hSt hMx m1 m2 ej eS hl hm
                go_wp2
                go_roundw
                case rel => exact ⟨s2, by go_num, by omega, by omega, HQ⟩
                case measure => simp [intOf]; omega
        · have dsn : decide ((s : Int) < (n : Int)) = false := by rw [decide_eq_false_iff_not]; omega
          have HE := Lib.hid (show StP w (.slice (some ⟨g, 0, none⟩) n cap) l c (.returned (.tuple #[])) w6 from by
            obtain ⟨D, h1, h2⟩ := HL.out
            exact ⟨rfl, D, h1.row, h1.perm, runs_all h2 (by rw [← h1.len]; omega), h1.tch.mono fun i _ e => by rw [e]; rfl⟩)
          clear HL
          go_wp2
          exact bodyPost_end (results_none rfl _ _ _) rfl HE.out
theorem dStableG (f : Value) (c : Int → Int → Int) (M : Int → Prop) (o : OrdC c M) (v : Value) (l : List Int) (w : World) (gi : Nat) (hl : l.length ≤ 1000) (h : IS w v l) (hM : ∀ x ∈ l, M x) (nd : l.Nodup) (hf : Cmps w f gi c M) (hgi : ∀ g, v.ownBlock = some g → g = gi) :
    Calls Tryz.prog 147 #[v, f] w (StP w v l c) := by
  by_cases h20 : l.length ≤ 20
  · refine (stableF20 f c M v l w gi h20 h hM hf hgi).mono ?_
    rintro e w' ⟨rfl, h1, h2⟩
    exact ⟨rfl, _, h1, sortS_perm c l, sortS_sorted c M (fun x y z => o.tr x y z) (fun x y => o.tot x y) l hM nd, h2⟩
  · rcases h.form with ⟨rfl, rfl⟩ | ⟨g, cap, rfl⟩
    · simp at h20
    · obtain rfl := hgi g rfl
      have HS := Lib.hid (stableG f c M o g cap l.length l w hl rfl h hM nd hf)
      obtain ⟨gf, lb, rfl, _⟩ := hf
      clear h hM nd hgi hl h20
      generalize l.length = n at *
      go_enter Tryz.func147, Tryz.ntmps147
      go_wp2_with (go_at_call 154; refine HS.out.mono ?_; rintro e w1 ⟨rfl, hX⟩)
      exact bodyPost_end (results_none rfl _ _ _) rfl ⟨rfl, hX⟩
end Go.Proofs.YtodnlelnpidliaaGreat
end

/- The developers' package queue: turns. -/
section
namespace Go.Proofs.YtodnlelnpidliaaGreat
open Go.RowKit
set_option linter.unusedVariables false      -- a contract need not use every name

def rqAt (q : List Rq) (x : Int) : Rq := q.getD x.toNat ⟨0, 0, 0, 0, 0⟩
def tC (q : List Rq) (x y : Int) : Int := toI (rqAt q x) (rqAt q y)
def isPl (q : List Rq) (x : Int) : Prop := ∃ k : Nat, x = k ∧ k < q.length
theorem rqAt_nat (q : List Rq) (k : Nat) (hk : k < q.length) : rqAt q (k : Int) = q[k] := by unfold rqAt; simp [List.getD, hk]
/-- The places of those that wait, among the first k. -/
def wpl (q : List Rq) : Nat → List Int
  | 0 => []
  | k + 1 => if 0 < (rqAt q k).sn then wpl q k ++ [(k : Int)] else wpl q k
theorem wpl_mem (q : List Rq) (x : Int) : ∀ k, x ∈ wpl q k ↔ ∃ j : Nat, j < k ∧ x = j ∧ 0 < (rqAt q x).sn
  | 0 => by simp [wpl]
  | k + 1 => by
    unfold wpl
    split
    · rename_i h
      rw [List.mem_append, wpl_mem q x k, List.mem_singleton]
      constructor
      · rintro (⟨j, h1, h2, h3⟩ | rfl)
        · exact ⟨j, by omega, h2, h3⟩
        · exact ⟨k, by omega, rfl, h⟩
      · rintro ⟨j, h1, rfl, h3⟩
        by_cases e : j = k
        · exact .inr (by rw [e])
        · exact .inl ⟨j, by omega, rfl, h3⟩
    · rename_i h
      rw [wpl_mem q x k]
      constructor
      · rintro ⟨j, h1, h2, h3⟩; exact ⟨j, by omega, h2, h3⟩
      · rintro ⟨j, h1, rfl, h3⟩
        refine ⟨j, ?_, rfl, h3⟩
        rcases Nat.lt_or_ge j k with g | g
        · exact g
        · have : j = k := by omega
          subst this; exact absurd h3 h
theorem wpl_nodup (q : List Rq) : ∀ k, (wpl q k).Nodup
  | 0 => by simp [wpl]
  | k + 1 => by
    unfold wpl
    split
    · rw [List.nodup_append]
      refine ⟨wpl_nodup q k, by simp, fun a ha b hb => ?_⟩
      rw [List.mem_singleton] at hb
      obtain ⟨j, h1, h2, _⟩ := (wpl_mem q a k).1 ha
      omega
    · exact wpl_nodup q k
theorem wpl_len (q : List Rq) : ∀ k, (wpl q k).length ≤ k
  | 0 => by simp [wpl]
  | k + 1 => by
    unfold wpl
    have := wpl_len q k
    split <;> simp <;> omega
theorem wpl_pl (q : List Rq) : ∀ x ∈ wpl q q.length, isPl q x := fun x hx => by
  obtain ⟨j, h1, h2, _⟩ := (wpl_mem q x _).1 hx
  exact ⟨j, h2, h1⟩
set_option maxRecDepth 100000 in
set_option maxHeartbeats 2000000 in
theorem dTurns1 {w : World} {g0 p b n : Nat} {t r W : Int} {v : Value} {q : List Rq} {c : Int → Int} (h : Ln w g0 p t r W v b n q c) (pb : Nat) (hpb : w.cell? ⟨pb, 0, none⟩ = some (.pointer (some ⟨p, 0, none⟩))) (x y : Int) (hx : isPl q x) (hy : isPl q y) :
    Calls Tryz.prog 148 #[.int .i64 x, .int .i64 y, .pointer (some ⟨pb, 0, none⟩)] w fun e w' => e = .returned (.int .i64 (tC q x y)) ∧ Nw w w' := by
  obtain ⟨i, rfl, hi⟩ := hx
  obtain ⟨j, rfl, hj⟩ := hy
  have hT := dByTurn q[i] q[j]
  unfold tC
  rw [rqAt_nat q i hi, rqAt_nat q j hj]
  obtain ⟨g, cap, rfl, _, hgl, hce⟩ := RqOwn.at h.own hi
  obtain ⟨g', cap', e, _, _, hde⟩ := RqOwn.at h.own hj
  simp only [Value.slice.injEq, Option.some.injEq, Addr.mk.injEq, and_true, true_and] at e
  obtain ⟨rfl, rfl⟩ := e
  have hii : (i : Int) < (q.length : Int) := by omega
  have hjj : (j : Int) < (q.length : Int) := by omega
  have hpl := hlt h.obj
  have hpbl := World.block_lt_of_cell? _ _ hpb
  have s0 : ∀ z, Nw w z → z.cell? ⟨pb, 0, none⟩ = some (.pointer (some ⟨p, 0, none⟩)) := fun z hz => hz.kp hpb
  have s1 : ∀ z, Nw w z → z.cell? ⟨p, 2, none⟩ = some (.slice (some ⟨g, 0, none⟩) q.length cap) := fun z hz => hz.kp (hcell (j := 2) h.obj)
  obtain ⟨V, hV⟩ : ∃ V, toI q[i] q[j] = V := ⟨_, rfl⟩
  rw [hV] at hT ⊢
  generalize q[i] = R at *
  generalize q[j] = S at *
  obtain ⟨a0, a1, a2, a3, a4⟩ := R
  obtain ⟨b0, b1, b2, b3, b4⟩ := S
  have m0 : ∀ z, Nw w z → z.cell? ⟨g, i * 5, none⟩ = some (.int .i64 a0) := fun z hz => hz.kp (hce 0 _ rfl)
  have m1 : ∀ z, Nw w z → z.cell? ⟨g, i * 5 + 1, none⟩ = some (.int .i64 a1) := fun z hz => hz.kp (hce 1 _ rfl)
  have m2 : ∀ z, Nw w z → z.cell? ⟨g, i * 5 + 2, none⟩ = some (.int .i64 a2) := fun z hz => hz.kp (hce 2 _ rfl)
  have m3 : ∀ z, Nw w z → z.cell? ⟨g, i * 5 + 3, none⟩ = some (.int .i64 a3) := fun z hz => hz.kp (hce 3 _ rfl)
  have m4 : ∀ z, Nw w z → z.cell? ⟨g, i * 5 + 4, none⟩ = some (.int .i64 a4) := fun z hz => hz.kp (hce 4 _ rfl)
  have n0 : ∀ z, Nw w z → z.cell? ⟨g, j * 5, none⟩ = some (.int .i64 b0) := fun z hz => hz.kp (hde 0 _ rfl)
  have n1 : ∀ z, Nw w z → z.cell? ⟨g, j * 5 + 1, none⟩ = some (.int .i64 b1) := fun z hz => hz.kp (hde 1 _ rfl)
  have n2 : ∀ z, Nw w z → z.cell? ⟨g, j * 5 + 2, none⟩ = some (.int .i64 b2) := fun z hz => hz.kp (hde 2 _ rfl)
  have n3 : ∀ z, Nw w z → z.cell? ⟨g, j * 5 + 3, none⟩ = some (.int .i64 b3) := fun z hz => hz.kp (hde 3 _ rfl)
  have n4 : ∀ z, Nw w z → z.cell? ⟨g, j * 5 + 4, none⟩ = some (.int .i64 b4) := fun z hz => hz.kp (hde 4 _ rfl)
  unfold rqV at hT
  have HT := Lib.hid hT
  clear hT hce hde h hpb hV
  have q1 := (Nw.refl w).drewQ
  obtain ⟨wc, hwc⟩ : ∃ wc, w.drew = wc := ⟨_, rfl⟩
  go_enter Tryz.func148, Tryz.ntmps148
  go_wp2
  refine region_told [some true, some true, some true, some true, some true, some true, some true, some true, some true, some true, some true, some true, some true, some true, some true, some true, some false, none, some true] (Nw w) (by kernel_rfl) (by kernel_rfl) (by kernel_rfl) q1 ?_
  rw [hwc] at q1 ⊢
  clear hwc
  repeat (first
    | (refine HW.off ?_)
    | (refine HW.take' ?_; (apply Exists.intro; refine ⟨Or.inl ⟨by rfl, ?_⟩, ?_⟩; (intro x hx; go_simp; first | done | with_reducible rfl)); (try simp only [Act.put, List.setIfInBounds_toArray, List.set_cons_zero, List.set_cons_succ]))
    | (refine HW.go (fun K hK => ?_); go_simp; (go_at_call 133; (with_reducible refine (HT.out _).mono ?_); rintro e wy ⟨rfl, g2⟩; refine hK.out _ _ (q1.trans g2) ?_; intro _; replace q1 := q1.trans g2; clear hK K g2)))
  refine HW.end_ ?_
  refine NoPanic.normal ?_
  go_wp2
  go_ret
  exact ⟨rfl, q1⟩
theorem own_at {w : World} {v : Value} {l : List Int} (h : IS w v l) {m : Nat} (hf : ∀ g, v.ownBlock = some g → m ≤ g) : ∃ gi, (∀ g, v.ownBlock = some g → g = gi) ∧ m ≤ gi := by
  rcases h.form with ⟨rfl, _⟩ | ⟨g, cap, rfl⟩
  · exact ⟨m, fun g e => by simp [Value.ownBlock] at e, Nat.le_refl _⟩
  · exact ⟨g, fun g' e => (Option.some.inj e).symm, hf g rfl⟩
theorem e_turns1 : ∀ args w, (callFunc 148 args).run Tryz.prog w = .ok (.enter 148 args) w := enters_of Tryz.func148 (by kernel_rfl) rfl
end Go.Proofs.YtodnlelnpidliaaGreat
end

/- Plain facts: granting in the order of turns. -/
section
namespace Go.Proofs.YtodnlelnpidliaaGreat
set_option linter.unusedVariables false

theorem steps_pre {W : Int} {q q' : List Rq} {ids : List Int} (h : Steps q ids q') (h0 : Ok W q) : ids <+: (scanQ q).1 := by
  have hw := h.wtg h0
  have := h.scn h0 (wtg q')
  unfold scanQ
  rw [← hw, Nat.add_comm, this]
  exact List.prefix_append _ _
theorem steps_len {W : Int} {q q' : List Rq} {ids : List Int} (h : Steps q ids q') (h0 : Ok W q) : q'.length = q.length := by
  rw [(h.form h0).1]; simp
/-- What holds between two grants. -/
structure TInv (q q' : List Rq) (T : List Int) (i : Nat) : Prop where
  same : ∀ x ∈ T.drop i, rqAt q' x = rqAt q x
  rest : ∀ k : Nat, k < q.length → (k : Int) ∉ T.drop i → ¬ 0 < (rqAt q' k).sn
structure TOk (q : List Rq) (T : List Int) : Prop where
  sorted : T.Pairwise (fun x y => tC q x y < 0)
  mem : ∀ x, x ∈ T ↔ ∃ k : Nat, k < q.length ∧ x = k ∧ 0 < (rqAt q x).sn
  nodup : T.Nodup
theorem ti_start {q : List Rq} {T : List Int} (h : TOk q T) : TInv q q T 0 := ⟨fun _ _ => rfl, fun k hk hn hs => hn (by rw [List.drop_zero]; exact (h.mem _).2 ⟨k, hk, rfl, hs⟩)⟩
theorem tC_tr {W : Int} {q : List Rq} (h : Ok W q) (x y z : Int) (h1 : tC q x y < 0) (h2 : tC q y z < 0) : tC q x z < 0 := by
  unfold tC at *
  rw [ahead_iff] at *
  generalize rqAt q x = a at *
  generalize rqAt q y = b at *
  generalize rqAt q z = c at *
  by_cases za : a.md = 0 <;> by_cases zb : b.md = 0 <;> by_cases zc : c.md = 0 <;> simp [za, zb, zc] at h1 h2 ⊢ <;> omega
theorem tC_tot {W : Int} {q : List Rq} (h : Ok W q) (x y : Int) (hx : ∃ k : Nat, k < q.length ∧ x = k ∧ 0 < (rqAt q x).sn) (hy : ∃ k : Nat, k < q.length ∧ y = k ∧ 0 < (rqAt q y).sn) (ne : x ≠ y) : tC q x y < 0 ∨ tC q y x < 0 := by
  obtain ⟨i, hi, rfl, si⟩ := hx
  obtain ⟨j, hj, rfl, sj⟩ := hy
  unfold tC
  rw [ahead_iff, ahead_iff]
  rw [rqAt_nat q i hi] at *
  rw [rqAt_nat q j hj] at *
  have hs : q[i].sn ≠ q[j].sn := by
    intro e
    have := h.injS _ (List.getElem_mem hi) _ (List.getElem_mem hj) si e
    have hid := List.pairwise_iff_getElem.1 h.pr
    rcases Nat.lt_trichotomy i j with g | g | g
    · exact (hid i j hi hj g).id (by rw [this])
    · exact ne (by rw [g])
    · exact (hid j i hj hi g).id (by rw [this])
  by_cases za : q[i].md = 0 <;> by_cases zb : q[j].md = 0 <;> simp [za, zb] <;> omega
theorem at_drop {T : List Int} {i : Nat} (hi : i < T.length) : T.drop i = T[i] :: T.drop (i + 1) := List.drop_eq_getElem_cons hi
/-- Who is next in turn. -/
theorem turn_next {W : Int} {q q' : List Rq} {ids : List Int} {T : List Int} {i : Nat} (h : Ok W q) (hs : Steps q ids q') (hT : TOk q T) (hI : TInv q q' T i) (hi : i < T.length) :
    ∃ k : Nat, T[i] = k ∧ ∃ hk : k < q'.length, q'[k] = rqAt q k ∧ 0 < q'[k].sn ∧ (fitB (cntQ q') q'[k].md q'[k].wt = true → canG q' q'[k] = true) ∧ (fitB (cntQ q') q'[k].md q'[k].wt = false → Done q') := by
  have hm : T[i] ∈ T := List.getElem_mem hi
  obtain ⟨k, hk, e, hsn⟩ := (hT.mem _).1 hm
  have ok := hs.ok h
  have hl := steps_len hs h
  have hk' : k < q'.length := by omega
  have hd := at_drop hi
  have hsm : rqAt q' k = rqAt q k := by rw [← e]; exact hI.same _ (by rw [hd]; exact List.mem_cons_self)
  have hq' : q'[k] = rqAt q k := by rw [← rqAt_nat q' k hk']; exact hsm
  have hsn' : 0 < q'[k].sn := by rw [hq', ← e]; exact hsn
  -- all others that wait come later
  have hlate : ∀ j (hj : j < q'.length), j ≠ k → 0 < q'[j].sn → toI q'[k] q'[j] < 0 := by
    intro j hj ne hsj
    have hjm : (j : Int) ∈ T.drop i := by
      refine Classical.byContradiction fun hn => hI.rest j (by omega) hn ?_
      rw [rqAt_nat q' j hj]; exact hsj
    rw [hd] at hjm
    rcases List.mem_cons.1 hjm with q1 | q1
    · rw [e] at q1; omega
    · have hp := hT.sorted
      rw [List.pairwise_iff_getElem] at hp
      obtain ⟨m, hm1, hm2⟩ := List.getElem_of_mem q1
      simp at hm1 hm2
      have := hp i (i + 1 + m) hi (by omega) (by omega)
      rw [hm2, e] at this
      unfold tC at this
      have h2 : rqAt q' j = rqAt q j := hI.same _ (by rw [hd]; exact List.mem_cons_of_mem _ q1)
      rw [rqAt_nat q' j hj] at h2
      rw [hq', h2]
      exact this
  have hfit : fitB (cntQ q') q'[k].md q'[k].wt = true ↔ ∀ o ∈ q', o.id ≠ q'[k].id → cpI o.md q'[k].wt = true := by
    rw [fit_all q' k hk' _ (fun R hR => (ok.rt R hR).md), List.all_eq_true]
    obtain ⟨hq, hl1, hl2⟩ := ok.nth k hk'
    constructor
    · intro hf o ho ne
      rw [hq] at ho
      rcases List.mem_append.1 ho with g | g
      · exact hf o (List.mem_append_left _ g)
      · rcases List.mem_cons.1 g with rfl | g
        · exact absurd rfl ne
        · exact hf o (List.mem_append_right _ g)
    · intro hf o ho
      rcases List.mem_append.1 ho with g | g
      · exact hf o (List.mem_of_mem_take g) (hl1 o g)
      · exact hf o (List.mem_of_mem_drop g) (hl2 o g)
  have hex : fitB (cntQ q') q'[k].md q'[k].wt = false → ∃ o ∈ q', o.id ≠ q'[k].id ∧ o.md ≠ 0 ∧ cpI o.md q'[k].wt = false := by
    intro hf
    refine Classical.byContradiction fun hn => ?_
    have : fitB (cntQ q') q'[k].md q'[k].wt = true := hfit.2 fun o ho ne => by
      cases hc : cpI o.md q'[k].wt with
      | true => rfl
      | false =>
        refine absurd ⟨o, ho, ne, fun z => ?_, hc⟩ hn
        rw [z, cp_zero _ (ok.rt _ (List.getElem_mem hk')).wt] at hc
        cases hc
    rw [this] at hf; cases hf
  refine ⟨k, e, hk', hq', hsn', fun hf => ?_, fun hf => ?_⟩
  · have hf' := hfit.1 hf
    by_cases z : q'[k].md = 0
    · refine cand_wa ok hk' z (fun a ha za => ?_) (fun a ha hu => ?_) (fun o ho ne _ => hf' o ho ne)
      · obtain ⟨j, hj, rfl⟩ := List.getElem_of_mem ha
        simp at hj za
        have hp := List.pairwise_iff_getElem.1 ok.pr j k (by omega) hk' (by omega)
        have hlt := hlate j (by omega) (by omega) ((ok.rt _ (List.getElem_mem (by omega))).w' za)
        rw [ahead_iff] at hlt
        have := (hp.ord za).2
        simp [z, za] at hlt
        omega
      · obtain ⟨j, hj, rfl⟩ := List.getElem_of_mem ha
        by_cases ne : j = k
        · subst ne; exact hu.1 z
        · have hlt := hlate j hj ne hu.2
          rw [ahead_iff] at hlt
          simp [z, hu.1] at hlt
    · refine cand_up ok (List.getElem_mem hk') ⟨z, hsn'⟩ (fun a ha hu => ?_) (fun o ho ne _ => hf' o ho ne)
      obtain ⟨j, hj, rfl⟩ := List.getElem_of_mem ha
      by_cases ne : j = k
      · subst ne; exact Int.le_refl _
      · have hlt := hlate j hj ne hu.2
        rw [ahead_iff] at hlt
        simp [z, hu.1] at hlt
        omega
  · have hf' := hex hf
    by_cases z : q'[k].md = 0
    · refine done_wa ok hk' z (fun a ha za => ?_) (fun a ha hu => ?_) hf'
      · obtain ⟨j, hj, rfl⟩ := List.getElem_of_mem ha
        simp at hj za
        have hp := List.pairwise_iff_getElem.1 ok.pr j k (by omega) hk' (by omega)
        have hlt := hlate j (by omega) (by omega) ((ok.rt _ (List.getElem_mem (by omega))).w' za)
        rw [ahead_iff] at hlt
        have := (hp.ord za).2
        simp [z, za] at hlt
        omega
      · obtain ⟨j, hj, rfl⟩ := List.getElem_of_mem ha
        by_cases ne : j = k
        · subst ne; exact hu.1 z
        · have hlt := hlate j hj ne hu.2
          rw [ahead_iff] at hlt
          simp [z, hu.1] at hlt
    · refine done_up ok (List.getElem_mem hk') ⟨z, hsn'⟩ (fun a ha hu => ?_) hf'
      obtain ⟨j, hj, rfl⟩ := List.getElem_of_mem ha
      by_cases ne : j = k
      · subst ne; exact Int.le_refl _
      · have hlt := hlate j hj ne hu.2
        rw [ahead_iff] at hlt
        simp [z, hu.1] at hlt
        omega
theorem turn_step {W : Int} {q q' : List Rq} {ids : List Int} {T : List Int} {i k : Nat} (h : Ok W q) (hs : Steps q ids q') (hT : TOk q T) (hI : TInv q q' T i) (hi : i < T.length) (e : T[i] = k) (hk : k < q'.length) (hc : canG q' q'[k] = true) :
    Steps q (ids ++ [q'[k].id]) (q'.set k (grtR q'[k])) ∧ TInv q (q'.set k (grtR q'[k])) T (i + 1) := by
  have ok := hs.ok h
  have hl := steps_len hs h
  have hd := at_drop hi
  have hnd := hT.nodup
  have hnk : (k : Int) ∉ T.drop (i + 1) := by
    have : (T.drop i).Nodup := List.Sublist.nodup (List.drop_sublist _ _) hnd
    rw [hd, e] at this
    exact (List.nodup_cons.1 this).1
  have hst := hs.snoc (List.getElem_mem hk) hc
  rw [chg_set ok grtR k hk] at hst
  have hat : ∀ j : Nat, j ≠ k → rqAt (q'.set k (grtR q'[k])) j = rqAt q' j := by
    intro j ne
    unfold rqAt
    simp only [Int.toNat_natCast, List.getD]
    rw [List.getElem?_set_ne (by omega)]
  refine ⟨hst, fun x hx => ?_, fun j hj hn => ?_⟩
  · obtain ⟨j, hj, rfl, _⟩ := (hT.mem x).1 (List.mem_of_mem_drop hx)
    have ne : j ≠ k := fun q1 => hnk (by rw [← q1]; exact hx)
    rw [hat j ne]
    exact hI.same _ (by rw [hd]; exact List.mem_cons_of_mem _ hx)
  · by_cases ne : j = k
    · subst ne
      rw [rqAt_nat _ j (by simpa using hk)]
      simp [grtR]
    · rw [hat j ne]
      refine hI.rest j hj fun q1 => ?_
      rw [hd] at q1
      rcases List.mem_cons.1 q1 with q2 | q2
      · rw [e] at q2; omega
      · exact hn q2
theorem turn_end {W : Int} {q q' : List Rq} {ids : List Int} {T : List Int} {i : Nat} (h : Ok W q) (hs : Steps q ids q') (hI : TInv q q' T i) (hi : ¬ i < T.length) : Done q' := by
  have hl := steps_len hs h
  intro s hsm
  cases c : canG q' s with
  | false => rfl
  | true =>
    obtain ⟨j, hj, rfl⟩ := List.getElem_of_mem hsm
    refine absurd (can_sn c) ?_
    have := hI.rest j (by omega) (by rw [List.drop_of_length_le (by omega)]; simp)
    rwa [rqAt_nat q' j hj] at this
end Go.Proofs.YtodnlelnpidliaaGreat
end

/- The developers' package queue: the order of turns, whatever their number. -/
section
namespace Go.Proofs.YtodnlelnpidliaaGreat
open Go.RowKit
set_option linter.unusedVariables false      -- a contract need not use every name

theorem tC_asy {W : Int} {q : List Rq} (h : Ok W q) {x y : Int} (h1 : tC q x y < 0) : ¬ tC q y x < 0 := fun h2 => by
  have := tC_tr h x y x h1 h2
  unfold tC at this
  rw [ahead_iff] at this
  generalize rqAt q x = a at this
  by_cases za : a.md = 0 <;> simp [za] at this
theorem tC_ord {W : Int} {q : List Rq} (h : Ok W q) : OrdC (tC q) (fun x => ∃ k : Nat, k < q.length ∧ x = k ∧ 0 < (rqAt q x).sn) :=
  ⟨fun x y z _ _ _ => tC_tr h x y z, fun x y hx hy => tC_tot h x y hx hy, fun x y _ _ h1 => tC_asy h h1⟩
theorem turns_sorted {W : Int} {q : List Rq} {wr : World} {f v : Value} {gi : Nat} (hok : Ok W q) (hl : q.length ≤ 1000) (hI : IS wr v (wpl q q.length)) (hC : Cmps wr f gi (tC q) (isPl q)) (hgi : ∀ g, v.ownBlock = some g → g = gi) :
    Calls Tryz.prog 147 #[v, f] wr fun e w' => e = .returned (.tuple #[]) ∧ ∃ T, IS w' v T ∧ TOk q T ∧ T.length ≤ 1000 ∧ Tch (fun k => v.ownBlock = some k) wr w' := by
  have hm : ∀ x, x ∈ wpl q q.length ↔ ∃ k : Nat, k < q.length ∧ x = k ∧ 0 < (rqAt q x).sn := fun x => wpl_mem q x _
  have hwl := wpl_len q q.length
  obtain ⟨gf, lb, rfl, eg, hT⟩ := hC
  refine (dStableG _ (tC q) _ (tC_ord hok) v (wpl q q.length) wr gi (by omega) hI (fun x hx => (hm x).1 hx) (wpl_nodup q _) ⟨gf, lb, rfl, eg, fun x y w1 hx hy => hT x y w1 (wpl_pl q x ((hm x).2 hx)) (wpl_pl q y ((hm y).2 hy))⟩ hgi).mono ?_
  rintro e w' ⟨rfl, D, h1, h2, h3, h4⟩
  exact ⟨rfl, D, h1, ⟨h3, fun x => h2.mem_iff.trans (hm x), h2.nodup_iff.2 (wpl_nodup q _)⟩, by rw [h2.length_eq]; omega, h4⟩
set_option maxRecDepth 100000 in
set_option maxHeartbeats 4000000 in
theorem dTurnsG {w : World} {g0 p b n : Nat} {t r W : Int} {v : Value} {q : List Rq} {c : Int → Int} (h : Ln w g0 p t r W v b n q c) (hl : q.length ≤ 1000) (hok : Ok W q) :
    Calls Tryz.prog 135 #[.pointer (some ⟨p, 0, none⟩)] w fun e w' => ∃ v' T, e = .returned v' ∧ Nw w w' ∧ IS w' v' T ∧ TOk q T ∧ T.length ≤ 1000 ∧ ∀ g, v'.ownBlock = some g → w.heap.size ≤ g := by
  have hWt := dWaits
  have HOK := Lib.hid hok
  have hB : (w.alloc (.cells #[.pointer (some ⟨p, 0, none⟩)] 134)).cell? ⟨w.heap.size, 0, none⟩ = some (.pointer (some ⟨p, 0, none⟩)) := hcell (j := 0) (allocAt w _)
  have hN1 : Nw w (w.alloc (.cells #[.pointer (some ⟨p, 0, none⟩)] 134)) := (Nw.refl w).alloc _
  obtain ⟨w1, hw1⟩ : ∃ w1, w.alloc (.cells #[.pointer (some ⟨p, 0, none⟩)] 134) = w1 := ⟨_, rfl⟩
  have hs1 : w1.heap.size = w.heap.size + 1 := by rw [← hw1]; simp
  rw [hw1] at hB hN1
  have hL1 := h.nw hN1
  have HW1 := Lib.hid hw1
  have HL := Lib.hid (And.intro hL1 (And.intro hN1 (And.intro hs1 hB)))
  obtain ⟨a0, c0, rfl⟩ := (RqOwn.rd h.own).form
  have hp0 := hlt h.obj
  have m20 := hcell (j := 2) h.obj
  have hpb := World.block_lt_of_cell? _ _ hB
  have hB0 := hB
  clear h hw1 hL1 hs1 hN1 hok
  go_enter Tryz.func135, Tryz.ntmps135
  go_wp2
  rw [HW1.out]
  have HW := Lib.hid hWt
  clear hWt hp0 m20 HW1 hpb hB hB0
  go_loopw [3, 12] (fun x i wr => ∃ (k : Nat), k ≤ q.length ∧ i = .int .i64 k ∧ IS wr x (wpl q k) ∧ Nw w1 wr ∧ ∀ g, x.ownBlock = some g → w1.heap.size ≤ g) (fun _ i _ => q.length - (intOf i).toNat)
  case atStart => exact ⟨0, Nat.zero_le _, rfl, IS.nil _, Nw.refl _, fun g e => by simp [Value.ownBlock] at e⟩
  case round =>
    obtain ⟨k, hk, rfl, hI, hN, hfr⟩ := hrel
    by_cases hlt : k < q.length
    · obtain ⟨g, cap, e, _, hgl, hce⟩ := RqOwn.at (onw HL.out.1.own hN) hlt
      simp only [Value.slice.injEq, true_and] at e
      obtain ⟨rfl, rfl⟩ := e
      have hki : (k : Int) < (q.length : Int) := by omega
      have hstep : wpl q (k + 1) = if 0 < (q[k]).sn then wpl q k ++ [(k : Int)] else wpl q k := by
        show (if 0 < (rqAt q k).sn then wpl q k ++ [(k : Int)] else wpl q k) = _
        rw [rqAt_nat q k hlt]
      have HWk := Lib.hid (HW.out q[k])
      generalize q[k] = R at *
      obtain ⟨b0, b1, b2, b3, b4⟩ := R
      have e0 := hce 0 _ rfl
      have e1 := hce 1 _ rfl
      have e2 := hce 2 _ rfl
      have e3 := hce 3 _ rfl
      have e4 := hce 4 _ rfl
      simp only [Nat.add_zero] at e0
      have g6 : Nw wr (wr.alloc (.cells #[.int .i64 b0, .int .i64 b1, .int .i64 b2, .int .i64 b3, .int .i64 b4] 47)) := (Nw.refl wr).alloc _
      unfold rqV at HWk
      simp only at HWk hstep
      obtain ⟨w6, hw6⟩ : ∃ w6, wr.alloc (.cells #[.int .i64 b0, .int .i64 b1, .int .i64 b2, .int .i64 b3, .int .i64 b4] 47) = w6 := ⟨_, rfl⟩
      have hq6 := RqB.made wr b0 b1 b2 b3 b4 47
      rw [hw6] at g6 hq6
      obtain ⟨hlq, y0, y1, y2, y3, y4⟩ := hq6
      have HI := Lib.hid (And.intro (hI.nw g6) (And.intro (hN.trans g6) hfr))
      have HW6 := Lib.hid hw6
      clear hce hI hN hfr g6 hw6
      by_cases hs : 0 < b4
      · have ds : decide (0 < b4) = true := by simpa using hs
        rw [ds] at HWk
        rw [if_pos hs] at hstep
        have HS := Lib.hid hstep
        clear hs ds hstep
        go_wp2_with fail
        rw [HW6.out]
        go_wp2_with fail
        go_at_call 101
        refine (HWk.out _).mono ?_
        rintro e w7 ⟨rfl, g7⟩
        have hI7 := HI.out.1.nw g7
        obtain ⟨v', w8, hr, q1, q2, q3, ⟨g', cap', hv'⟩⟩ := IS.push w7 _ (wpl q k) k hI7 (by have := wpl_len q k; omega)
        have HR := Lib.hid hr
        have HE : Hid (IS w8 v' (wpl q (k + 1)) ∧ Nw w1 w8 ∧ ∀ g, v'.ownBlock = some g → w1.heap.size ≤ g) := Lib.hid ⟨by rw [HS.out]; exact q1, nw_tch (HI.out.2.1.trans g7) q2 (fun i e => HI.out.2.2 i e), fun g e => by
          rcases q3 g e with h | h
          · exact HI.out.2.2 g h
          · have := (HI.out.2.1.trans g7).sz; omega⟩
        clear hr q1 q2 q3 hI7 g7 y0 y1 y2 y3 y4 hlq e0 e1 e2 e3 e4 hv'
        go_wp2_with (at_builtin; (refine wpl_app (by rfl) (.tmp 19) (.tmp 21) 57 rfl _ _ _ _ rfl rfl HR.out ?_))
        go_roundw
        case rel => exact ⟨k + 1, by omega, by go_num, HE.out⟩
        case measure => simp [intOf]; omega
      · have ds : decide (0 < b4) = false := by simpa using hs
        rw [ds] at HWk
        rw [if_neg hs] at hstep
        have HS := Lib.hid hstep
        clear hs ds hstep
        go_wp2_with fail
        rw [HW6.out]
        go_wp2_with fail
        go_at_call 101
        refine (HWk.out _).mono ?_
        rintro e w7 ⟨rfl, g7⟩
        have HE := Lib.hid g7
        clear g7 y0 y1 y2 y3 y4 hlq e0 e1 e2 e3 e4
        go_wp2
        go_roundw
        case rel => exact ⟨k + 1, by omega, by go_num, by rw [HS.out]; exact HI.out.1.nw HE.out, HI.out.2.1.trans HE.out, HI.out.2.2⟩
        case measure => simp [intOf]; omega
    · obtain rfl : k = q.length := by omega
      obtain ⟨gi, hgi, hge⟩ := own_at hI hfr
      have hCm : Cmps wr (.func (.func 148) #[] #[.pointer (some ⟨w.heap.size, 0, none⟩)]) gi (tC q) (isPl q) :=
        ⟨_, _, rfl, e_turns1, fun x y w2 hx hy hT => by
          have hN2 := nw_tch hN hT (fun i e => by subst e; exact hge)
          exact dTurns1 (HL.out.1.nw hN2) w.heap.size (hN2.kp HL.out.2.2.2) x y hx hy⟩
      have HS := Lib.hid (turns_sorted HOK.out hl hI hCm hgi)
      have HE := Lib.hid (And.intro hN hfr)
      clear hI hN hfr hgi hge hCm
      go_wp2_with (go_at_call 147; refine HS.out.mono ?_; rintro e w9 ⟨rfl, T9, hI9, hO9, hL9, hT9⟩)
      go_ret
      exact ⟨_, T9, rfl, HL.out.2.1.trans (nw_tch HE.out.1 hT9 (fun i e => HE.out.2 i e)), hI9, hO9, hL9, fun g e => by have := HE.out.2 g e; have := HL.out.2.2.1; omega⟩
end Go.Proofs.YtodnlelnpidliaaGreat
end

/- AppendSeq, Collect of ints. -/
section
namespace Go.Proofs.YtodnlelnpidliaaGreat
open Go.RowKit Go.Shelf
attribute [local go_sem] Oper.semAt_some

theorem cell_isCells {w : World} {a : Addr} {v : Value} (h : w.cell? a = some v) : ∃ o : Obj, w.heap[a.block]? = some o ∧ o.isCells = true := by
  unfold World.cell? at h
  cases ho : w.heap[a.block]? with
  | none => simp [ho] at h
  | some o => exact ⟨o, rfl, by cases o <;> simp_all [Obj.isCells]⟩
theorem Ch'.same {n₀ : Nat} {S : Nat → Prop} {A B : World} {a : Addr} {v : Value} (h : Ch' n₀ S A B) (hc : A.cell? a = some v) (hn : ¬ S a.block) : B.heap[a.block]? = A.heap[a.block]? := by
  obtain ⟨o, ho, hco⟩ := cell_isCells hc
  rcases h.block a.block (Array.getElem?_eq_some_iff.1 ho).1 hn with e | ⟨_, o', ho', hc'⟩
  · exact e
  · rw [ho] at ho'; cases ho'; rw [hco] at hc'; cases hc'
theorem SeqH.later {F : Fence} {n : Nat} {P : Program} {g : Nat} {fa lb : Array Value} {xs : List Int} {S0 : Nat → Prop} {End : World → Prop} {w w' : World} (h : SeqH F n P g fa lb xs S0 End w) (k : Nw w w') : SeqH F n P g fa lb xs S0 End w' :=
  fun l J Jx W hW => h l J Jx W (k.trans hW)
theorem wpListIn_append_run {F : Fence} {n : Nat} {P : Program} {w : World} {ops : Array Oper} {rest : List Oper} {o : Oper} {a : Act} {Q : Exit → Act → World → Prop}
    (hg : o.guard = none) (s x : Operand) (t : TypeId) (hop : o.op = Op.call { callee := Callee.builtin Builtin.append, args := #[s, x], argTypes := #[t, t] })
    (v u v' : Value) (w' : World) (hs : a.eval s = v) (hx : a.eval x = u) (hr : (Builtin.append_ #[t, t] o.type #[v, u]).run P w = .ok v' w') (h : wpListIn F n P ops Q rest (a.put o.dst v') w') : wpListIn F n P ops Q (o :: rest) a w := by
  refine wpListIn_plain hg fun K hK' => ?_
  unfold Oper.wpIn
  refine ⟨?_, ?_⟩
  · simp [Oper.about, hop, resolve, Target.leads, Sem.run_pure]
  · rw [Oper.semAt_plain F _ _ (by rw [hop]; intro c hc'; cases hc')]
    simp [execOp, hop, resolve, invoke, builtin, hs, hx, hr, Result.andThen]
    exact hK' _ _ h
theorem keepsD {a n₀ : Nat} {A B : World} (h : KeepsFrom a A B) (k : a ≤ n₀) (hn : ∀ k, (k = n₀ ∨ k = n₀ + 1) → ∃ o, A.heap[k]? = some o ∧ o.isCells = false) : KpD n₀ A B := fun i hi => by
  obtain ⟨o, ho, hc⟩ := hn i hi
  exact (h.same i o (by omega) ho hc).trans ho.symm
/-- What AppendSeq holds between two rounds. -/
def AsI (w : World) (S0 : Nat → Prop) (S : Nat → Prop) (pre : List Int) (A : World) : Prop :=
  ∃ v, A.cell? ⟨w.heap.size, 0, none⟩ = some v ∧ A.frozen? ⟨w.heap.size, 0, none⟩ = false ∧ IS A v pre ∧ (∀ k, v.ownBlock = some k → w.heap.size < k ∧ ¬ S k) ∧ ¬ S w.heap.size ∧ (∀ k, S k → S0 k ∨ w.heap.size ≤ k) ∧ Tch S0 w A
theorem AsI.step {w : World} {n₀ : Nat} {S0 S S' : Nat → Prop} {pre : List Int} {A B : World} (hn : w.heap.size ≤ n₀) (h : AsI w S0 S pre A) (k : Ch' n₀ S A B) (_h1 : ∀ k, S k → S' k) (h2 : ∀ k, S' k → S k ∨ A.heap.size ≤ k) : AsI w S0 S' pre B := by
  obtain ⟨v, a0, af, a1, a2, a3, a4, a5⟩ := h
  have e := k.same a0 a3
  refine ⟨v, (World.cell?_of_block e).trans a0, (World.frozen?_of_block e).trans af, k.row a1 (fun g e => (a2 g e).2), fun g e => ⟨(a2 g e).1, fun hs => ?_⟩, fun hs => ?_, fun i hs => ?_, k.tch a5 hn (fun i hi hs => (a4 i hs).resolve_right (by omega))⟩
  · rcases h2 g hs with h | h
    · exact (a2 g e).2 h
    · have := a1.lt e; omega
  · rcases h2 _ hs with h | h
    · exact a3 h
    · have := World.block_lt_of_cell? _ _ a0; simp only at this; omega
  · rcases h2 i hs with h | h
    · exact a4 i h
    · exact .inr (Nat.le_trans a5.size h)
/-- An append in a round. -/
theorem AsI.push {w : World} {S0 S : Nat → Prop} {pre : List Int} {x : Int} {A w1 : World} {v v' : Value} (a0 : A.cell? ⟨w.heap.size, 0, none⟩ = some v) (af : A.frozen? ⟨w.heap.size, 0, none⟩ = false) (a1 : IS A v pre) (a2 : ∀ k, v.ownBlock = some k → w.heap.size < k ∧ ¬ S k) (a3 : ¬ S w.heap.size) (a4 : ∀ k, S k → S0 k ∨ w.heap.size ≤ k) (a5 : Tch S0 w A)
    (hex : ∀ k, S k → k < A.heap.size) (p1 : IS w1 v' (pre ++ [x])) (p2 : Tch (fun k => v.ownBlock = some k) A w1) (p3 : ∀ k, v'.ownBlock = some k → v.ownBlock = some k ∨ A.heap.size ≤ k) :
    w1.cell? ⟨w.heap.size, 0, none⟩ = some v ∧ w1.frozen? ⟨w.heap.size, 0, none⟩ = false ∧ AsI w S0 S (pre ++ [x]) (w1.setCell ⟨w.heap.size, 0, none⟩ v') ∧ KpS S A (w1.setCell ⟨w.heap.size, 0, none⟩ v') ∧ KeepsFrom w.heap.size A (w1.setCell ⟨w.heap.size, 0, none⟩ v') := by
  have hbl := World.block_lt_of_cell? _ _ a0
  simp only at hbl
  have hnv : v.ownBlock ≠ some w.heap.size := fun e => by have := (a2 _ e).1; omega
  have c1 : w1.cell? ⟨w.heap.size, 0, none⟩ = some v := (p2.cell hbl hnv).trans a0
  have f1 : w1.frozen? ⟨w.heap.size, 0, none⟩ = false := (p2.froz hbl hnv).trans af
  have p4 : Tch (fun k => v.ownBlock = some k ∨ k = w.heap.size) A (w1.setCell ⟨w.heap.size, 0, none⟩ v') := (p2.mono (fun _ _ e => .inl e)).set (p := ⟨w.heap.size, 0, none⟩) (.inl (.inr rfl)) v'
  have hne : ∀ k, v'.ownBlock = some k → k ≠ w.heap.size := fun k e q => by
    rcases p3 k e with h | h
    · have := (a2 k h).1; omega
    · omega
  have hI : IS (w1.setCell ⟨w.heap.size, 0, none⟩ v') v' (pre ++ [x]) := p1.tch (setCell_at w1 ⟨w.heap.size, 0, none⟩ v') (fun g e q => hne g e q)
  refine ⟨c1, f1, ⟨v', ?_, ?_, hI, fun k e => ?_, a3, a4, a5.trans' p4 fun i hi e => ?_⟩, KpS.tch p4 fun k e => ⟨hex k e, fun q => ?_⟩, ⟨p4.size, fun k o hk h0 ho => ?_⟩⟩
  · exact World.cell?_setCell_same _ _ _ c1
  · rw [World.frozen?_setCell]; exact f1
  · rcases p3 k e with h | h
    · exact a2 k h
    · exact ⟨by omega, fun q => by have := hex k q; omega⟩
  · rcases e with e | rfl
    · have := (a2 i e).1; omega
    · omega
  · rcases q with q | rfl
    · exact (a2 k q).2 e
    · exact a3 e
  · refine (p4.block k (Array.getElem?_eq_some_iff.1 h0).1 ?_).trans h0
    rintro (e | rfl)
    · rcases a1.form with ⟨rfl, _⟩ | ⟨g, cap, rfl⟩
      · simp [Value.ownBlock] at e
      · rcases a1.2 with ⟨h', _⟩ | ⟨g2, cap2, cur, h', _, hg, _⟩
        · simp at h'
        · simp only [Value.slice.injEq, Option.some.injEq, Addr.mk.injEq, and_true, true_and] at h'
          obtain ⟨rfl, rfl⟩ := h'
          simp [Value.ownBlock] at e
          subst e
          rw [h0] at hg; cases hg; cases ho
    · obtain ⟨o', ho', hc'⟩ := cell_isCells a0
      rw [h0] at ho'; cases ho'; rw [ho] at hc'; cases hc'
def AsPost (w : World) (S0 : Nat → Prop) (End : World → Prop) (xs : List Int) (e : Ending) (W : World) : Prop :=
  ∃ v, e = .returned v ∧ IS W v xs ∧ (∀ k, v.ownBlock = some k → w.heap.size ≤ k) ∧ End W ∧ Tch S0 w W
set_option maxRecDepth 100000 in
set_option maxHeartbeats 4000000 in
theorem appendSeq_in (n : Nat) (hn : 3 ≤ n) (gf : Nat) (fa lb : Array Value) (eg : ∀ args w, (callFunc gf args).run Tryz.prog w = .ok (.enter gf args) w) (xs : List Int) (S0 : Nat → Prop) (End : World → Prop) (w : World) (hsm : xs.length ≤ 100000)
    (hS0 : ∀ k, S0 k → k < w.heap.size) (hseq : SeqH Fence.wide (n - 1) Tryz.prog gf fa lb xs S0 End w) (hEnd : ∀ (A : World) (l : Nat) (o o' : Obj), w.heap.size ≤ l → A.heap[l]? = some o → o.isCells = false → End A → End (A.putObj l o')) :
    CallsIn Fence.wide n Tryz.prog 134 #[.slice none 0 0, .func (.func gf) fa lb] w (AsPost w S0 End xs) := by
  have h1 : 1 ≤ n := by omega
  refine callsIn_of_wp_marks Tryz.func134 rfl trivial ?_ rfl
  simp only [Tryz.ntmps134, List.size_toArray, List.length_cons, List.length_nil, Nat.reduceAdd, Nat.reduceSub, Array.replicate_succ, Array.replicate_zero, List.push_toArray, List.append_toArray, List.nil_append, List.cons_append]
  gi_wp2
  have hA0 : AsI w S0 S0 [] (w.alloc (.cells #[.slice none 0 0] 57)) :=
    ⟨.slice none 0 0, by simp [go_sem], by simp [go_sem], World.ownsRow_nil _ _ _ _, fun k e => by simp [Value.ownBlock] at e, fun e => by have := hS0 _ e; omega, fun k e => .inl e, (Tch.refl _ _).alloc _⟩
  have hsz : (w.alloc (.cells #[.slice none 0 0] 57)).heap.size = w.heap.size + 1 := by simp
  have hnw : Nw w (w.alloc (.cells #[.slice none 0 0] 57)) := (Nw.refl w).alloc _
  obtain ⟨W0, hW0⟩ : ∃ W0, w.alloc (.cells #[.slice none 0 0] 57) = W0 := ⟨_, rfl⟩
  rw [hW0] at hA0 hsz hnw ⊢
  clear hW0
  refine rf_law rfl h1 (gf := gf) (fa := fa) (lb := lb) rfl trivial eg (S0 := S0) (End := End) (xs := xs) (fun k e => by have := hS0 k e; omega) (hseq.later hnw) rfl (fun A l o o' hl => hEnd A l o o' (by omega))
    (AsI w S0) (fun _ _ _ _ => False) (fun S S' pre A B hi hc e1 e2 _ => hi.step (by omega) hc e1 e2) (fun _ _ _ _ _ _ h _ _ _ _ => h) hA0
    (fun x => { tmps := #[.slice none 0 0, .func (.func gf) fa lb, .pointer (some ⟨w.heap.size, 0, none⟩), undef, .slice none 0 0, .int .i64 x, .func (.func gf) fa lb, .int .i64 x, undef, undef, undef, undef, undef], defers := [] }) ?assign ?body ?done ?stop
  case assign =>
    intro l x A K hK
    gi_wp2
    exact hK
  case body =>
    intro l S pre x A hi hsub hex hnc hpre
    obtain ⟨v, a0, af, a1, a2, a3, a4, a5⟩ := hi
    have hln : pre.length + 1 ≤ xs.length := by have := hpre.length_le; simpa using this
    obtain ⟨v', w1, hr, q1, q2, q3, ⟨g', cap', hv'⟩⟩ := IS.push A v pre x a1 (by omega)
    have HR := Lib.hid hr
    have HE0 := AsI.push a0 af a1 a2 a3 a4 a5 hex q1 q2 q3
    have hlt := World.block_lt_of_cell? _ _ a0
    have hf := a1.form
    have HN := Lib.hid hnc
    have c1 := HE0.1
    have f1 := HE0.2.1
    have HE := Lib.hid HE0.2.2
    have hlt1 := World.block_lt_of_cell? _ _ c1
    subst hv'
    clear hr q1 q2 q3 af a1 a2 a3 a4 a5 hex hsub hnc hpre hseq hEnd hA0 HE0
    have HSZ := Lib.hid hsz
    clear hsz
    rcases hf with ⟨rfl, hp0⟩ | ⟨g, cap, rfl⟩
    all_goals
      try clear hp0
      gi_wp2_with (gi_at_builtin; refine wpListIn_append_run rfl (.tmp 8) (.tmp 10) 57 rfl _ _ _ _ rfl rfl HR.out ?_)
      exact ⟨keepsD HE.out.2.2 (by have := HSZ.out; omega) (fun k e => (HN.out k e).2), HE.out.2.1, HE.out.1⟩
  case done =>
    intro D S W hD _ hi hE hK
    obtain ⟨v, a0, af, a1, a2, a3, a4, a5⟩ := hi
    have hlt := World.block_lt_of_cell? _ _ a0
    have HE : Hid (AsPost w S0 End xs (.returned v) (W.putObj D (.deferred none))) := by
      have hc : Ch' D (fun _ => False) W (W.putObj D (.deferred none)) := Ch'.put _ (.inl rfl) hK rfl
      exact ⟨v, rfl, hc.row a1 (fun _ _ e => e), fun k e => Nat.le_of_lt (a2 k e).1, hEnd W D _ _ (by omega) hK rfl hE, hc.tch a5 (by omega) (fun _ _ e => e.elim)⟩
    have hf := a1.form
    clear hseq hEnd hA0 a1 a2 a3 a4 a5 hE hS0 hD
    have HSZ := Lib.hid hsz
    clear hsz
    rcases hf with ⟨rfl, hp0⟩ | ⟨g, cap, rfl⟩
    all_goals
      try clear hp0
      gi_wp2
      refine ⟨by simp, .inl ⟨_, _, rfl, run_takeDeferred hK, ?_⟩⟩
      exact ⟨_, results_tmp (t := 4) rfl _ _ _, HE.out⟩
  case stop =>
    intro D c S pre W _ _ h _
    exact h.elim
theorem collect_any (gf : Nat) (fa lb : Array Value) (eg : ∀ args w, (callFunc gf args).run Tryz.prog w = .ok (.enter gf args) w) (xs : List Int) (S0 : Nat → Prop) (End : World → Prop) (w : World) (hsm : xs.length ≤ 100000)
    (hS0 : ∀ k, S0 k → k < w.heap.size) (hseq : SeqH Fence.wide 4 Tryz.prog gf fa lb xs S0 End w) (hEnd : ∀ (A : World) (l : Nat) (o o' : Obj), w.heap.size ≤ l → A.heap[l]? = some o → o.isCells = false → End A → End (A.putObj l o')) :
    Calls Tryz.prog 124 #[.func (.func gf) fa lb] w (AsPost w S0 End xs) := by
  have H := Lib.hid (callsIn_wide.1 (appendSeq_in 5 (by omega) gf fa lb eg xs S0 End w hsm hS0 hseq hEnd))
  clear hseq hEnd hS0
  go_enter Tryz.func124, Tryz.ntmps124
  go_wp2_with fail
  refine H.out.mono ?_
  rintro e w1 h
  obtain ⟨v, rfl, h⟩ := h
  have HP := Lib.hid h
  clear h
  go_wp2
  go_ret
  exact ⟨v, rfl, HP.out⟩
end Go.Proofs.YtodnlelnpidliaaGreat
end

/- The developers' package queue: grants, an iterator; Scan. -/
section
namespace Go.Proofs.YtodnlelnpidliaaGreat
open Go.RowKit Go.Shelf Go.Maps Go.ChangeMaps
attribute [local go_sem] Oper.semAt_some
set_option linter.unusedVariables false

theorem e_grants : ∀ args w, (callFunc 125 args).run Tryz.prog w = .ok (.enter 125 args) w := enters_of Tryz.func125 (by kernel_rfl) rfl
theorem rq_int_ne : 47 ≠ 3 := by decide
def SL (p b : Nat) (v : Value) : Nat → Prop := fun k => k = p ∨ k = b ∨ v.ownBlock = some k
theorem Ln.bound {w : World} {g0 p : Nat} {t r W : Int} {v : Value} {b n : Nat} {q : List Rq} {c : Int → Int} (h : Ln w g0 p t r W v b n q c) : ∀ k, SL p b v k → k < w.heap.size := by
  rintro k (rfl | rfl | e)
  · exact hlt h.obj
  · exact h.map.lt
  · exact olt h.own e
theorem Ln.kps {S : Nat → Prop} {A B : World} {g0 p : Nat} {t r W : Int} {v : Value} {b n : Nat} {q : List Rq} {c : Int → Int} (h : Ln A g0 p t r W v b n q c) (k : KpS S A B) (hS : ∀ i, SL p b v i → S i) : Ln B g0 p t r W v b n q c := by
  refine ⟨(k.same p (hS p (.inl rfl))).trans h.obj, ?_, ?_, h.gp, h.gb⟩
  · refine ⟨h.own.1, ?_⟩
    rcases h.own.2 with e | ⟨g, cap, cur, rfl, hb, hg, rest⟩
    · exact .inl e
    · exact .inr ⟨g, cap, cur, rfl, hb, (k.same g (hS g (.inr (.inr rfl)))).trans hg, rest⟩
  · obtain ⟨D, ⟨es, cl, hb, F, hs, hD⟩, h2, h3⟩ := h.map
    exact ⟨D, ⟨es, cl, (k.same b (hS b (.inr (.inl rfl)))).trans hb, F, hs, hD⟩, h2, h3⟩
theorem IS.kps {S : Nat → Prop} {A B : World} {v : Value} {l : List Int} (h : IS A v l) (k : KpS S A B) (hS : ∀ g, v.ownBlock = some g → S g) : IS B v l := by
  refine ⟨h.1, ?_⟩
  rcases h.2 with e | ⟨g, cap, cur, rfl, hb, hg, rest⟩
  · exact .inl e
  · exact .inr ⟨g, cap, cur, rfl, hb, (k.same g (hS g rfl)).trans hg, rest⟩
/-- What holds between two grants. -/
structure GrI (J : (Nat → Prop) → List Int → World → Prop) (S : Nat → Prop) (g0 p : Nat) (t r W : Int) (v : Value) (b n : Nat) (q : List Rq) (T : List Int) (vt : Value) (i : Nat) (pre : List Int) (q' : List Rq) (wr : World) : Prop where
  j : J S pre wr
  bd : ∀ k, S k → k < wr.heap.size
  row : IS wr vt T
  st : Steps q pre q'
  ti : TInv q q' T i
  ln : ∃ n', n' ≤ n + 2 * i ∧ Ln wr g0 p t r W v b n' q' (cntQ q')
def EndL (g0 p : Nat) (t r W : Int) (v : Value) (b : Nat) (q : List Rq) (w : World) : Prop := ∃ n', Ln w g0 p t r W v b n' q (cntQ q)
theorem is_fill {w : World} {v : Value} {l : List Int} {rb : Nat} (h : IS w v l) (hb : ∀ g, v.ownBlock = some g → g ≠ rb) (u0 u1 u2 u3 : Value) : IS ((((w.setCell ⟨rb, 0, none⟩ u0).setCell ⟨rb, 1, none⟩ u1).setCell ⟨rb, 2, none⟩ u2).setCell ⟨rb, 3, none⟩ u3) v l :=
  (((h.tch (setCell_at w ⟨rb, 0, none⟩ u0) hb).tch (setCell_at _ ⟨rb, 1, none⟩ u1) hb).tch (setCell_at _ ⟨rb, 2, none⟩ u2) hb).tch (setCell_at _ ⟨rb, 3, none⟩ u3) hb
theorem endl_put {g0 p : Nat} {t r W : Int} {v : Value} {b : Nat} {q : List Rq} {m : Nat} (hb : ∀ k, SL p b v k → k < m) (A : World) (l : Nat) (o o' : Obj) (hl : m ≤ l) (h : EndL g0 p t r W v b q A) : EndL g0 p t r W v b q (A.putObj l o') := by
  obtain ⟨n', h⟩ := h
  refine ⟨n', h.kps (S := SL p b v) ⟨by simp, fun k e => ?_⟩ (fun _ e => e)⟩
  exact World.putObj_heap_other (fun e2 => by have := hb k e; omega)
end Go.Proofs.YtodnlelnpidliaaGreat
end
