/- Contracts of package name, third part: Compare (with cmp.Compare, cmp.Or), slices.Index and Contains over names, Under. -/
import Derived.Test.YtdcjhjmbfpkigaaDoorNameB
import Derived.LoopTactic
import Derived.WalkSpells
namespace Go.Proofs.YtdcjhjmbfpkigaaDoor
open Go.ChangeShapes Go.WideShapes Go.ChangeAt Go.RowKit

/-- -1, 0 or 1. -/
def c3 (a b : Int) : Int := if a < b then -1 else if b < a then 1 else 0
theorem c3_lt (a b : Int) (h : a < b) : c3 a b = -1 := if_pos h
theorem c3_gt (a b : Int) (h : b < a) : c3 a b = 1 := by unfold c3; rw [if_neg (by omega), if_pos h]
theorem c3_eq (a : Int) : c3 a a = 0 := by unfold c3; simp
theorem isNaN_any (a : Int) (w : World) : Calls Tryd.prog 49 #[.int .i64 a] w fun e w' => e = .returned (.bool false) ∧ w = w' := by
  go_enter Tryd.func49, Tryd.ntmps49
  go_wp2
  go_ret
  exact ⟨rfl, rfl⟩
theorem cmpInt_any (a b : Int) (w : World) : Calls Tryd.prog 42 #[.int .i64 a, .int .i64 b] w fun e w' => e = .returned (.int .i64 (c3 a b)) ∧ w = w' := by
  rcases Int.lt_trichotomy a b with h | h | h
  · rw [c3_lt a b h]
    have hd : decide (a < b) = true := by simpa using h
    go_enter Tryd.func42, Tryd.ntmps42
    go_wp2_with (go_at_call 49; refine (isNaN_any _ _).mono ?_; rintro e w' ⟨rfl, rfl⟩)
    go_ret
    exact ⟨rfl, rfl⟩
  · subst h
    rw [c3_eq a]
    go_enter Tryd.func42, Tryd.ntmps42
    go_wp2_with (go_at_call 49; refine (isNaN_any _ _).mono ?_; rintro e w' ⟨rfl, rfl⟩)
    go_ret
    exact ⟨rfl, rfl⟩
  · rw [c3_gt a b h]
    have hd : decide (a < b) = false := by simp; omega
    have hd2 : decide (b < a) = true := by simpa using h
    go_enter Tryd.func42, Tryd.ntmps42
    go_wp2_with (go_at_call 49; refine (isNaN_any _ _).mono ?_; rintro e w' ⟨rfl, rfl⟩)
    go_ret
    exact ⟨rfl, rfl⟩

def or2 (x y : Int) : Int := if x = 0 then y else x
theorem or_two (b : Nat) (x y : Int) (w : World) (h0 : w.cell? ⟨b, 0, none⟩ = some (.int .i64 x)) (h1 : w.cell? ⟨b, 1, none⟩ = some (.int .i64 y)) :
    Calls Tryd.prog 41 #[.slice (some ⟨b, 0, none⟩) 2 2] w fun e w' => e = .returned (.int .i64 (or2 x y)) ∧ w = w' := by
  by_cases hx : x = 0
  · subst hx
    by_cases hy : y = 0
    · subst hy
      go_enter Tryd.func41, Tryd.ntmps41
      go_wp2
      refine wp_loop_rounds 3 ?_
      rw [rounds_succ]
      go_wp2
      rw [rounds_succ]
      go_wp2
      rw [rounds_succ]
      go_wp2
      go_ret
      exact ⟨rfl, rfl⟩
    · have hy' : (y == 0) = false := by simpa using hy
      have hy2 : (y != 0) = true := by simpa using hy
      go_enter Tryd.func41, Tryd.ntmps41
      go_wp2
      refine wp_loop_rounds 3 ?_
      rw [rounds_succ]
      go_wp2
      rw [rounds_succ]
      go_wp2
      go_ret
      exact ⟨rfl, rfl⟩
  · have hx' : (x == 0) = false := by simpa using hx
    have hx2 : (x != 0) = true := by simpa using hx
    have e : or2 x y = x := if_neg hx
    rw [e]
    clear hx e
    go_enter Tryd.func41, Tryd.ntmps41
    go_wp2
    refine wp_loop_rounds 3 ?_
    rw [rounds_succ]
    go_wp2
    go_ret
    exact ⟨rfl, rfl⟩

/-- Two boxes of names lie in the first two new blocks. -/
theorem boxes_start (w : World) (t r t' r' : Int) (ty : TypeId) :
    (((w.alloc (.cells #[.int .i64 t, .int .i64 r] ty)).alloc (.cells #[.int .i64 t', .int .i64 r'] ty)).drew.cell? ⟨w.heap.size, 0, none⟩ = some (.int .i64 t) ∧ ((w.alloc (.cells #[.int .i64 t, .int .i64 r] ty)).alloc (.cells #[.int .i64 t', .int .i64 r'] ty)).drew.cell? ⟨w.heap.size, 1, none⟩ = some (.int .i64 r) ∧ ((w.alloc (.cells #[.int .i64 t, .int .i64 r] ty)).alloc (.cells #[.int .i64 t', .int .i64 r'] ty)).drew.cell? ⟨w.heap.size + 1, 0, none⟩ = some (.int .i64 t') ∧ ((w.alloc (.cells #[.int .i64 t, .int .i64 r] ty)).alloc (.cells #[.int .i64 t', .int .i64 r'] ty)).drew.cell? ⟨w.heap.size + 1, 1, none⟩ = some (.int .i64 r')) ∧ (w.heap.size + 1 < ((w.alloc (.cells #[.int .i64 t, .int .i64 r] ty)).alloc (.cells #[.int .i64 t', .int .i64 r'] ty)).drew.heap.size ∧ Nw w ((w.alloc (.cells #[.int .i64 t, .int .i64 r] ty)).alloc (.cells #[.int .i64 t', .int .i64 r'] ty)).drew) := by
  have h := box_start' w t r ty
  have hz : (w.alloc (.cells #[.int .i64 t, .int .i64 r] ty)).heap.size = w.heap.size + 1 := by show (w.heap.push _).size = _; simp
  have k := box_start' (w.alloc (.cells #[.int .i64 t, .int .i64 r] ty)) t' r' ty
  rw [hz] at k
  have g : Nw (w.alloc (.cells #[.int .i64 t, .int .i64 r] ty)) ((w.alloc (.cells #[.int .i64 t, .int .i64 r] ty)).alloc (.cells #[.int .i64 t', .int .i64 r'] ty)) := (Nw.refl _).alloc _
  have h2 := box_step g h
  exact ⟨⟨h2.1, h2.2.1, k.1, k.2.1⟩, k.2.2.1, h2.2.2.2.drew1⟩
theorem boxes_step {w a b : World} {t r t' r' : Int} (g : Nw a b)
    (h : (a.cell? ⟨w.heap.size, 0, none⟩ = some (.int .i64 t) ∧ a.cell? ⟨w.heap.size, 1, none⟩ = some (.int .i64 r) ∧ a.cell? ⟨w.heap.size + 1, 0, none⟩ = some (.int .i64 t') ∧ a.cell? ⟨w.heap.size + 1, 1, none⟩ = some (.int .i64 r')) ∧ (w.heap.size + 1 < a.heap.size ∧ Nw w a)) :
    (b.cell? ⟨w.heap.size, 0, none⟩ = some (.int .i64 t) ∧ b.cell? ⟨w.heap.size, 1, none⟩ = some (.int .i64 r) ∧ b.cell? ⟨w.heap.size + 1, 0, none⟩ = some (.int .i64 t') ∧ b.cell? ⟨w.heap.size + 1, 1, none⟩ = some (.int .i64 r')) ∧ (w.heap.size + 1 < b.heap.size ∧ Nw w b) := by
  obtain ⟨⟨h0, h1, h2, h3⟩, hs, hn⟩ := h
  exact ⟨⟨(g.cell (by omega)).trans h0, (g.cell (by omega)).trans h1, (g.cell hs).trans h2, (g.cell hs).trans h3⟩, Nat.lt_of_lt_of_le hs g.sz, hn.trans g⟩

theorem compare_any (t r t' r' : Int) (w : World) :
    Calls Tryd.prog 21 #[.agg #[.int .i64 t, .int .i64 r], .agg #[.int .i64 t', .int .i64 r']] w fun e w' => e = .returned (.int .i64 (or2 (c3 t t') (c3 r r'))) ∧ Nw w w' := by
  go_enter Tryd.func21, Tryd.ntmps21
  go_wp2
  go_region_held3 (fun w' => (w'.cell? ⟨w.heap.size, 0, none⟩ = some (.int .i64 t) ∧ w'.cell? ⟨w.heap.size, 1, none⟩ = some (.int .i64 r) ∧ w'.cell? ⟨w.heap.size + 1, 0, none⟩ = some (.int .i64 t') ∧ w'.cell? ⟨w.heap.size + 1, 1, none⟩ = some (.int .i64 r')) ∧ (w.heap.size + 1 < w'.heap.size ∧ Nw w w')) (first | assumption | exact boxes_start w t r t' r' _ | exact boxes_step (by assumption) (by assumption) | exact boxes_step ((Nw.refl _).alloc _) (by assumption) | exact boxes_step (Nw.refl _).drew1 (by assumption))
    (first | (go_at_call 42; refine (cmpInt_any _ _ _).mono ?_; rintro e w' ⟨rfl, rfl⟩) | (go_at_call 41; refine (or_two _ (c3 t t') (c3 r r') _ (by simp [go_sem]) (by simp [go_sem])).mono ?_; rintro e w' ⟨rfl, rfl⟩))
  all_goals
    rename_i hS
    go_wp2
    go_ret
    exact ⟨rfl, hS.2.2⟩

/-! ### slices.Index and Contains over names -/
theorem retI {k : IntKind} {a b : Int} (h : a = b) : Ending.returned (.int k a) = .returned (.int k b) := by rw [h]
def idx (len K : Nat) : Int := if K < len then K else -1
set_option maxHeartbeats 400000 in
theorem index_at (b o c : Nat) (zs : List (Int × Int)) (t r : Int) (K : Nat) (w : World) (hc : NCells w b o zs) (hl : zs.length ≤ 1000) (hK : K ≤ zs.length)
    (hm : ∀ j (h : j < zs.length), j < K → ¬ (t = zs[j].1 ∧ r = zs[j].2)) (hh : ∀ h : K < zs.length, t = zs[K].1 ∧ r = zs[K].2) :
    Calls Tryd.prog 48 #[.slice (some ⟨b, o, none⟩) zs.length c, .agg #[.int .i64 t, .int .i64 r]] w fun e w' => e = .returned (.int .i64 (idx zs.length K)) ∧ Nw w w' := by
  have hb := box_start' w t r 24
  go_enter Tryd.func48, Tryd.ntmps48
  go_wp2
  go_loopw [8] (fun i wr => ∃ k : Nat, k ≤ K ∧ i = .int .i64 k ∧ Nw (w.alloc (.cells #[.int .i64 t, .int .i64 r] 24)) wr) (fun i _ => zs.length - (intOf i).toNat)
  case atStart => exact ⟨0, Nat.zero_le _, rfl, Nw.refl _⟩
  case round =>
    obtain ⟨k, hk, rfl, hG⟩ := hrel
    obtain ⟨c0, c1, _, hN⟩ := box_step hG hb
    by_cases h : k < K
    · have hkl : k < zs.length := by omega
      obtain ⟨d0, d1⟩ := (hc.grown hN).2 k hkl
      have hne := hm k hkl h
      generalize zs[k] = z at *
      obtain ⟨x, y⟩ := z
      dsimp only at *
      have hd : (t == x) = false ∨ (t = x ∧ (r == y) = false) := by
        by_cases e : t = x
        · refine .inr ⟨e, ?_⟩; simp; intro e2; exact hne ⟨e, e2⟩
        · exact .inl (by simpa using e)
      clear hne hb hm hh
      rcases hd with hd | ⟨rfl, hd⟩
      all_goals
        go_wp2
        go_quiet (fail)
        go_wp2
        go_roundw
        case rel => exact ⟨k + 1, by omega, by go_num, hG.drewN _⟩
        case measure => simp [intOf]; omega
    · obtain rfl : k = K := by omega
      by_cases hkl : k < zs.length
      · obtain ⟨d0, d1⟩ := (hc.grown hN).2 k hkl
        obtain ⟨e0, e1⟩ := hh hkl
        have e2 : idx zs.length k = k := if_pos hkl
        have HE := Lib.hid e2
        rw [← e0] at d0
        rw [← e1] at d1
        clear hb hm hh e0 e1 e2
        go_wp2
        go_quiet (fail)
        go_wp2
        go_ret
        exact ⟨retI HE.out.symm, hN.drewN _⟩
      · have e2 : idx zs.length k = -1 := if_neg hkl
        have HE := Lib.hid e2
        clear hb hm hh e2
        go_wp2
        go_ret
        exact ⟨retI HE.out.symm, hN⟩

/-- The first place at which a name lies in a row; its length if at none. -/
theorem first_of (zs : List (Int × Int)) (t r : Int) : ∃ K, K ≤ zs.length ∧ (∀ j (h : j < zs.length), j < K → ¬ (t = zs[j].1 ∧ r = zs[j].2)) ∧ (∀ h : K < zs.length, t = zs[K].1 ∧ r = zs[K].2) := by
  induction zs with
  | nil => exact ⟨0, Nat.le_refl _, fun j h => absurd h (by simp), fun h => absurd h (by simp)⟩
  | cons z l ih =>
    by_cases e : t = z.1 ∧ r = z.2
    · exact ⟨0, by simp, fun j _ h => absurd h (by omega), fun _ => e⟩
    · obtain ⟨K, h1, h2, h3⟩ := ih
      refine ⟨K + 1, by simpa using h1, fun j h hj => ?_, fun h => by simpa using h3 (by simpa using h)⟩
      cases j with
      | zero => exact e
      | succ j => simpa using h2 j (by simpa using h) (by omega)
theorem index_nil (t r : Int) (w : World) :
    Calls Tryd.prog 48 #[.slice none 0 0, .agg #[.int .i64 t, .int .i64 r]] w fun e w' => e = .returned (.int .i64 (-1)) ∧ Nw w w' := by
  go_enter Tryd.func48, Tryd.ntmps48
  go_wp2
  refine wp_loop_rounds 1 ?_
  rw [rounds_succ]
  go_wp2
  go_ret
  exact ⟨rfl, (Nw.refl _).alloc _⟩
theorem contains_yes (b o c : Nat) (zs : List (Int × Int)) (t r : Int) (w : World) (hc : NCells w b o zs) (hl : zs.length ≤ 1000) (h : (t, r) ∈ zs) :
    Calls Tryd.prog 40 #[.slice (some ⟨b, o, none⟩) zs.length c, .agg #[.int .i64 t, .int .i64 r]] w fun e w' => e = .returned (.bool true) ∧ Nw w w' := by
  obtain ⟨K, hK, hm, hh⟩ := first_of zs t r
  have hlt : K < zs.length := by
    rcases Nat.lt_or_ge K zs.length with g | g
    · exact g
    · obtain ⟨j, hj, e⟩ := List.getElem_of_mem h
      exact absurd ⟨by rw [e], by rw [e]⟩ (hm j hj (by omega))
  have H := Lib.hid (fun w' (g : Nw w w') => index_at b o c zs t r K w' (hc.grown g) hl hK hm hh)
  have ei : idx zs.length K = K := if_pos hlt
  rw [ei] at H
  clear hm hh ei h hc
  go_enter Tryd.func40, Tryd.ntmps40
  go_wp2_with (go_at_call 48; refine (H.out _ ((Nw.refl _).alloc _)).mono ?_; rintro e w' ⟨rfl, hg⟩)
  go_ret
  exact ⟨rfl, ((Nw.refl _).alloc _).trans hg⟩
theorem contains_no (b o c : Nat) (zs : List (Int × Int)) (t r : Int) (w : World) (hc : NCells w b o zs) (hl : zs.length ≤ 1000) (h : ¬ (t, r) ∈ zs) :
    Calls Tryd.prog 40 #[.slice (some ⟨b, o, none⟩) zs.length c, .agg #[.int .i64 t, .int .i64 r]] w fun e w' => e = .returned (.bool false) ∧ Nw w w' := by
  have H := Lib.hid (fun w' (g : Nw w w') => index_at b o c zs t r zs.length w' (hc.grown g) hl (Nat.le_refl _) (fun j hj _ e => h (by obtain ⟨e1, e2⟩ := e; rw [e1, e2]; exact List.getElem_mem hj)) (fun h => absurd h (Nat.lt_irrefl _)))
  have ei : idx zs.length zs.length = -1 := if_neg (Nat.lt_irrefl _)
  rw [ei] at H
  clear ei h hc
  go_enter Tryd.func40, Tryd.ntmps40
  go_wp2_with (go_at_call 48; refine (H.out _ ((Nw.refl _).alloc _)).mono ?_; rintro e w' ⟨rfl, hg⟩)
  go_ret
  exact ⟨rfl, ((Nw.refl _).alloc _).trans hg⟩
theorem contains_nil (t r : Int) (w : World) :
    Calls Tryd.prog 40 #[.slice none 0 0, .agg #[.int .i64 t, .int .i64 r]] w fun e w' => e = .returned (.bool false) ∧ Nw w w' := by
  go_enter Tryd.func40, Tryd.ntmps40
  go_wp2_with (go_at_call 48; refine (index_nil t r _).mono ?_; rintro e w' ⟨rfl, hg⟩)
  go_ret
  exact ⟨rfl, ((Nw.refl _).alloc _).trans hg⟩
end Go.Proofs.YtdcjhjmbfpkigaaDoor
