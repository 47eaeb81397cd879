
/- What is allowed: caps, numbers of threads, picks; programs and lists of them; Check. -/
import Derived.Test.YtmegaipedagcjaaScD
namespace Go.Proofs.Ytmegaipedagcjaa
open Go.RowKit

theorem capsAllowed_any (c : Cp) (w : World) : Calls Try.prog 46 #[cpV c] w fun e w' => e = .returned (.bool (okC c)) ∧ Nw w w' := by
  obtain ⟨c1, c2, c3, c4⟩ := c
  have hO : okC (c1, c2, c3, c4) = ((decide (1 ≤ c1) && decide (c1 ≤ 16)) && ((decide (1 ≤ c2) && decide (c2 ≤ 64)) && ((decide (1 ≤ c3) && decide (c3 ≤ 128)) && (decide (0 ≤ c4) && decide (c4 ≤ 8))))) := by simp [okC]
  rw [hO]
  clear hO
  by_cases h0 : 1 ≤ c1
  case neg =>
    have d0 : decide (1 ≤ c1) = false := by simpa using h0
    go_enter Try.func46, Try.ntmps46
    go_wp2
    go_ret
    exact ⟨by first | (simp; done) | simp [d0], (Nw.refl w).alloc _⟩
  by_cases h1 : c1 ≤ 16
  case neg =>
    have d0 : decide (1 ≤ c1) = true := by simpa using h0
    have d1 : decide (c1 ≤ 16) = false := by simpa using h1
    go_enter Try.func46, Try.ntmps46
    go_wp2
    go_ret
    exact ⟨by first | (simp; done) | simp [d0, d1], (Nw.refl w).alloc _⟩
  by_cases h2 : 1 ≤ c2
  case neg =>
    have d0 : decide (1 ≤ c1) = true := by simpa using h0
    have d1 : decide (c1 ≤ 16) = true := by simpa using h1
    have d2 : decide (1 ≤ c2) = false := by simpa using h2
    go_enter Try.func46, Try.ntmps46
    go_wp2
    go_ret
    exact ⟨by first | (simp; done) | simp [d0, d1, d2], (Nw.refl w).alloc _⟩
  by_cases h3 : c2 ≤ 64
  case neg =>
    have d0 : decide (1 ≤ c1) = true := by simpa using h0
    have d1 : decide (c1 ≤ 16) = true := by simpa using h1
    have d2 : decide (1 ≤ c2) = true := by simpa using h2
    have d3 : decide (c2 ≤ 64) = false := by simpa using h3
    go_enter Try.func46, Try.ntmps46
    go_wp2
    go_ret
    exact ⟨by first | (simp; done) | simp [d0, d1, d2, d3], (Nw.refl w).alloc _⟩
  by_cases h4 : 1 ≤ c3
  case neg =>
    have d0 : decide (1 ≤ c1) = true := by simpa using h0
    have d1 : decide (c1 ≤ 16) = true := by simpa using h1
    have d2 : decide (1 ≤ c2) = true := by simpa using h2
    have d3 : decide (c2 ≤ 64) = true := by simpa using h3
    have d4 : decide (1 ≤ c3) = false := by simpa using h4
    go_enter Try.func46, Try.ntmps46
    go_wp2
    go_ret
    exact ⟨by first | (simp; done) | simp [d0, d1, d2, d3, d4], (Nw.refl w).alloc _⟩
  by_cases h5 : c3 ≤ 128
  case neg =>
    have d0 : decide (1 ≤ c1) = true := by simpa using h0
    have d1 : decide (c1 ≤ 16) = true := by simpa using h1
    have d2 : decide (1 ≤ c2) = true := by simpa using h2
    have d3 : decide (c2 ≤ 64) = true := by simpa using h3
    have d4 : decide (1 ≤ c3) = true := by simpa using h4
    have d5 : decide (c3 ≤ 128) = false := by simpa using h5
    go_enter Try.func46, Try.ntmps46
    go_wp2
    go_ret
    exact ⟨by first | (simp; done) | simp [d0, d1, d2, d3, d4, d5], (Nw.refl w).alloc _⟩
  by_cases h6 : 0 ≤ c4
  case neg =>
    have d0 : decide (1 ≤ c1) = true := by simpa using h0
    have d1 : decide (c1 ≤ 16) = true := by simpa using h1
    have d2 : decide (1 ≤ c2) = true := by simpa using h2
    have d3 : decide (c2 ≤ 64) = true := by simpa using h3
    have d4 : decide (1 ≤ c3) = true := by simpa using h4
    have d5 : decide (c3 ≤ 128) = true := by simpa using h5
    have d6 : decide (0 ≤ c4) = false := by simpa using h6
    go_enter Try.func46, Try.ntmps46
    go_wp2
    go_ret
    exact ⟨by first | (simp; done) | simp [d0, d1, d2, d3, d4, d5, d6], (Nw.refl w).alloc _⟩
  by_cases h7 : c4 ≤ 8
  case neg =>
    have d0 : decide (1 ≤ c1) = true := by simpa using h0
    have d1 : decide (c1 ≤ 16) = true := by simpa using h1
    have d2 : decide (1 ≤ c2) = true := by simpa using h2
    have d3 : decide (c2 ≤ 64) = true := by simpa using h3
    have d4 : decide (1 ≤ c3) = true := by simpa using h4
    have d5 : decide (c3 ≤ 128) = true := by simpa using h5
    have d6 : decide (0 ≤ c4) = true := by simpa using h6
    have d7 : decide (c4 ≤ 8) = false := by simpa using h7
    go_enter Try.func46, Try.ntmps46
    go_wp2
    go_ret
    exact ⟨by first | (simp; done) | simp [d0, d1, d2, d3, d4, d5, d6, d7], (Nw.refl w).alloc _⟩
  have d0 : decide (1 ≤ c1) = true := by simpa using h0
  have d1 : decide (c1 ≤ 16) = true := by simpa using h1
  have d2 : decide (1 ≤ c2) = true := by simpa using h2
  have d3 : decide (c2 ≤ 64) = true := by simpa using h3
  have d4 : decide (1 ≤ c3) = true := by simpa using h4
  have d5 : decide (c3 ≤ 128) = true := by simpa using h5
  have d6 : decide (0 ≤ c4) = true := by simpa using h6
  have d7 : decide (c4 ≤ 8) = true := by simpa using h7
  go_enter Try.func46, Try.ntmps46
  go_wp2
  go_ret
  exact ⟨by first | (simp; done) | simp [d0, d1, d2, d3, d4, d5, d6, d7], (Nw.refl w).alloc _⟩
theorem threadsAllowed_any (n : Int) (w : World) : Calls Try.prog 41 #[.int .i64 n] w fun e w' => e = .returned (.bool (okT n)) ∧ Nw w w' := by
  unfold okT
  by_cases h0 : 1 ≤ n
  · by_cases h1 : n ≤ 8
    · have d0 : decide (1 ≤ n) = true := by simpa using h0
      have d1 : decide (n ≤ 8) = true := by simpa using h1
      go_enter Try.func41, Try.ntmps41
      go_wp2
      go_ret
      exact ⟨by first | (simp; done) | simp [d0, d1], Nw.refl w⟩
    · have d0 : decide (1 ≤ n) = true := by simpa using h0
      have d1 : decide (n ≤ 8) = false := by simpa using h1
      go_enter Try.func41, Try.ntmps41
      go_wp2
      go_ret
      exact ⟨by first | (simp; done) | simp [d0, d1], Nw.refl w⟩
  · have d0 : decide (1 ≤ n) = false := by simpa using h0
    go_enter Try.func41, Try.ntmps41
    go_wp2
    go_ret
    exact ⟨by first | (simp; done) | simp [d0], Nw.refl w⟩

theorem wrongPick_any (p : Int × Int) (w : World) : Calls Try.prog 45 #[pkV p] w fun e w' => e = .returned (.bool (!okP p)) ∧ Nw w w' := by
  obtain ⟨p1, p2⟩ := p
  have hO : okP (p1, p2) = (!(decide (p1 < 1)) && (!(decide (4 < p1)) && (!(decide (p2 < 0)) && !(decide (255 < p2))))) := by
    rw [Bool.eq_iff_iff]
    simp only [okP, Bool.and_eq_true, Bool.not_eq_true', decide_eq_true_eq, decide_eq_false_iff_not]
    omega
  rw [hO]
  clear hO
  by_cases h0 : p1 < 1
  case pos =>
    have d0 : decide (p1 < 1) = true := by simpa using h0
    go_enter Try.func45, Try.ntmps45
    go_wp2
    go_ret
    exact ⟨by first | (simp; done) | simp [d0], (Nw.refl w).alloc _⟩
  by_cases h1 : 4 < p1
  case pos =>
    have d0 : decide (p1 < 1) = false := by simpa using h0
    have d1 : decide (4 < p1) = true := by simpa using h1
    go_enter Try.func45, Try.ntmps45
    go_wp2
    go_ret
    exact ⟨by first | (simp; done) | simp [d0, d1], (Nw.refl w).alloc _⟩
  by_cases h2 : p2 < 0
  case pos =>
    have d0 : decide (p1 < 1) = false := by simpa using h0
    have d1 : decide (4 < p1) = false := by simpa using h1
    have d2 : decide (p2 < 0) = true := by simpa using h2
    go_enter Try.func45, Try.ntmps45
    go_wp2
    go_ret
    exact ⟨by first | (simp; done) | simp [d0, d1, d2], (Nw.refl w).alloc _⟩
  by_cases h3 : 255 < p2
  case pos =>
    have d0 : decide (p1 < 1) = false := by simpa using h0
    have d1 : decide (4 < p1) = false := by simpa using h1
    have d2 : decide (p2 < 0) = false := by simpa using h2
    have d3 : decide (255 < p2) = true := by simpa using h3
    go_enter Try.func45, Try.ntmps45
    go_wp2
    go_ret
    exact ⟨by first | (simp; done) | simp [d0, d1, d2, d3], (Nw.refl w).alloc _⟩
  have d0 : decide (p1 < 1) = false := by simpa using h0
  have d1 : decide (4 < p1) = false := by simpa using h1
  have d2 : decide (p2 < 0) = false := by simpa using h2
  have d3 : decide (255 < p2) = false := by simpa using h3
  go_enter Try.func45, Try.ntmps45
  go_wp2
  go_ret
  exact ⟨by first | (simp; done) | simp [d0, d1, d2, d3], (Nw.refl w).alloc _⟩
theorem wrongOp_any (o : Od) (w : World) : Calls Try.prog 59 #[odV o] w fun e w' => e = .returned (.bool (!okO o)) ∧ Nw w w' := by
  have HO := Lib.hid (op_any o)
  rcases hq : okO o with _ | _ <;> rw [hq] at HO
  all_goals
    obtain ⟨k, t, r, m, v, x⟩ := o
    clear hq
    go_enter Try.func59, Try.ntmps59
    go_wp2_with (go_at_call 14; refine (HO.out _).mono ?_; rintro e w1 ⟨rfl, hg⟩)
    go_ret
    exact ⟨rfl, ((Nw.refl w).alloc _).trans hg⟩

/-! ### Rows that are read -/
def OCells (w : World) (b o : Nat) (l : List Od) : Prop := b < w.heap.size ∧ ∀ k (hk : k < l.length), w.cell? ⟨b, o + k * 6, none⟩ = some (.int .i64 l[k].1) ∧ w.cell? ⟨b, o + k * 6 + 1, none⟩ = some (.int .i64 l[k].2.1) ∧
  w.cell? ⟨b, o + k * 6 + 2, none⟩ = some (.int .i64 l[k].2.2.1) ∧ w.cell? ⟨b, o + k * 6 + 3, none⟩ = some (.int .i64 l[k].2.2.2.1) ∧ w.cell? ⟨b, o + k * 6 + 4, none⟩ = some (.int .i64 l[k].2.2.2.2.1) ∧ w.cell? ⟨b, o + k * 6 + 5, none⟩ = some (.int .i64 l[k].2.2.2.2.2)
def PCells (w : World) (b o : Nat) (l : List (Int × Int)) : Prop := b < w.heap.size ∧ ∀ k (hk : k < l.length), w.cell? ⟨b, o + k * 2, none⟩ = some (.int .i64 l[k].1) ∧ w.cell? ⟨b, o + k * 2 + 1, none⟩ = some (.int .i64 l[k].2)
/-- A value that reads as a list, by what its row holds. -/
def RowAt {α : Type} (C : World → Nat → Nat → List α → Prop) (w : World) (v : Value) (l : List α) : Prop := ∃ a c, v = .slice a l.length c ∧ (l = [] ∨ ∃ b o, a = some ⟨b, o, none⟩ ∧ C w b o l)
abbrev OpsAt := RowAt OCells
abbrev PksAt := RowAt PCells
def TCells (w : World) (b o : Nat) (l : List (List Od)) : Prop := b < w.heap.size ∧ ∀ k (hk : k < l.length), ∃ u, w.cell? ⟨b, o + k, none⟩ = some u ∧ OpsAt w u l[k]
abbrev ThsAt := RowAt TCells
theorem OCells.nw {w w' : World} {b o : Nat} {l : List Od} (h : OCells w b o l) (g : Nw w w') : OCells w' b o l := by
  refine ⟨Nat.lt_of_lt_of_le h.1 g.sz, fun k hk => ?_⟩
  obtain ⟨h0, h1, h2, h3, h4, h5⟩ := h.2 k hk
  exact ⟨g.keep' h0, g.keep' h1, g.keep' h2, g.keep' h3, g.keep' h4, g.keep' h5⟩
theorem PCells.nw {w w' : World} {b o : Nat} {l : List (Int × Int)} (h : PCells w b o l) (g : Nw w w') : PCells w' b o l :=
  ⟨Nat.lt_of_lt_of_le h.1 g.sz, fun k hk => ⟨g.keep' (h.2 k hk).1, g.keep' (h.2 k hk).2⟩⟩
theorem RowAt.nw' {α : Type} {C : World → Nat → Nat → List α → Prop} (hC : ∀ {w w' : World} {b o : Nat} {l : List α}, C w b o l → Nw w w' → C w' b o l) {w w' : World} {v : Value} {l : List α} (h : RowAt C w v l) (g : Nw w w') : RowAt C w' v l := by
  obtain ⟨a, c, e, h⟩ := h
  exact ⟨a, c, e, h.imp id fun ⟨b, o, e2, hc⟩ => ⟨b, o, e2, hC hc g⟩⟩
theorem OpsAt.nw {w w' : World} {v : Value} {l : List Od} (h : OpsAt w v l) (g : Nw w w') : OpsAt w' v l := RowAt.nw' (C := OCells) (fun h g => OCells.nw h g) h g
theorem PksAt.nw {w w' : World} {v : Value} {l : List (Int × Int)} (h : PksAt w v l) (g : Nw w w') : PksAt w' v l := RowAt.nw' (C := PCells) (fun h g => PCells.nw h g) h g
theorem TCells.nw {w w' : World} {b o : Nat} {l : List (List Od)} (h : TCells w b o l) (g : Nw w w') : TCells w' b o l :=
  ⟨Nat.lt_of_lt_of_le h.1 g.sz, fun k hk => by obtain ⟨u, h1, h2⟩ := h.2 k hk; exact ⟨u, g.keep' h1, h2.nw g⟩⟩
theorem ThsAt.nw {w w' : World} {v : Value} {l : List (List Od)} (h : ThsAt w v l) (g : Nw w w') : ThsAt w' v l := RowAt.nw' (C := TCells) (fun h g => TCells.nw h g) h g

theorem all_upto {α : Type} (p : α → Bool) (l : List α) (h : ∀ i (hi : i < l.length), p l[i] = true) : l.all p = true := by
  rw [List.all_eq_true]
  intro x hx
  obtain ⟨i, hi, rfl⟩ := List.getElem_of_mem hx
  exact h i hi
theorem all_no {α : Type} (p : α → Bool) (l : List α) (k : Nat) (hk : k < l.length) (h : p l[k] = false) : l.all p = false := by
  rw [List.all_eq_false]
  exact ⟨l[k], List.getElem_mem hk, by simp [h]⟩

set_option maxHeartbeats 1000000 in
theorem indexO_some (b o c : Nat) (l : List Od) (w : World) (hm : l.length ≤ 100000) (h : OCells w b o l) : Calls Try.prog 64 #[.slice (some ⟨b, o, none⟩) l.length c, .func (.func 59) #[] #[]] w fun e w' =>
    ∃ r, e = .returned (.int .i64 r) ∧ decide (r ≥ 0) = !(l.all okO) ∧ Nw w w' := by
  have H := Lib.hid h
  clear h
  go_enter Try.func64, Try.ntmps64
  go_wp2
  go_loopw [8] (fun i wr => ∃ k : Nat, k ≤ l.length ∧ i = .int .i64 k ∧ (∀ i (hi : i < l.length), i < k → okO l[i] = true) ∧ Nw w wr) (fun i _ => l.length - (intOf i).toNat)
  case atStart => exact ⟨0, Nat.zero_le _, rfl, fun i _ hi => absurd hi (by omega), Nw.refl w⟩
  case round =>
    obtain ⟨k, hk, rfl, hA, hG⟩ := hrel
    have HA := Lib.hid hA
    clear hA
    by_cases hlt : k < l.length
    · obtain ⟨c0, c1, c2, c3, c4, c5⟩ := (H.out.nw hG).2 k hlt
      have HW := Lib.hid (fun z => wrongOp_any l[k] z)
      rcases hx : okO l[k] with _ | _
      · rw [hx] at HW
        have hno := Lib.hid (all_no okO l k hlt hx)
        clear hx
        generalize l[k] = x at c0 c1 c2 c3 c4 c5 HW
        obtain ⟨q0, q1, q2, q3, q4, q5⟩ := x
        simp only at c0 c1 c2 c3 c4 c5
        go_wp2_with (go_at_call 59; refine (HW.out _).mono ?_; rintro e w1 ⟨rfl, hg⟩)
        go_ret
        exact ⟨_, rfl, by rw [hno.out]; simp, hG.trans hg⟩
      · rw [hx] at HW
        have HX := Lib.hid hx
        clear hx
        generalize l[k] = x at c0 c1 c2 c3 c4 c5 HW
        obtain ⟨q0, q1, q2, q3, q4, q5⟩ := x
        simp only at c0 c1 c2 c3 c4 c5
        go_wp2_with (go_at_call 59; refine (HW.out _).mono ?_; rintro e w1 ⟨rfl, hg⟩)
        go_roundw
        case rel => exact ⟨k + 1, by omega, by go_num, fun i hi hik => by
          by_cases e : i = k
          · subst e; exact HX.out
          · exact HA.out i hi (by omega), hG.trans hg⟩
        case measure => simp [intOf]; omega
    · have hal := Lib.hid (all_upto okO l (fun i hi => HA.out i hi (by omega)))
      go_wp2
      go_ret
      exact ⟨-1, rfl, by rw [hal.out]; rfl, hG⟩
theorem indexO_none (a : Option Addr) (c : Nat) (w : World) : Calls Try.prog 64 #[.slice a 0 c, .func (.func 59) #[] #[]] w fun e w' =>
    ∃ r, e = .returned (.int .i64 r) ∧ decide (r ≥ 0) = false ∧ Nw w w' := by
  go_enter Try.func64, Try.ntmps64
  go_wp2
  refine wp_loop_rounds 1 ?_
  repeat (rw [rounds_succ]; go_wp2)
  go_ret
  exact ⟨-1, rfl, rfl, Nw.refl w⟩
theorem indexO_any (v : Value) (l : List Od) (w : World) (hm : l.length ≤ 100000) (h : RowAt OCells w v l) : Calls Try.prog 64 #[v, .func (.func 59) #[] #[]] w fun e w' =>
    ∃ r, e = .returned (.int .i64 r) ∧ decide (r ≥ 0) = !(l.all okO) ∧ Nw w w' := by
  obtain ⟨a, c, rfl, rfl | ⟨b, o, rfl, hc⟩⟩ := h
  · exact indexO_none a c w
  · exact indexO_some b o c l w hm hc
theorem containsO_any (v : Value) (l : List Od) (w : World) (hm : l.length ≤ 100000) (h : RowAt OCells w v l) : Calls Try.prog 58 #[v, .func (.func 59) #[] #[]] w fun e w' =>
    e = .returned (.bool !(l.all okO)) ∧ Nw w w' := by
  have H := Lib.hid (indexO_any v l w hm h)
  clear h
  generalize (!(l.all okO)) = B at *
  go_enter Try.func58, Try.ntmps58
  go_wp2_with (go_at_call 64; refine H.out.mono ?_; rintro e w' ⟨r, rfl, hr, hg⟩)
  go_ret
  exact ⟨by first | rw [hr] | rfl, hg⟩

set_option maxHeartbeats 1000000 in
theorem indexP_some (b o c : Nat) (l : List (Int × Int)) (w : World) (hm : l.length ≤ 100000) (h : PCells w b o l) : Calls Try.prog 60 #[.slice (some ⟨b, o, none⟩) l.length c, .func (.func 45) #[] #[]] w fun e w' =>
    ∃ r, e = .returned (.int .i64 r) ∧ decide (r ≥ 0) = !(l.all okP) ∧ Nw w w' := by
  have H := Lib.hid h
  clear h
  go_enter Try.func60, Try.ntmps60
  go_wp2
  go_loopw [8] (fun i wr => ∃ k : Nat, k ≤ l.length ∧ i = .int .i64 k ∧ (∀ i (hi : i < l.length), i < k → okP l[i] = true) ∧ Nw w wr) (fun i _ => l.length - (intOf i).toNat)
  case atStart => exact ⟨0, Nat.zero_le _, rfl, fun i _ hi => absurd hi (by omega), Nw.refl w⟩
  case round =>
    obtain ⟨k, hk, rfl, hA, hG⟩ := hrel
    have HA := Lib.hid hA
    clear hA
    by_cases hlt : k < l.length
    · obtain ⟨c0, c1⟩ := (H.out.nw hG).2 k hlt
      have HW := Lib.hid (fun z => wrongPick_any l[k] z)
      rcases hx : okP l[k] with _ | _
      · rw [hx] at HW
        have hno := Lib.hid (all_no okP l k hlt hx)
        clear hx
        generalize l[k] = x at c0 c1 HW
        obtain ⟨q0, q1⟩ := x
        simp only at c0 c1
        go_wp2_with (go_at_call 45; refine (HW.out _).mono ?_; rintro e w1 ⟨rfl, hg⟩)
        go_ret
        exact ⟨_, rfl, by rw [hno.out]; simp, hG.trans hg⟩
      · rw [hx] at HW
        have HX := Lib.hid hx
        clear hx
        generalize l[k] = x at c0 c1 HW
        obtain ⟨q0, q1⟩ := x
        simp only at c0 c1
        go_wp2_with (go_at_call 45; refine (HW.out _).mono ?_; rintro e w1 ⟨rfl, hg⟩)
        go_roundw
        case rel => exact ⟨k + 1, by omega, by go_num, fun i hi hik => by
          by_cases e : i = k
          · subst e; exact HX.out
          · exact HA.out i hi (by omega), hG.trans hg⟩
        case measure => simp [intOf]; omega
    · have hal := Lib.hid (all_upto okP l (fun i hi => HA.out i hi (by omega)))
      go_wp2
      go_ret
      exact ⟨-1, rfl, by rw [hal.out]; rfl, hG⟩
theorem indexP_none (a : Option Addr) (c : Nat) (w : World) : Calls Try.prog 60 #[.slice a 0 c, .func (.func 45) #[] #[]] w fun e w' =>
    ∃ r, e = .returned (.int .i64 r) ∧ decide (r ≥ 0) = false ∧ Nw w w' := by
  go_enter Try.func60, Try.ntmps60
  go_wp2
  refine wp_loop_rounds 1 ?_
  repeat (rw [rounds_succ]; go_wp2)
  go_ret
  exact ⟨-1, rfl, rfl, Nw.refl w⟩
theorem indexP_any (v : Value) (l : List (Int × Int)) (w : World) (hm : l.length ≤ 100000) (h : RowAt PCells w v l) : Calls Try.prog 60 #[v, .func (.func 45) #[] #[]] w fun e w' =>
    ∃ r, e = .returned (.int .i64 r) ∧ decide (r ≥ 0) = !(l.all okP) ∧ Nw w w' := by
  obtain ⟨a, c, rfl, rfl | ⟨b, o, rfl, hc⟩⟩ := h
  · exact indexP_none a c w
  · exact indexP_some b o c l w hm hc
theorem containsP_any (v : Value) (l : List (Int × Int)) (w : World) (hm : l.length ≤ 100000) (h : RowAt PCells w v l) : Calls Try.prog 44 #[v, .func (.func 45) #[] #[]] w fun e w' =>
    e = .returned (.bool !(l.all okP)) ∧ Nw w w' := by
  have H := Lib.hid (indexP_any v l w hm h)
  clear h
  generalize (!(l.all okP)) = B at *
  go_enter Try.func44, Try.ntmps44
  go_wp2_with (go_at_call 60; refine H.out.mono ?_; rintro e w' ⟨r, rfl, hr, hg⟩)
  go_ret
  exact ⟨by first | rw [hr] | rfl, hg⟩
end Go.Proofs.Ytmegaipedagcjaa
