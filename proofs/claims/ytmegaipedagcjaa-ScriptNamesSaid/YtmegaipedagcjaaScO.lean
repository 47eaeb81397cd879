
/- add: what an entry does. -/
import Derived.Test.YtmegaipedagcjaaScL
import Derived.Test.YtmegaipedagcjaaScN
namespace Go.Proofs.Ytmegaipedagcjaa
open Go.RowKit

/-- A step of a script of the call's own. -/
def Stp (w : World) (g0 B : Nat) (s : PS) (w' : World) : Prop := Own w' g0 B s ∧ Below g0 w w' ∧ Kept B w w'
theorem Own.stay {w w' : World} {g0 B : Nat} {s : PS} (h : Own w g0 B s) (g : Nw w w') : Stp w g0 B s w' := by
  refine ⟨h.nw g, ?_, Kept.nw g⟩
  obtain ⟨_, _, _, h⟩ := h
  exact Below.mono g (by have := h.base; have := h.lt; omega)
theorem Stp.trans {w a b : World} {g0 B : Nat} {s s' : PS} (h : Stp w g0 B s a) (k : Stp a g0 B s' b) : Stp w g0 B s' b := ⟨k.1, Below.trans h.2.1 k.2.1, h.2.2.trans k.2.2⟩
theorem beq_false_of {a b : List UInt8} (h : a ≠ b) : (a == b) = false := by simpa using h
theorem addCaps_any (g0 B : Nat) (s : PS) (e0 e1 e2 e3 e4 e5 e6 e7 : UInt8) (w : World) (hs : s.th.length ≤ 8) (hO : Own w g0 B s) :
    Calls Try.prog 54 #[.pointer (some ⟨B, 0, none⟩), stV [e0, e1, e2, e3, e4, e5, e6, e7]] w fun e w' => e = .returned (.tuple #[]) ∧ Stp w g0 B (addC s (vl e1, vl e2, vl e3, vl e4) e5.toNat [e0, e1, e2, e3, e4, e5, e6, e7]) w' := by
  have HC := fun z => capsAllowed_any (vl e1, vl e2, vl e3, vl e4) z
  have HT := fun z => threadsAllowed_any (e5.toNat : Int) z
  have HE := Lib.hid fun z => capsEntry_any (vl e1, vl e2, vl e3, vl e4) (e5.toNat : Int) z
  unfold addC
  rcases hc : okC (vl e1, vl e2, vl e3, vl e4) with _ | _
  · rw [if_neg (fun q => by simp at q)]
    rw [hc] at HC
    refine (addCaps_no1 B e0 e1 e2 e3 e4 e5 e6 e7 _ _ w (Lib.hid HC) (Lib.hid HT) HE).mono ?_
    rintro e w' ⟨rfl, g⟩
    exact ⟨rfl, hO.stay g⟩
  · rw [hc] at HC
    rcases ht : okT (e5.toNat : Int) with _ | _
    · rw [if_neg (fun q => by simp at q)]
      rw [ht] at HT
      refine (addCaps_no2 B e0 e1 e2 e3 e4 e5 e6 e7 _ w (Lib.hid HC) (Lib.hid HT) HE).mono ?_
      rintro e w' ⟨rfl, g⟩
      exact ⟨rfl, hO.stay g⟩
    · rw [ht] at HT
      by_cases hl : capsE (vl e1, vl e2, vl e3, vl e4) (e5.toNat : Int) = [e0, e1, e2, e3, e4, e5, e6, e7]
      · rw [if_pos ⟨rfl, rfl, hl⟩]
        simp only [okT, Bool.and_eq_true, decide_eq_true_eq] at ht
        exact addCaps_yes g0 B s e0 e1 e2 e3 e4 e5 e6 e7 _ w (Lib.hid HC) (Lib.hid HT) HE (by simpa using hl) (by omega) hs hO
      · rw [if_neg (fun q => hl q.2.2)]
        refine (addCaps_no3 B e0 e1 e2 e3 e4 e5 e6 e7 _ w (Lib.hid HC) (Lib.hid HT) HE (beq_false_of hl)).mono ?_
        rintro e w' ⟨rfl, g⟩
        exact ⟨rfl, hO.stay g⟩
theorem addOp_any (g0 B : Nat) (s : PS) (e0 e1 e2 e3 e4 e5 e6 e7 : UInt8) (w : World) (hs : s.th.length ≤ 8) (hall : ∀ x ∈ s.th, x.length ≤ 32) (hO : Own w g0 B s) :
    Calls Try.prog 55 #[.pointer (some ⟨B, 0, none⟩), stV [e0, e1, e2, e3, e4, e5, e6, e7]] w fun e w' => e = .returned (.tuple #[]) ∧ Stp w g0 B (addO s [e0, e1, e2, e3, e4, e5, e6, e7]) w' := by
  have HE := fun z => entry_e e0 e1 e2 e3 e4 e5 e6 e7 z
  unfold addO
  rcases hq : ent [e0, e1, e2, e3, e4, e5, e6, e7] with _ | ⟨t, o⟩
  · rw [hq] at HE
    refine (addOp_none B _ w (Lib.hid HE)).mono ?_
    rintro e w' ⟨rfl, g⟩
    exact ⟨rfl, hO.stay g⟩
  · rw [hq] at HE
    obtain ⟨_, h8, rfl, _⟩ := ent_is hq
    exact addOp_some g0 B s _ _ o w (Lib.hid HE) h8 hs hall hO
theorem addPick_any (g0 B : Nat) (s : PS) (e0 e1 e2 e3 e4 e5 e6 e7 : UInt8) (w : World) (hO : Own w g0 B s) :
    Calls Try.prog 56 #[.pointer (some ⟨B, 0, none⟩), stV [e0, e1, e2, e3, e4, e5, e6, e7]] w fun e w' => e = .returned (.tuple #[]) ∧ Stp w g0 B (addP s (vl e1, vl e2) [e0, e1, e2, e3, e4, e5, e6, e7]) w' := by
  have HW := fun z => wrongPick_any (vl e1, vl e2) z
  have HE := Lib.hid fun z => pickEntry_any (vl e1, vl e2) z
  unfold addP
  by_cases hn : s.pk.length < 4096
  · rcases hc : okP (vl e1, vl e2) with _ | _
    · rw [if_neg (fun q => by simp at q)]
      rw [hc] at HW
      refine (addPick_no1 g0 B s e0 e1 e2 e3 e4 e5 e6 e7 _ w (Lib.hid HW) HE hn hO).mono ?_
      rintro e w' ⟨rfl, g⟩
      exact ⟨rfl, hO.stay g⟩
    · rw [hc] at HW
      by_cases hl : pickE (vl e1, vl e2) = [e0, e1, e2, e3, e4, e5, e6, e7]
      · rw [if_pos ⟨hn, rfl, hl⟩]
        exact addPick_yes g0 B s e0 e1 e2 e3 e4 e5 e6 e7 _ w (Lib.hid HW) HE (by simpa using hl) hn hO
      · rw [if_neg (fun q => hl q.2.2)]
        refine (addPick_no2 g0 B s e0 e1 e2 e3 e4 e5 e6 e7 _ w (Lib.hid HW) HE (beq_false_of hl) hn hO).mono ?_
        rintro e w' ⟨rfl, g⟩
        exact ⟨rfl, hO.stay g⟩
  · rw [if_neg (fun q => hn q.1)]
    refine (addPick_no0 g0 B s e0 e1 e2 e3 e4 e5 e6 e7 _ _ w (Lib.hid HW) HE (by omega) hO).mono ?_
    rintro e w' ⟨rfl, g⟩
    exact ⟨rfl, hO.stay g⟩
theorem u8_eq (u : UInt8) (k : Nat) (hk : k < 256) (h : u ≠ UInt8.ofNat k) : ((u.toNat : Int) == (k : Int)) = false := by
  have : u.toNat ≠ k := fun e => h (UInt8.toNat_inj.1 (by rw [UInt8.toNat_ofNat', e]; omega))
  simp; omega
set_option maxRecDepth 100000 in
/-- add(s, e): the step. -/
theorem add_any (g0 B : Nat) (s : PS) (e0 e1 e2 e3 e4 e5 e6 e7 : UInt8) (w : World) (hs : okS s = true) (hO : Own w g0 B s) :
    Calls Try.prog 36 #[.pointer (some ⟨B, 0, none⟩), stV [e0, e1, e2, e3, e4, e5, e6, e7]] w fun e w' => e = .returned (.tuple #[]) ∧ Stp w g0 B (step s [e0, e1, e2, e3, e4, e5, e6, e7]) w' := by
  obtain ⟨h1, h2, h3, _⟩ := okS_parts.1 hs
  have hall : ∀ x ∈ s.th, x.length ≤ 32 := fun x hx => by
    have := List.all_eq_true.1 h2 x hx
    simp only [okR, Bool.and_eq_true, decide_eq_true_eq] at this
    exact this.1
  have HC := Lib.hid (addCaps_any g0 B s e0 e1 e2 e3 e4 e5 e6 e7 w h1.2 hO)
  have HO := Lib.hid (addOp_any g0 B s e0 e1 e2 e3 e4 e5 e6 e7 w h1.2 hall hO)
  have HP := Lib.hid (addPick_any g0 B s e0 e1 e2 e3 e4 e5 e6 e7 w hO)
  have HS := Lib.hid (hO.stay (Nw.refl w))
  have g0' : ∀ h, (⟨#[e0, e1, e2, e3, e4, e5, e6, e7]⟩ : ByteArray)[0]'h = e0 := fun _ => rfl
  clear hO hs h1 h2 h3 hall
  simp only [step]
  by_cases q1 : e0 = 1
  · have b1 : ((e0.toNat : Int) == 1) = true := by subst q1; rfl
    rw [if_pos q1]
    clear q1
    go_enter Try.func36, Try.ntmps36
    go_wp2_with (go_at_call 54; refine HC.out.mono ?_; rintro e w1 ⟨rfl, g1⟩)
    first | exact bodyPost_end (results_none rfl _ _ _) rfl ⟨rfl, g1⟩ | exact bodyPost_ret (results_none rfl _ _ _) rfl ⟨rfl, g1⟩
  · have b1 : ((e0.toNat : Int) == 1) = false := u8_eq e0 1 (by decide) q1
    rw [if_neg q1]
    by_cases q2 : e0 = 2
    · have b2 : ((e0.toNat : Int) == 2) = true := by subst q2; rfl
      rw [if_pos q2]
      clear q1 q2
      go_enter Try.func36, Try.ntmps36
      go_wp2_with (go_at_call 55; refine HO.out.mono ?_; rintro e w1 ⟨rfl, g1⟩)
      first | exact bodyPost_end (results_none rfl _ _ _) rfl ⟨rfl, g1⟩ | exact bodyPost_ret (results_none rfl _ _ _) rfl ⟨rfl, g1⟩
    · have b2 : ((e0.toNat : Int) == 2) = false := u8_eq e0 2 (by decide) q2
      rw [if_neg q2]
      by_cases q3 : e0 = 3
      · have b3 : ((e0.toNat : Int) == 3) = true := by subst q3; rfl
        rw [if_pos q3]
        clear q1 q2 q3
        go_enter Try.func36, Try.ntmps36
        go_wp2_with (go_at_call 56; refine HP.out.mono ?_; rintro e w1 ⟨rfl, g1⟩)
        first | exact bodyPost_end (results_none rfl _ _ _) rfl ⟨rfl, g1⟩ | exact bodyPost_ret (results_none rfl _ _ _) rfl ⟨rfl, g1⟩
      · have b3 : ((e0.toNat : Int) == 3) = false := u8_eq e0 3 (by decide) q3
        rw [if_neg q3]
        clear q1 q2 q3
        go_enter Try.func36, Try.ntmps36
        go_wp2
        first | exact bodyPost_end (results_none rfl _ _ _) rfl ⟨rfl, HS.out⟩ | exact bodyPost_ret (results_none rfl _ _ _) rfl ⟨rfl, HS.out⟩
end Go.Proofs.Ytmegaipedagcjaa
