
/- LightScript; Bytes at every script that can be read; how long bytes are. -/
import Derived.Test.YtmegaipedagcjaaScW
import Derived.Test.YtmegaipedagcjaaScH
namespace Go.Proofs.Ytmegaipedagcjaa
open Go.RowKit

def lightB (s : PS) : Bool := decide (s.th.length ≤ 10) && (decide (s.pk.length ≤ 300) && s.th.all fun l => decide (l.length ≤ 40))
set_option maxRecDepth 100000 in
set_option maxHeartbeats 1000000 in
theorem light_any (vt vp : Value) (s : PS) (w : World) (h : ScAt w vt vp s) : Calls Try.prog 20 #[scV vt vp s.cp] w fun e w' => e = .returned (.bool (lightB s)) ∧ Nw w w' := by
  obtain ⟨th, pk, c1, c2, c3, c4⟩ := s
  obtain ⟨⟨at', ct, rfl, hT⟩, ap, cp', rfl, _⟩ := h
  unfold lightB
  simp only at hT ⊢
  by_cases h1 : th.length ≤ 10
  · by_cases h2 : pk.length ≤ 300
    · have d1 : decide ((10 : Int) < (th.length : Int)) = false := by simp; omega
      have d2 : decide ((300 : Int) < (pk.length : Int)) = false := by simp; omega
      rw [decide_eq_true h1, decide_eq_true h2, Bool.true_and, Bool.true_and]
      have HT := Lib.hid hT
      clear hT h2
      generalize pk.length = np at *
      go_enter Try.func20, Try.ntmps20
      go_wp2
      go_loopw [3] (fun i wr => ∃ k : Nat, k ≤ th.length ∧ i = .int .i64 k ∧ (∀ i (hi : i < th.length), i < k → decide (th[i].length ≤ 40) = true) ∧ wr = w.alloc (.cells #[.slice at' th.length ct, .slice ap np cp', .int .i64 c1, .int .i64 c2, .int .i64 c3, .int .i64 c4] 28)) (fun i _ => th.length - (intOf i).toNat)
      case atStart => exact ⟨0, Nat.zero_le _, rfl, fun i _ hi => absurd hi (by omega), rfl⟩
      case round =>
        obtain ⟨k, hk, rfl, hA, rfl⟩ := hrel
        have HA := Lib.hid hA
        clear hA
        by_cases hlt : k < th.length
        · rcases HT.out with rfl | ⟨b, o, rfl, hb⟩
          · simp at hlt
          obtain ⟨u, e0, au, cu, rfl, _⟩ := hb.2 k hlt
          have hbl := hb.1
          have e1 := ((Nw.refl w).alloc (.cells #[.slice (some ⟨b, o, none⟩) th.length ct, .slice ap np cp', .int .i64 c1, .int .i64 c2, .int .i64 c3, .int .i64 c4] 28)).keep' e0
          by_cases hx : th[k].length ≤ 40
          · have HX := Lib.hid hx
            have d3 : decide ((40 : Int) < (th[k].length : Int)) = false := by simp; omega
            clear hx hb
            generalize th[k].length = q at d3 e0 e1
            go_wp2
            go_roundw
            case rel => exact ⟨k + 1, by omega, by go_num, fun i hi hik => by
              by_cases e : i = k
              · subst e; exact decide_eq_true HX.out
              · exact HA.out i hi (by omega), by first | rfl | trivial⟩
            case measure => simp [intOf]; omega
          · have hno := Lib.hid (all_no (fun l : List Od => decide (l.length ≤ 40)) th k hlt (by simpa using hx))
            have d3 : decide ((40 : Int) < (th[k].length : Int)) = true := by simp; omega
            clear hx hb
            generalize th[k].length = q at d3 e0 e1
            go_wp2
            go_ret
            exact ⟨by rw [hno.out]; rfl, (Nw.refl w).alloc _⟩
        · have hal := Lib.hid (all_upto (fun l : List Od => decide (l.length ≤ 40)) th (fun i hi => HA.out i hi (by omega)))
          go_wp2
          go_ret
          exact ⟨by rw [hal.out]; rfl, (Nw.refl w).alloc _⟩
    · have d1 : decide ((10 : Int) < (th.length : Int)) = false := by simp; omega
      have d2 : decide ((300 : Int) < (pk.length : Int)) = true := by simp; omega
      rw [decide_eq_false h2, Bool.false_and, Bool.and_false]
      clear hT h1 h2
      generalize th.length = nt at *
      generalize pk.length = np at *
      go_enter Try.func20, Try.ntmps20
      go_wp2
      go_ret
      exact ⟨rfl, (Nw.refl w).alloc _⟩
  · have d1 : decide ((10 : Int) < (th.length : Int)) = true := by simp; omega
    rw [decide_eq_false h1, Bool.false_and]
    clear hT h1
    generalize th.length = nt at *
    generalize pk.length = np at *
    go_enter Try.func20, Try.ntmps20
    go_wp2
    go_ret
    exact ⟨rfl, (Nw.refl w).alloc _⟩
theorem light_fits {s : PS} (h : lightB s = true) : Fits s := by
  simp only [lightB, Bool.and_eq_true, decide_eq_true_eq] at h
  refine ⟨by omega, fun x hx => ?_, by omega⟩
  have := List.all_eq_true.1 h.2.2 x hx
  simp at this
  omega
theorem bytes_ok (vt vp : Value) (s : PS) (w : World) (hs : okS s = true) (h : ScAt w vt vp s) : Calls Try.prog 10 #[scV vt vp s.cp] w fun e w' => e = .returned (.tuple #[stV (bytesOf s), .int .i64 0]) ∧ Nw w w' := by
  have hf := fits_ok hs
  have hC := fun (z : World) (g : Nw w z) => check_any vt vp s z hf (h.nw g)
  rw [hs] at hC
  obtain ⟨⟨h1, h1'⟩, h2, h3, _⟩ := okS_parts.1 hs
  obtain ⟨th, pk, c1, c2, c3, c4⟩ := s
  obtain ⟨⟨at', ct, rfl, hT⟩, ap, cp', rfl, hP⟩ := h
  simp only at h1 h1' h2 h3 hT hP
  rcases hT with rfl | ⟨b, o, rfl, hT⟩
  · simp at h1
  exact bytes_yes b o ct ap cp' th pk c1 c2 c3 c4 w (Lib.hid hT) (Lib.hid hP) (Lib.hid hC) h1' (fun x hx => by
    have := List.all_eq_true.1 h2 x hx
    simpa only [okR, Bool.and_eq_true, decide_eq_true_eq] using this) h3
theorem bytes_bad (vt vp : Value) (s : PS) (w : World) (hf : Fits s) (hs : okS s = false) (h : ScAt w vt vp s) : Calls Try.prog 10 #[scV vt vp s.cp] w fun e w' => e = .returned (.tuple #[stV [], .int .i64 2]) ∧ Nw w w' := by
  have hC := fun (z : World) (g : Nw w z) => check_any vt vp s z hf (h.nw g)
  rw [hs] at hC
  have h1 : vt.oneCell' = true := by obtain ⟨⟨_, _, rfl, _⟩, _⟩ := h; rfl
  have h2 : vp.oneCell' = true := by obtain ⟨_, _, _, rfl, _⟩ := h; rfl
  exact bytes_no vt vp s.cp w (Lib.hid hC) h1 h2
theorem thsE_count (th : List (List Od)) (h : ∀ x ∈ th, x.length ≤ 32) : ∀ i, (thsE i th).length ≤ 32 * th.length := by
  induction th with
  | nil => intro i; simp [thsE]
  | cons x th ih =>
    intro i
    have h1 := h x (List.mem_cons_self ..)
    have h2 := ih (fun y hy => h y (List.mem_cons_of_mem _ hy)) (i + 1)
    simp only [thsE, List.length_append, List.length_map, List.length_cons]
    omega
theorem bytes_small {s : PS} (hs : okS s = true) : (bytesOf s).length ≤ 1000000 := by
  obtain ⟨⟨h1, h1'⟩, h2, h3, _⟩ := okS_parts.1 hs
  have := thsE_count s.th (fun x hx => by
    have := List.all_eq_true.1 h2 x hx
    simp only [okR, Bool.and_eq_true, decide_eq_true_eq] at this
    exact this.1) 0
  rw [bytesOf_len]
  simp only [ents, List.length_cons, List.length_append, List.length_map]
  omega
theorem bytes_mod (s : PS) : (bytesOf s).length % 8 = 0 := by rw [bytesOf_len]; omega
end Go.Proofs.Ytmegaipedagcjaa
