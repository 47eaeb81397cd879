
/- Programs, lists of them; Check. -/
import Derived.Test.YtmegaipedagcjaaScE
namespace Go.Proofs.Ytmegaipedagcjaa
open Go.RowKit

theorem wrongProgram_any (v : Value) (l : List Od) (w : World) (hm : l.length ≤ 100000) (h : OpsAt w v l) : Calls Try.prog 43 #[v] w fun e w' => e = .returned (.bool (!okR l)) ∧ Nw w w' := by
  have H := Lib.hid (containsO_any v l w hm h)
  have hf : ∃ a c, v = .slice a l.length c := by obtain ⟨a, c, e, _⟩ := h; exact ⟨a, c, e⟩
  obtain ⟨a, c, rfl⟩ := hf
  clear h
  unfold okR
  generalize l.all okO = B at *
  generalize l.length = N at *
  by_cases hN : N ≤ 32
  · have d0 : decide (32 < (N : Int)) = false := by simp; omega
    have d1 : decide (N ≤ 32) = true := by simpa using hN
    rw [d1]
    clear d1
    go_enter Try.func43, Try.ntmps43
    go_wp2_with (go_at_call 58; refine H.out.mono ?_; rintro e w' ⟨rfl, hg⟩)
    go_ret
    exact ⟨by simp, hg⟩
  · have d0 : decide (32 < (N : Int)) = true := by simp; omega
    have d1 : decide (N ≤ 32) = false := by simpa using hN
    rw [d1]
    clear d1
    go_enter Try.func43, Try.ntmps43
    go_wp2
    go_ret
    exact ⟨by simp, Nw.refl w⟩

set_option maxHeartbeats 1000000 in
theorem indexT_some (b o c : Nat) (l : List (List Od)) (w : World) (hm : l.length ≤ 100000) (hm2 : ∀ x ∈ l, x.length ≤ 100000) (h : TCells w b o l) : Calls Try.prog 57 #[.slice (some ⟨b, o, none⟩) l.length c, .func (.func 43) #[] #[]] w fun e w' =>
    ∃ r, e = .returned (.int .i64 r) ∧ decide (r ≥ 0) = !(l.all okR) ∧ Nw w w' := by
  have H := Lib.hid h
  clear h
  go_enter Try.func57, Try.ntmps57
  go_wp2
  go_loopw [8] (fun i wr => ∃ k : Nat, k ≤ l.length ∧ i = .int .i64 k ∧ (∀ i (hi : i < l.length), i < k → okR l[i] = true) ∧ Nw w wr) (fun i _ => l.length - (intOf i).toNat)
  case atStart => exact ⟨0, Nat.zero_le _, rfl, fun i _ hi => absurd hi (by omega), Nw.refl w⟩
  case round =>
    obtain ⟨k, hk, rfl, hA, hG⟩ := hrel
    have HA := Lib.hid hA
    clear hA
    by_cases hlt : k < l.length
    · obtain ⟨u, c0, hu⟩ := (H.out.nw hG).2 k hlt
      have HW := Lib.hid (wrongProgram_any u l[k] wr (hm2 _ (List.getElem_mem hlt)) hu)
      rcases hx : okR l[k] with _ | _
      · rw [hx] at HW
        have hno := Lib.hid (all_no okR l k hlt hx)
        clear hx
        clear hu
        generalize l[k] = x at HW
        go_wp2_with (go_at_call 43; refine (HW.out).mono ?_; rintro e w1 ⟨rfl, hg⟩)
        go_ret
        exact ⟨_, rfl, by rw [hno.out]; simp, hG.trans hg⟩
      · rw [hx] at HW
        have HX := Lib.hid hx
        clear hx
        clear hu
        generalize l[k] = x at HW
        go_wp2_with (go_at_call 43; refine (HW.out).mono ?_; rintro e w1 ⟨rfl, hg⟩)
        go_roundw
        case rel => exact ⟨k + 1, by omega, by go_num, fun i hi hik => by
          by_cases e : i = k
          · subst e; exact HX.out
          · exact HA.out i hi (by omega), hG.trans hg⟩
        case measure => simp [intOf]; omega
    · have hal := Lib.hid (all_upto okR l (fun i hi => HA.out i hi (by omega)))
      go_wp2
      go_ret
      exact ⟨-1, rfl, by rw [hal.out]; rfl, hG⟩
theorem indexT_none (a : Option Addr) (c : Nat) (w : World) : Calls Try.prog 57 #[.slice a 0 c, .func (.func 43) #[] #[]] w fun e w' =>
    ∃ r, e = .returned (.int .i64 r) ∧ decide (r ≥ 0) = false ∧ Nw w w' := by
  go_enter Try.func57, Try.ntmps57
  go_wp2
  refine wp_loop_rounds 1 ?_
  repeat (rw [rounds_succ]; go_wp2)
  go_ret
  exact ⟨-1, rfl, rfl, Nw.refl w⟩
theorem indexT_any (v : Value) (l : List (List Od)) (w : World) (hm : l.length ≤ 100000) (hm2 : ∀ x ∈ l, x.length ≤ 100000) (h : RowAt TCells w v l) : Calls Try.prog 57 #[v, .func (.func 43) #[] #[]] w fun e w' =>
    ∃ r, e = .returned (.int .i64 r) ∧ decide (r ≥ 0) = !(l.all okR) ∧ Nw w w' := by
  obtain ⟨a, c, rfl, rfl | ⟨b, o, rfl, hc⟩⟩ := h
  · exact indexT_none a c w
  · exact indexT_some b o c l w hm hm2 hc
theorem containsT_any (v : Value) (l : List (List Od)) (w : World) (hm : l.length ≤ 100000) (hm2 : ∀ x ∈ l, x.length ≤ 100000) (h : RowAt TCells w v l) : Calls Try.prog 42 #[v, .func (.func 43) #[] #[]] w fun e w' =>
    e = .returned (.bool !(l.all okR)) ∧ Nw w w' := by
  have H := Lib.hid (indexT_any v l w hm hm2 h)
  clear h
  generalize (!(l.all okR)) = B at *
  go_enter Try.func42, Try.ntmps42
  go_wp2_with (go_at_call 57; refine H.out.mono ?_; rintro e w' ⟨r, rfl, hr, hg⟩)
  go_ret
  exact ⟨by first | rw [hr] | rfl, hg⟩

/-- A script as a value. -/
abbrev scV (vt vp : Value) (c : Cp) : Value := .agg #[vt, vp, .int .i64 c.1, .int .i64 c.2.1, .int .i64 c.2.2.1, .int .i64 c.2.2.2]
set_option maxHeartbeats 4000000 in
theorem check_parts (at' ap : Option Addr) (nt np ct cp' : Nat) (c1 c2 c3 c4 E : Int) (B0 B1 B2 B3 : Bool) (w : World)
    (H0 : Hid (∀ z, Calls Try.prog 41 #[.int .i64 nt] z fun e w' => e = .returned (.bool B0) ∧ Nw z w'))
    (H1 : Hid (∀ z, CV w [(w.heap.size, 0, .slice at' nt ct), (w.heap.size, 1, .slice ap np cp'), (w.heap.size, 2, .int .i64 c1), (w.heap.size, 3, .int .i64 c2), (w.heap.size, 4, .int .i64 c3), (w.heap.size, 5, .int .i64 c4)] z → Calls Try.prog 42 #[.slice at' nt ct, .func (.func 43) #[] #[]] z fun e w' => e = .returned (.bool B1) ∧ Nw z w'))
    (H2 : Hid (∀ z, CV w [(w.heap.size, 0, .slice at' nt ct), (w.heap.size, 1, .slice ap np cp'), (w.heap.size, 2, .int .i64 c1), (w.heap.size, 3, .int .i64 c2), (w.heap.size, 4, .int .i64 c3), (w.heap.size, 5, .int .i64 c4)] z → Calls Try.prog 44 #[.slice ap np cp', .func (.func 45) #[] #[]] z fun e w' => e = .returned (.bool B2) ∧ Nw z w'))
    (H3 : Hid (∀ z, Calls Try.prog 46 #[.agg #[.int .i64 c1, .int .i64 c2, .int .i64 c3, .int .i64 c4]] z fun e w' => e = .returned (.bool B3) ∧ Nw z w'))
    (HA : Hid (∀ z : World, Calls Try.prog 32 #[.slice (some ⟨z.heap.size, 0, none⟩) 5 5] (z.alloc (.cells #[.bool B0, .bool (!B1), .bool (decide ((np : Int) ≤ 4096)), .bool (!B2), .bool B3] 4)) fun e w' => e = .returned (.int .i64 E) ∧ Nw (z.alloc (.cells #[.bool B0, .bool (!B1), .bool (decide ((np : Int) ≤ 4096)), .bool (!B2), .bool B3] 4)) w')) :
    Calls Try.prog 19 #[.agg #[.slice at' nt ct, .slice ap np cp', .int .i64 c1, .int .i64 c2, .int .i64 c3, .int .i64 c4]] w fun e w' => e = .returned (.int .i64 E) ∧ Nw w w' := by
  go_enter Try.func19, Try.ntmps19
  go_wp2
  have hB : CV w [(w.heap.size, 0, .slice at' nt ct), (w.heap.size, 1, .slice ap np cp'), (w.heap.size, 2, .int .i64 c1), (w.heap.size, 3, .int .i64 c2), (w.heap.size, 4, .int .i64 c3), (w.heap.size, 5, .int .i64 c4)] (w.alloc (.cells #[.slice at' nt ct, .slice ap np cp', .int .i64 c1, .int .i64 c2, .int .i64 c3, .int .i64 c4] 28)) := by
    repeat' (first | exact CV.nil ((Nw.refl w).alloc _) | refine CV.cons ?_ ?_)
    all_goals simp [go_sem]
  have k0 : ∀ y, CV w [(w.heap.size, 0, .slice at' nt ct), (w.heap.size, 1, .slice ap np cp'), (w.heap.size, 2, .int .i64 c1), (w.heap.size, 3, .int .i64 c2), (w.heap.size, 4, .int .i64 c3), (w.heap.size, 5, .int .i64 c4)] y → y.cell? ⟨w.heap.size, 0, none⟩ = some (.slice at' nt ct) := fun y h => h.at _ _ _ (by simp)
  have k1 : ∀ y, CV w [(w.heap.size, 0, .slice at' nt ct), (w.heap.size, 1, .slice ap np cp'), (w.heap.size, 2, .int .i64 c1), (w.heap.size, 3, .int .i64 c2), (w.heap.size, 4, .int .i64 c3), (w.heap.size, 5, .int .i64 c4)] y → y.cell? ⟨w.heap.size, 1, none⟩ = some (.slice ap np cp') := fun y h => h.at _ _ _ (by simp)
  have k2 : ∀ y, CV w [(w.heap.size, 0, .slice at' nt ct), (w.heap.size, 1, .slice ap np cp'), (w.heap.size, 2, .int .i64 c1), (w.heap.size, 3, .int .i64 c2), (w.heap.size, 4, .int .i64 c3), (w.heap.size, 5, .int .i64 c4)] y → y.cell? ⟨w.heap.size, 2, none⟩ = some (.int .i64 c1) := fun y h => h.at _ _ _ (by simp)
  have k3 : ∀ y, CV w [(w.heap.size, 0, .slice at' nt ct), (w.heap.size, 1, .slice ap np cp'), (w.heap.size, 2, .int .i64 c1), (w.heap.size, 3, .int .i64 c2), (w.heap.size, 4, .int .i64 c3), (w.heap.size, 5, .int .i64 c4)] y → y.cell? ⟨w.heap.size, 3, none⟩ = some (.int .i64 c2) := fun y h => h.at _ _ _ (by simp)
  have k4 : ∀ y, CV w [(w.heap.size, 0, .slice at' nt ct), (w.heap.size, 1, .slice ap np cp'), (w.heap.size, 2, .int .i64 c1), (w.heap.size, 3, .int .i64 c2), (w.heap.size, 4, .int .i64 c3), (w.heap.size, 5, .int .i64 c4)] y → y.cell? ⟨w.heap.size, 4, none⟩ = some (.int .i64 c3) := fun y h => h.at _ _ _ (by simp)
  have k5 : ∀ y, CV w [(w.heap.size, 0, .slice at' nt ct), (w.heap.size, 1, .slice ap np cp'), (w.heap.size, 2, .int .i64 c1), (w.heap.size, 3, .int .i64 c2), (w.heap.size, 4, .int .i64 c3), (w.heap.size, 5, .int .i64 c4)] y → y.cell? ⟨w.heap.size, 5, none⟩ = some (.int .i64 c4) := fun y h => h.at _ _ _ (by simp)
  go_region_held3 (fun y => CV w [(w.heap.size, 0, .slice at' nt ct), (w.heap.size, 1, .slice ap np cp'), (w.heap.size, 2, .int .i64 c1), (w.heap.size, 3, .int .i64 c2), (w.heap.size, 4, .int .i64 c3), (w.heap.size, 5, .int .i64 c4)] y) (first | assumption | exact CV.step' (Nw.refl _).drew1 hB | exact CV.step' (by assumption) (by assumption) | exact CV.step' ((Nw.refl _).alloc _) (by assumption))
    (first | (go_at_call 41; refine (H0.out _).mono ?_; rintro e w' ⟨rfl, hg⟩) | (go_at_call 42; refine (H1.out _ (by assumption)).mono ?_; rintro e w' ⟨rfl, hg⟩) | (go_at_call 44; refine (H2.out _ (by assumption)).mono ?_; rintro e w' ⟨rfl, hg⟩) | (go_at_call 46; refine (H3.out _).mono ?_; rintro e w' ⟨rfl, hg⟩) | (go_at_call 32; refine (HA.out _).mono ?_; rintro e w' ⟨rfl, hg⟩))
  rename_i hF
  clear k0 k1 k2 k3 k4 k5
  go_wp2
  go_ret
  exact ⟨rfl, hF.2⟩
/-- A script that is read: its threads and its picks. -/
def ScAt (w : World) (vt vp : Value) (s : PS) : Prop := ThsAt w vt s.th ∧ PksAt w vp s.pk
theorem ScAt.nw {w w' : World} {vt vp : Value} {s : PS} (h : ScAt w vt vp s) (g : Nw w w') : ScAt w' vt vp s := ⟨h.1.nw g, h.2.nw g⟩
/-- No part is longer than the walks bear. -/
def Fits (s : PS) : Prop := s.th.length ≤ 100000 ∧ (∀ x ∈ s.th, x.length ≤ 100000) ∧ s.pk.length ≤ 100000
/-- Check(s): OK, or ErrArg if s is not valid. -/
theorem check_any (vt vp : Value) (s : PS) (w : World) (hf : Fits s) (h : ScAt w vt vp s) : Calls Try.prog 19 #[scV vt vp s.cp] w fun e w' => e = .returned (.int .i64 (if okS s = true then 0 else 2)) ∧ Nw w w' := by
  obtain ⟨th, pk, c1, c2, c3, c4⟩ := s
  have hT := fun (z : World) (g : Nw w z) => containsT_any vt th z hf.1 hf.2.1 (h.1.nw g)
  have hP := fun (z : World) (g : Nw w z) => containsP_any vp pk z hf.2.2 (h.2.nw g)
  obtain ⟨⟨at', ct, rfl, _⟩, ap, cp', rfl, _⟩ := h
  have hO : okS ⟨th, pk, (c1, c2, c3, c4)⟩ = (okT th.length && (!(!(th.all okR)) && (decide ((pk.length : Int) ≤ 4096) && (!(!(pk.all okP)) && okC (c1, c2, c3, c4))))) := by
    have : decide ((pk.length : Int) ≤ 4096) = decide (pk.length ≤ 4096) := decide_eq_decide.2 (by omega)
    rw [this]; simp [okS]
  rw [hO]
  exact check_parts at' ap _ _ ct cp' c1 c2 c3 c4 _ _ _ _ _ w (Lib.hid fun z => threadsAllowed_any _ z) (Lib.hid fun z g => hT z g.2) (Lib.hid fun z g => hP z g.2) (Lib.hid fun z => capsAllowed_any (c1, c2, c3, c4) z) (Lib.hid fun z => argUnless_new _ _ _ _ _ z)
end Go.Proofs.Ytmegaipedagcjaa
