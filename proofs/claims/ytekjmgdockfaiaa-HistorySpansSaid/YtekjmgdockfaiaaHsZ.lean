
/- HistorySpans: a wrong event; the law. -/
import Derived.Test.YtekjmgdockfaiaaHsX
import Derived.Test.YtekjmgdockfaiaaHsT
namespace Go.Proofs.Ytekjmgdockfaiaa.historySpans
open Go.RowKit
set_option linter.unusedVariables false      -- a contract need not use every name

theorem take_at {w : World} {a : Option Addr} {c : Nat} {l : List Ev} (h : EvAt w (.slice a l.length c) l) (m : Nat) (hm : m ≤ l.length) : EvAt w (.slice a m c) (l.take m) := by
  obtain ⟨a', c', q, hr⟩ := h
  simp only [Value.slice.injEq] at q
  obtain ⟨rfl, _, rfl⟩ := q
  have hl : (l.take m).length = m := by simp; omega
  rcases hr with rfl | ⟨b, o, rfl, hc⟩
  · exact ⟨a, c, by rw [hl], .inl (by simp)⟩
  · refine ⟨_, c, by rw [hl], .inr ⟨b, o, rfl, hc.1, fun i hi c u hu => ?_⟩⟩
    have hi' : i < l.length := by omega
    simp only [List.getElem_take] at hu
    exact hc.2 i hi' c u hu
set_option maxRecDepth 100000 in
set_option maxHeartbeats 2000000 in
theorem walk_bad (a0 : Option Addr) (cp0 : Nat) (l : List Ev) (w : World) (hl : l.length ≤ 60) (hcap : l.length ≤ cp0) (hfit : ∀ e ∈ l, fitE e) (h : EvAt w (.slice a0 l.length cp0) l) (hx : (trk l 0 []).2.2 ≠ 0) :
    Calls Try.prog 3 #[.slice a0 l.length cp0] w fun e w' => e = .returned (.bool true) ∧ Nw w w' := by
  obtain ⟨h1, h2, h3⟩ := trk_front l 0 [] hx
  have hSl := historyThreads.trk_len l 0 []
  simp only [List.length_nil, Nat.zero_add] at hSl h2
  rw [Nat.sub_zero] at h3
  have HC := Lib.hid (fun (w1 : World) (g : Nw w w1) => check_any _ l w1 (by omega) hfit (h.nw g))
  have HS := Lib.hid (fun (w1 : World) (g : Nw w w1) => spans_any _ l w1 (by omega) hfit (h.nw g))
  have k0 : ¬ (60 : Int) < (l.length : Int) := by omega
  obtain ⟨m, hm⟩ : ∃ m, (trk l 0 []).2.1 = m := ⟨_, rfl⟩
  rw [hm] at HC h2 h3
  have htk : (l.take m).length ≤ 800 := by simp; omega
  have htf : ∀ e ∈ l.take m, fitE e := fun e he => hfit e (List.mem_of_mem_take he)
  have HC2 := Lib.hid (fun (w1 : World) (g : Nw w w1) => check_any _ (l.take m) w1 htk htf ((take_at h m (by omega)).nw g))
  have HS2 := Lib.hid (fun (w1 : World) (g : Nw w w1) => spans_any _ (l.take m) w1 htk htf ((take_at h m (by omega)).nw g))
  rw [h3] at HC2 HS2
  obtain ⟨S, hS⟩ : ∃ S, (trk l 0 []).1 = S := ⟨_, rfl⟩
  obtain ⟨E, hE⟩ : ∃ E, (trk l 0 []).2.2 = E := ⟨_, rfl⟩
  rw [hS] at HS HS2 hSl
  rw [hE] at HC hx
  have d0 : (E != 0) = true := by simpa using hx
  have d1 : ¬ ((m : Int) < 0) := by omega
  have d2 : decide (l.length ≤ m) = false := by simp; omega
  have d3 : ¬ ((l.length : Int) ≤ (m : Int)) := by omega
  have d4 : (0 : Int) ≤ (m : Int) := by omega
  have d5 : (m : Int) ≤ (cp0 : Int) := by omega
  have d6 : m ≤ cp0 := by omega
  clear h1 h3 hm htk htf hS hE hx h hfit
  go_enter Try.func3, Try.ntmps3
  go_wp2_with fail
  refine (lives_ok _).mono ?_
  rintro e wl ⟨rfl, g0⟩
  go_wp2_with fail
  refine (HC.out wl g0).mono ?_
  rintro e w1 ⟨rfl, g1⟩
  have g01 := g0.trans g1
  go_wp2_with fail
  refine (HS.out w1 g01).mono ?_
  rintro e w3 ⟨v3, rfl, g3, hR3⟩
  have g03 := g01.trans g3
  have hA3 := hR3.at
  obtain ⟨a3, c3, hv3, _⟩ := hR3.at
  subst hv3
  have A3 := Lib.hid hA3
  have G3 := Lib.hid g03
  clear g0 g1 g01 g3 g03 hR3 hA3 HC HS
  go_wp2_with fail
  refine (HC2.out w3 G3.out).mono ?_
  rintro e w4 ⟨rfl, g4⟩
  go_wp2_with fail
  refine (HS2.out w4 (G3.out.trans g4)).mono ?_
  rintro e w5 ⟨v5, rfl, g5, hR5⟩
  have hA5 := hR5.at
  obtain ⟨a5, c5, hv5, _⟩ := hR5.at
  subst hv5
  have HSm := Lib.hid (sameS_any _ _ S w5 (by omega) hA5 (A3.out.nw (g4.trans g5)))
  have G5 := Lib.hid ((G3.out.trans g4).trans g5)
  clear g4 g5 hR5 hA5 HC2 HS2
  go_wp2_with fail
  refine HSm.out.mono ?_
  rintro e w6 ⟨rfl, g6⟩
  go_wp2
  go_ret
  exact ⟨rfl, G5.out.trans g6⟩
end Go.Proofs.Ytekjmgdockfaiaa.historySpans
