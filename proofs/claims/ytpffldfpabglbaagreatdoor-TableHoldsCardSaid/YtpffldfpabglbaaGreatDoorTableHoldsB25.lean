/- Texts merged: TcI -/
import Derived.Test.YtpffldfpabglbaaGreatDoorTableHoldsB24

/- TableHolds: whatever the arguments are. -/
section
namespace Go.Proofs.YtpffldfpabglbaaGreatDoor.tableHolds
open Go.RowKit Go.Shelf
set_option linter.unusedVariables false

set_option maxRecDepth 100000 in
set_option maxHeartbeats 4000000 in
theorem walk_bad (C : Cps) (h : ¬ CapsOk C) (v : Value) (l : List Cl) (w : World) (hl : Rd 6 clrow w v l) (h0 : l.length ≤ 50) :
    Calls Tryz.prog 4 #[capV C, v] w fun e w' => e = .returned (.bool true) ∧ Nw w w' := by
  obtain ⟨va, vc, rfl, _⟩ := hl
  have d0 : decide ((50 : Int) < (l.length : Int)) = false := by rw [decide_eq_false_iff_not]; omega
  have HNe := Lib.hid (fun W => newT_bad C h W)
  obtain ⟨S, n, N, p⟩ := C
  unfold capV at *
  simp only at HNe ⊢
  have ha3 := allocAt w (.cells #[.int .i64 S, .int .i64 n, .int .i64 N, .int .i64 p] 23)
  obtain ⟨z, hz⟩ : ∃ z, w.alloc (.cells #[.int .i64 S, .int .i64 n, .int .i64 N, .int .i64 p] 23) = z := ⟨_, rfl⟩
  have hN0 : Nw w z := by rw [← hz]; exact (Nw.refl w).alloc _
  rw [hz] at ha3
  have HZ := Lib.hid hz
  have HX := Lib.hid (And.intro ha3 hN0)
  clear hz ha3 hN0 h0 h
  go_enter Tryz.func4, Tryz.ntmps4
  go_wp2_with fail
  rw [HZ.out]
  refine (lives_t z).mono ?_
  rintro e w1 ⟨rfl, g1⟩
  have HG1 := Lib.hid g1
  have hb1 := g1.at' HX.out.1
  have c0 := hcell (j := 0) hb1
  have c1 := hcell (j := 1) hb1
  have c2 := hcell (j := 2) hb1
  have c3 := hcell (j := 3) hb1
  have cl := hlt hb1
  clear g1 hb1
  go_wp2_with fail
  refine (HNe.out w1).mono ?_
  rintro e w2 ⟨rfl, g2⟩
  have HE := Lib.hid (HX.out.2.trans (HG1.out.trans g2))
  clear g2 HG1
  go_wp2
  go_ret
  exact ⟨rfl, HE.out⟩
set_option maxRecDepth 100000 in
set_option maxHeartbeats 2000000 in
theorem law_any (a b c d : Int) (v : Value) (l : List Cl) (w : World) (hl : Rd 6 clrow w v l) (hok : ∀ R ∈ l, Cl.ok R) :
    Calls Tryz.prog 4 #[.agg #[.int .i64 a, .int .i64 b, .int .i64 c, .int .i64 d], v] w fun e w' => e = .returned (.bool true) ∧ Nw w w' := by
  by_cases h : l.length ≤ 50
  · by_cases hC : CapsOk ⟨a, b, c, d⟩
    · obtain ⟨⟨s1, s2⟩, ⟨n1, n2⟩, ⟨N1, N2⟩, _⟩ := id hC
      simp only at s1 n1 N1
      obtain ⟨S, rfl⟩ := Int.eq_ofNat_of_zero_le (show 0 ≤ a by omega)
      obtain ⟨n, rfl⟩ := Int.eq_ofNat_of_zero_le (show 0 ≤ b by omega)
      obtain ⟨N, rfl⟩ := Int.eq_ofNat_of_zero_le (show 0 ≤ c by omega)
      exact walk S n N d hC v l w hl hok h
    · exact walk_bad ⟨a, b, c, d⟩ hC v l w hl h
  · obtain ⟨va, vc, rfl, _⟩ := hl
    have d0 : decide ((50 : Int) < (l.length : Int)) = true := by rw [decide_eq_true_eq]; omega
    have HN := Lib.hid (Nw.refl w)
    clear h hok
    have HG := Lib.hid ((Nw.refl w).alloc (.cells #[.int .i64 a, .int .i64 b, .int .i64 c, .int .i64 d] 23))
    go_enter Tryz.func4, Tryz.ntmps4
    go_wp2_with fail
    refine (lives_t _).mono ?_
    rintro e w1 ⟨rfl, g1⟩
    have HG1 := Lib.hid (HG.out.trans g1)
    clear g1 HG
    go_wp2_with fail
    go_ret
    exact ⟨rfl, HG1.out⟩
end Go.Proofs.YtpffldfpabglbaaGreatDoor.tableHolds
end
