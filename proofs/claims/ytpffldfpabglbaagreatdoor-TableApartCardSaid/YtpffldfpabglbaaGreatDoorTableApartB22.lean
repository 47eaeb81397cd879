/- Texts merged: TcM -/
import Derived.Test.YtpffldfpabglbaaGreatDoorTableApartB21

/- TableApart: whatever the arguments are. -/
section
namespace Go.Proofs.YtpffldfpabglbaaGreatDoor
open Go.ChangeShapes Go.WideShapes Go.ChangeAt Go.RowKit Go.Deep
set_option linter.unusedVariables false

theorem len2 {cs : List Value} (h : cs.length = 2) : ∃ v0 v1, cs = [v0, v1] := by
  match cs, h with
  | [v0, v1], _ => exact ⟨v0, v1, rfl⟩
set_option maxRecDepth 100000 in
/-- A name that is handed in. -/
theorem open_nmv {H : Type} {enc : TypeId × Value → H} {w : World} {base : Nat} {spare : Nat → Bool} {held : Bool} {v : Value} {d : DataW H} {p : List MemPlace} {r : Reach} {b0 : Nat} (hv : Value.okWide Tryz.prog w r b0 34 v) (h : DataW.Trod enc Tryz.prog w base spare held 34 v d p) : ∃ a0 a1, v = .agg #[.int .i64 a0, .int .i64 a1] ∧ (Lit.int .i64 a0).wf = true ∧ (Lit.int .i64 a1).wf = true := by
  obtain ⟨cs, rfl, hsz⟩ := okWide_struct Tryz.underlying34 hv
  obtain ⟨fuel, hf⟩ := h
  obtain ⟨l⟩ := cs
  simp only [Value.cells] at hf
  obtain ⟨xs, n, _, _, hl, hxl, hg⟩ := DataW.trod_struct Tryz.underlying34 hf
  rw [cellsNm] at hl
  obtain ⟨v0, v1, rfl⟩ := len2 hl
  obtain ⟨a, b, rfl, rfl, h1, h2⟩ := open_nm hf
  exact ⟨a, b, rfl, h1, h2⟩
end Go.Proofs.YtpffldfpabglbaaGreatDoor
namespace Go.Proofs.YtpffldfpabglbaaGreatDoor.tableApart
open Go.RowKit Go.Shelf
set_option linter.unusedVariables false

set_option maxRecDepth 100000 in
set_option maxHeartbeats 4000000 in
theorem walk_bad (v : Value) (l : List Cl) (w : World) (hl : Rd 6 clrow w v l) (t r : Int) (h : l.length ≤ 40 → lvl t r = -1) :
    Calls Tryz.prog 6 #[v, .agg #[.int .i64 t, .int .i64 r]] w fun e w' => e = .returned (.bool true) ∧ Nw w w' := by
  obtain ⟨va, vc, rfl, _⟩ := hl
  have HCk := Lib.hid h
  have hal := allocAt w (.cells #[.int .i64 t, .int .i64 r] 34)
  obtain ⟨z, hz⟩ : ∃ z, w.alloc (.cells #[.int .i64 t, .int .i64 r] 34) = z := ⟨_, rfl⟩
  have hN0 : Nw w z := by rw [← hz]; exact (Nw.refl w).alloc _
  rw [hz] at hal
  have HZ := Lib.hid hz
  have HX := Lib.hid (And.intro hal hN0)
  have HN0 := Lib.hid (fun y (g : Nw z y) => hcell (j := 0) (g.at' HX.out.1))
  have HN1 := Lib.hid (fun y (g : Nw z y) => hcell (j := 1) (g.at' HX.out.1))
  clear hz hal hN0 h
  go_enter Tryz.func6, Tryz.ntmps6
  go_wp2_with fail
  rw [HZ.out]
  refine (lives_t z).mono ?_
  rintro e w1 ⟨rfl, g1⟩
  have HG1 := Lib.hid g1
  have c0 := HN0.out _ g1
  have c1 := HN1.out _ g1
  clear g1
  by_cases h0 : l.length ≤ 40
  · have d0 : decide ((40 : Int) < (l.length : Int)) = false := by rw [decide_eq_false_iff_not]; omega
    have HK := Lib.hid (fun W => refCheck_no t r W (HCk.out h0))
    go_wp2_with fail
    refine (HK.out w1).mono ?_
    rintro e w2 ⟨rfl, g2⟩
    have HE := Lib.hid (HX.out.2.trans (HG1.out.trans g2))
    clear g2 HG1 c0 c1
    go_wp2
    go_ret
    exact ⟨rfl, HE.out⟩
  · have d0 : decide ((40 : Int) < (l.length : Int)) = true := by rw [decide_eq_true_eq]; omega
    have HE := Lib.hid (HX.out.2.trans HG1.out)
    clear HG1 c0 c1
    go_wp2
    go_ret
    exact ⟨rfl, HE.out⟩
theorem law_any (v : Value) (l : List Cl) (t r : Int) (w : World) (hl : Rd 6 clrow w v l) (hok : ∀ R ∈ l, Cl.ok R) (u : (Lit.int .i64 t).wf = true) (y : (Lit.int .i64 r).wf = true) :
    Calls Tryz.prog 6 #[v, .agg #[.int .i64 t, .int .i64 r]] w fun e w' => e = .returned (.bool true) ∧ Nw w w' := by
  by_cases h : l.length ≤ 40
  · by_cases hv : lvl t r = -1
    · exact walk_bad v l w hl t r (fun _ => hv)
    · exact walk v l w hl h t r hv
  · exact walk_bad v l w hl t r (fun e => absurd e h)
end Go.Proofs.YtpffldfpabglbaaGreatDoor.tableApart
end
