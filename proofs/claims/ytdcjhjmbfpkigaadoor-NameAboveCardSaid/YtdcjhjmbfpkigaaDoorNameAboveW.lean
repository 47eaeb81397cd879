/- The walk of NameAbove: the ways put together. -/
import Derived.Test.YtdcjhjmbfpkigaaDoorNameAboveC
import Derived.Test.YtdcjhjmbfpkigaaDoorNameAboveD
import Derived.Test.YtdcjhjmbfpkigaaDoorNameAboveE
namespace Go.Proofs.YtdcjhjmbfpkigaaDoor.nameAbove
open Go.ChangeShapes Go.WideShapes Go.ChangeAt Go.RowKit
set_option linter.unusedVariables false      -- a walk need not use every fact
theorem und_t {t r t' r' : Int} (h : lvl t r ≠ -1 ∧ lvl t' r' ≠ -1 ∧ ((t' = -1 ∧ r' = -1) ∨ (t' = t ∧ (r' = -1 ∨ r' = r)))) : und t r t' r' = true := decide_eq_true h
theorem und_f {t r t' r' : Int} (h : ¬ (lvl t r ≠ -1 ∧ lvl t' r' ≠ -1 ∧ ((t' = -1 ∧ r' = -1) ∨ (t' = t ∧ (r' = -1 ∨ r' = r))))) : und t r t' r' = false := decide_eq_false h
theorem walk (a0 b0 a1 b1 : Int) (w0 : (Lit.int .i64 a0).wf = true) (u0 : (Lit.int .i64 b0).wf = true) (w1 : (Lit.int .i64 a1).wf = true) (u1 : (Lit.int .i64 b1).wf = true) (w : World) (hsh : w.ShapedOpen Tryd.prog) :
    Calls Tryd.prog 6 #[.agg #[.int .i64 a0, .int .i64 b0], .agg #[.int .i64 a1, .int .i64 b1]] w fun e w' => e = .returned (.bool true) ∧ Nw w w' := by
  have ne : ∀ {x y : Int}, x ≠ y → (x == y) = false := fun h => beq_eq_false_iff_ne.2 h
  rcases kinds a0 b0 with ⟨rfl, rfl⟩ | ⟨h0, h1, rfl⟩ | ⟨h0, h1, h2, h3⟩ | h
  · exact way_none (-1) (-1) a1 b1 0 w (Lib.hid (.inl lvl_db)) (Lib.hid lvl_db) (by decide)
  · have hk := lvl_tab a0 h0 h1
    have hcmp : or2 (c3 (-1) a0) (c3 (-1) (-1)) = -1 := by rw [c3_lt (-1) a0 (by omega)]; rfl
    have hn : lvl a0 (-1) ≠ -1 := by omega
    by_cases e1 : a1 = a0
    · subst e1
      by_cases e2 : b1 = -1
      · subst e2
        exact tab_self a1 w (Lib.hid hk) (Lib.hid hcmp) (Lib.hid (und_t ⟨hn, hn, .inr ⟨rfl, .inl rfl⟩⟩))
      · exact tab_b a1 b1 w (Lib.hid hk) (Lib.hid hcmp) (ne (by omega)) (ne e2) (Lib.hid (und_f (fun ⟨_, _, h⟩ => by omega)))
    · by_cases e3 : a1 = -1
      · subst e3
        by_cases e2 : b1 = -1
        · subst e2
          exact tab_db a0 w (Lib.hid hk) (Lib.hid hcmp) (ne (by omega)) (Lib.hid (und_t ⟨hn, by decide, .inl ⟨rfl, rfl⟩⟩))
        · exact tab_c a0 b1 w (Lib.hid hk) (Lib.hid hcmp) (ne (by omega)) (ne (by omega)) (Lib.hid (und_f (fun ⟨_, _, h⟩ => by omega)))
      · exact tab_a a0 a1 b1 w (Lib.hid hk) (Lib.hid hcmp) (ne e1) (ne (by omega)) (Lib.hid (und_f (fun ⟨_, _, h⟩ => by omega)))
  · have hk := lvl_rec a0 b0 h0 h1 h2 h3
    have hk1 := lvl_tab a0 h0 h1
    have hcmp : or2 (c3 (-1) a0) (c3 (-1) b0) = -1 := by rw [c3_lt (-1) a0 (by omega)]; rfl
    have hcm2 : or2 (c3 a0 a0) (c3 (-1) b0) = -1 := by rw [c3_eq, c3_lt (-1) b0 (by omega)]; rfl
    have hn : lvl a0 b0 ≠ -1 := by omega
    by_cases e1 : a1 = a0
    · subst e1
      by_cases e2 : b1 = b0
      · subst e2
        exact rec_self a1 b1 w (Lib.hid hk) (Lib.hid hk1) (Lib.hid hcmp) (Lib.hid hcm2) (Lib.hid (und_t ⟨hn, hn, .inr ⟨rfl, .inr rfl⟩⟩))
      · by_cases e3 : b1 = -1
        · subst e3
          exact rec_tab a1 b0 w (Lib.hid hk) (Lib.hid hk1) (Lib.hid hcmp) (Lib.hid hcm2) (ne (by omega)) (ne (by omega)) (Lib.hid (und_t ⟨hn, by omega, .inr ⟨rfl, .inl rfl⟩⟩))
        · exact rec_b a1 b0 b1 w (Lib.hid hk) (Lib.hid hk1) (Lib.hid hcmp) (Lib.hid hcm2) (ne (by omega)) (ne e2) (ne (by omega)) (Lib.hid (und_f (fun ⟨_, _, h⟩ => by omega)))
    · by_cases e3 : a1 = -1
      · subst e3
        by_cases e2 : b1 = -1
        · subst e2
          exact rec_db a0 b0 w (Lib.hid hk) (Lib.hid hk1) (Lib.hid hcmp) (Lib.hid hcm2) (ne (by omega)) (Lib.hid (und_t ⟨hn, by decide, .inl ⟨rfl, rfl⟩⟩))
        · exact rec_c a0 b0 b1 w (Lib.hid hk) (Lib.hid hk1) (Lib.hid hcmp) (Lib.hid hcm2) (ne (by omega)) (ne (by omega)) (ne (by omega)) (Lib.hid (und_f (fun ⟨_, _, h⟩ => by omega)))
      · exact rec_a a0 b0 a1 b1 w (Lib.hid hk) (Lib.hid hk1) (Lib.hid hcmp) (Lib.hid hcm2) (ne e1) (ne (by omega)) (ne (by omega)) (Lib.hid (und_f (fun ⟨_, _, h⟩ => by omega)))
  · exact way_none a0 b0 a1 b1 (-1) w (Lib.hid (.inr h)) (Lib.hid h) (by decide)
end Go.Proofs.YtdcjhjmbfpkigaaDoor.nameAbove
