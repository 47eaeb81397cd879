
/- LatchUndo: its facts. -/
import Derived.Test.YtloendfkfginjaaLtO
import Derived.Test.YtloendfkfginjaaOrd
namespace Go.Proofs.Ytloendfkfginjaa
open Go.RowKit

theorem takT_set (hs : List Int) (i : Nat) (t : Int) (hi : i < hs.length) (h1 : ho hs i = -1) (ht : 0 ≤ t) (k : Nat) : takT (hs.set i t) k = takT hs k + if i < k then 1 else 0 := by
  induction k with
  | zero => simp [takT]
  | succ k ih =>
    rw [takT_succ, takT_succ, ih]
    unfold takB
    rw [ho_set hs i k t hi]
    by_cases e : i = k
    · subst e
      rw [if_pos rfl, h1]
      simp [ht]
    · rw [if_neg e]
      by_cases x : 0 ≤ ho hs k
      · simp only [x, decide_true, if_true]
        by_cases q : i < k
        · rw [if_pos q, if_pos (by omega)] <;> omega
        · rw [if_neg q, if_neg (by omega)]
      · simp only [x, decide_false, Bool.false_eq_true, if_false]
        by_cases q : i < k
        · rw [if_pos q, if_pos (by omega)]
        · rw [if_neg q, if_neg (by omega)]
theorem takL_set (hs : List Int) (i : Nat) (t : Int) (hi : i < hs.length) (h1 : ho hs i = -1) (ht : 0 ≤ t) : takL (hs.set i t) = takL hs + 1 := by
  unfold takL
  rw [List.length_set, takT_set hs i t hi h1 ht, if_pos hi]
theorem set_back (hs : List Int) (i : Nat) (t : Int) (hi : i < hs.length) (h1 : ho hs i = -1) : (hs.set i t).set i (-1) = hs := by
  rw [List.set_set]
  have e : hs[i] = -1 := by simpa [ho, List.getD, hi] using h1
  rw [← e]
  exact List.set_getElem_self hi
/-- Latches of the call's own, and a list that Held returned, in a block of its own. -/
structure Wa (w W : World) (l : Nat) (hs : List Int) (F : Nat → Prop) (v : Value) (zs : List Int) : Prop where
  a : Acc w W l hs F
  z : IS W v zs
  zF : ∀ g, v.ownBlock = some g → ¬ F g
theorem Wa.nw {w W W' : World} {l : Nat} {hs : List Int} {F : Nat → Prop} {v : Value} {zs : List Int} (h : Wa w W l hs F v zs) (k : Nw W W') : Wa w W' l hs F v zs := ⟨h.a.step k, h.z.nw k, h.zF⟩
theorem Wa.to {w W W' : World} {l : Nat} {hs hs' : List Int} {F : Nat → Prop} {v : Value} {zs : List Int} (h : Wa w W l hs F v zs) (k : AccTo w W l hs' F W') : ∃ F', Wa w W' l hs' F' v zs := by
  obtain ⟨F', h1, h2, h3⟩ := k
  exact ⟨F', h1, h.z.tch h3 h.zF, fun g e q => (h2 g q).elim (h.zF g e) (fun q => by have := h.z.lt e; omega)⟩
theorem wa_new {w W W' : World} {l : Nat} {hs : List Int} {F : Nat → Prop} {v : Value} {zs : List Int} (h : Acc w W l hs F) (hI : IS W' v zs) (hv : ∀ k, v.ownBlock = some k → W.heap.size ≤ k) (hG : Nw W W') : Wa w W' l hs F v zs :=
  ⟨h.step hG, hI, fun g e q => by have := h.lat.own g q; have := hv g e; omega⟩
theorem wa_try {w W : World} {l : Nat} {hs : List Int} {F : Nat → Prop} {v : Value} {zs : List Int} (x : Wa w W l hs F v zs) (k t : Int) (b : Bool) (E : Int) (hs' : List Int) (hR : tryR hs k t = (b, E) ∧ tryS hs k t = hs') :
    Calls Try.prog 10 #[.pointer (some ⟨l, 0, none⟩), .int .i64 k, .int .i64 t] W fun e W' => e = .returned (.tuple #[.bool b, .int .i64 E]) ∧ ∃ F', Wa w W' l hs' F' v zs := by
  obtain ⟨h1, rfl⟩ := hR
  exact (acc_try x.a k t b E _ h1 rfl).mono fun _ _ ⟨h1, h2⟩ => ⟨h1, x.to h2⟩
theorem wa_free {w W : World} {l : Nat} {hs : List Int} {F : Nat → Prop} {v : Value} {zs : List Int} (x : Wa w W l hs F v zs) (k t : Int) (E : Int) (hs' : List Int) (hR : freeE hs k t = E ∧ freeS hs k t = hs') :
    Calls Try.prog 11 #[.pointer (some ⟨l, 0, none⟩), .int .i64 k, .int .i64 t] W fun e W' => e = .returned (.int .i64 E) ∧ ∃ F', Wa w W' l hs' F' v zs := by
  obtain ⟨h1, rfl⟩ := hR
  exact (acc_free x.a k t E _ h1 rfl).mono fun _ _ ⟨h1, h2⟩ => ⟨h1, x.to h2⟩
theorem ne_b {a b : Int} (h : a ≠ b) : (a == b) = false := by simpa using h
theorem hold_free {hs : List Int} {i : Nat} (h : ho hs i = -1) : holdR hs i = (0, false) := by
  unfold holdR
  simp only [Int.toNat_natCast]
  rw [if_neg (fun e => by have := e.2.2; omega)]
theorem hold_yes {hs : List Int} {i : Nat} (hi : i < hs.length) (h : 0 ≤ ho hs i) : holdR hs i = (ho hs i, true) := by
  unfold holdR
  simp only [Int.toNat_natCast]
  rw [if_pos ⟨by omega, by omega, h⟩]
/-- Two numbers of an act, in a place that is not written. -/
def TwoC (b p : Nat) (g1 g2 : Int) (x : World) : Prop := x.cell? ⟨b, p + 1, none⟩ = some (.int .i64 g1) ∧ x.cell? ⟨b, p + 2, none⟩ = some (.int .i64 g2)
end Go.Proofs.Ytloendfkfginjaa
