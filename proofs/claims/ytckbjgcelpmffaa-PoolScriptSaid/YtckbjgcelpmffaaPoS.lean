
/- A pool of the call's own, step by step; lives; rows of numbers that came in. -/
import Derived.Test.YtckbjgcelpmffaaPoL
namespace Go.Proofs.Ytckbjgcelpmffaa
open Go.RowKit
set_option linter.unusedVariables false

/-- A pool of the call's own: nothing that was there has changed. -/
structure PAcc (w W : World) (p : Nat) (L : List Bool) (F : Nat → Prop) : Prop where
  po : Pol W p L F
  new : ∀ k, F k → w.heap.size ≤ k
  nw : Nw w W
theorem PAcc.step {w W W' : World} {p : Nat} {L : List Bool} {F : Nat → Prop} (h : PAcc w W p L F) (k : Nw W W') : PAcc w W' p L F := ⟨h.po.nw k, h.new, h.nw.trans k⟩
/-- A step of such a pool: what else changes. -/
def PAccTo (w W : World) (p : Nat) (F : Nat → Prop) (L : List Bool) (W' : World) : Prop := ∃ F', PAcc w W' p L F' ∧ (∀ k, F' k → F k ∨ W.heap.size ≤ k) ∧ Tch F W W'
theorem PAcc.to {w W W' : World} {p : Nat} {L L' : List Bool} {F : Nat → Prop} (h : PAcc w W p L F) (k : PolTo W p F L' W') : PAccTo w W p F L' W' := by
  obtain ⟨F', h1, h2, h3⟩ := k
  exact ⟨F', ⟨h1, fun k e => (h2 k e).elim (h.new k) (fun q => Nat.le_trans h.nw.sz q), nw_tch h.nw h3 h.new⟩, h2, h3⟩
theorem pacc_new (w W : World) (hW : Nw w W) (n : Int) (N : Nat) (hn : n = N) (hN : N ≤ 128) :
    Calls Try.prog 9 #[.int .i64 n] W fun e W' => ∃ p F, e = .returned (.tuple #[.pointer (some ⟨p, 0, none⟩), .int .i64 0]) ∧ PAcc w W' p (List.replicate N false) F ∧ Nw W W' ∧ (∀ k, F k → W.heap.size ≤ k) := by
  subst hn
  refine (pnew_any N hN W).mono ?_
  rintro e W' ⟨p, F, rfl, h1, h2, h3⟩
  exact ⟨p, F, rfl, ⟨h1, fun k e => Nat.le_trans hW.sz (h3 k e), hW.trans h2⟩, h2, h3⟩
theorem pacc_take {w W : World} {p : Nat} {L : List Bool} {F : Nat → Prop} (h : PAcc w W p L F) (x E : Int) (L' : List Bool) (hR : tkR L = (x, E)) (hS : tkL L = L') :
    Calls Try.prog 10 #[.pointer (some ⟨p, 0, none⟩)] W fun e W' => e = .returned (.tuple #[.int .i64 x, .int .i64 E]) ∧ PAccTo w W p F L' W' := by
  refine (take_any h.po).mono ?_
  rintro e W' ⟨h1, h2⟩
  rw [hR] at h1
  rw [hS] at h2
  exact ⟨h1, h.to h2⟩
theorem pacc_give {w W : World} {p : Nat} {L : List Bool} {F : Nat → Prop} (h : PAcc w W p L F) (n E : Int) (L' : List Bool) (hR : gvR L n = E) (hS : gvL L n = L') :
    Calls Try.prog 11 #[.pointer (some ⟨p, 0, none⟩), .int .i64 n] W fun e W' => e = .returned (.int .i64 E) ∧ PAccTo w W p F L' W' := by
  refine (give_any h.po n).mono ?_
  rintro e W' ⟨h1, h2⟩
  rw [hR] at h1
  rw [hS] at h2
  exact ⟨h1, h.to h2⟩
theorem pacc_give_bad {w W : World} {p : Nat} {L : List Bool} {F : Nat → Prop} (h : PAcc w W p L F) (n : Int) (q : hsL L n = false) :
    Calls Try.prog 11 #[.pointer (some ⟨p, 0, none⟩), .int .i64 n] W fun e W' => e = .returned (.int .i64 5) ∧ W = W' := by
  obtain ⟨g, v, l, hp, _⟩ := h.po
  exact give_bad hp n q
theorem pacc_full {w W : World} {p : Nat} {L : List Bool} {F : Nat → Prop} (h : PAcc w W p L F) (q : ¬ fre L < L.length) :
    Calls Try.prog 10 #[.pointer (some ⟨p, 0, none⟩)] W fun e W' => e = .returned (.tuple #[.int .i64 0, .int .i64 8]) ∧ W = W' := by
  obtain ⟨g, v, l, hp, _⟩ := h.po
  exact take_full hp q
theorem pacc_has {w W : World} {p : Nat} {L : List Bool} {F : Nat → Prop} (h : PAcc w W p L F) (n : Int) (b : Bool) (hR : hsL L n = b) :
    Calls Try.prog 13 #[.pointer (some ⟨p, 0, none⟩), .int .i64 n] W fun e W' => e = .returned (.bool b) ∧ W = W' := by
  subst hR
  obtain ⟨g, v, l, hp, _⟩ := h.po
  exact has_at hp n
theorem pacc_live {w W : World} {p : Nat} {L : List Bool} {F : Nat → Prop} (h : PAcc w W p L F) (K : Nat) (hR : liv L = K) :
    Calls Try.prog 14 #[.pointer (some ⟨p, 0, none⟩)] W fun e W' => e = .returned (.int .i64 K) ∧ Nw W W' := by
  subst hR
  obtain ⟨g, v, l, hp, _⟩ := h.po
  exact live_at hp
theorem pacc_most {w W : World} {p : Nat} {L : List Bool} {F : Nat → Prop} (h : PAcc w W p L F) (K : Nat) (hR : L.length = K) :
    Calls Try.prog 15 #[.pointer (some ⟨p, 0, none⟩)] W fun e W' => e = .returned (.int .i64 K) ∧ W = W' := by
  subst hR
  obtain ⟨g, v, l, hp, _⟩ := h.po
  exact most_at hp
theorem pacc_lent {w W : World} {p : Nat} {L : List Bool} {F : Nat → Prop} (h : PAcc w W p L F) (zs : List Int) (hR : castL (lnt L) = zs) :
    Calls Try.prog 12 #[.pointer (some ⟨p, 0, none⟩)] W (LentP W zs) := by
  subst hR
  exact lent_any p L F W h.po

set_option maxHeartbeats 1000000 in
theorem lives_ok (w : World) : Calls Try.prog 8 #[] w fun e w' => e = .returned (.bool true) ∧ Nw w w' := by
  go_enter Try.func8, Try.ntmps8
  go_wp2_with fail
  refine (pacc_new w w (Nw.refl w) 3 3 rfl (by omega)).mono ?_
  rintro e w0 ⟨p, F0, rfl, h, _, _⟩
  have H0 := Lib.hid h
  clear h
  go_wp2_with fail
  refine (pacc_take H0.out 0 0 [true, false, false] (by decide) (by decide)).mono ?_
  rintro e w1 ⟨rfl, F1, h, _, _⟩
  have H1 := Lib.hid h
  clear h H0
  go_wp2_with fail
  refine (pacc_take H1.out 1 0 [true, true, false] (by decide) (by decide)).mono ?_
  rintro e w2 ⟨rfl, F2, h, _, _⟩
  have H2 := Lib.hid h
  clear h H1
  go_wp2_with fail
  refine (pacc_give H2.out 0 0 [false, true, false] (by decide) (by decide)).mono ?_
  rintro e w3 ⟨rfl, F3, h, _, _⟩
  have H3 := Lib.hid h
  clear h H2
  go_wp2_with fail
  refine (pacc_take H3.out 0 0 [true, true, false] (by decide) (by decide)).mono ?_
  rintro e w4 ⟨rfl, F4, h, _, _⟩
  have H4 := Lib.hid h
  clear h H3
  go_wp2
  go_ret
  exact ⟨rfl, H4.out.nw⟩

/-- What the walk is told of a slice of numbers that came in. -/
def IsNum (w : World) (a : Option Addr) (len cap : Nat) (zs : List Int) : Prop :=
  (a = none ∧ len = 0 ∧ cap = 0 ∧ zs = []) ∨
  ∃ x, a = some x ∧ len ≤ cap ∧ cap ≤ maxLen ∧ zs.length = cap ∧ (∀ i, i < zs.length → w.cell? (x.add i) = some (.int .i64 (zs.getD i 0))) ∧ ∀ n ∈ zs, (Lit.int .i64 n).wf = true
theorem IsNum.at {w : World} {a : Option Addr} {len cap : Nat} {zs : List Int} (h : IsNum w a len cap zs) (hl : 0 < len) : ∃ b o, a = some ⟨b, o, none⟩ ∧ len ≤ maxLen ∧ b < w.heap.size ∧ (∀ i, i < len → w.cell? ⟨b, o + i, none⟩ = some (.int .i64 (zs.getD i 0))) ∧ ∀ i, i < len → (Lit.int .i64 (zs.getD i 0)).wf = true := by
  rcases h with ⟨_, h0, _⟩ | ⟨x, rfl, h1, h2, h3, h4, h5⟩
  · omega
  · obtain ⟨b, o, spot⟩ := x
    have hs : spot = none := by simpa [Addr.add] using World.cell?_spot (h4 0 (by omega))
    subst hs
    have hc : ∀ i, i < len → w.cell? ⟨b, o + i, none⟩ = some (.int .i64 (zs.getD i 0)) := fun i hi => by
      have := h4 i (by omega)
      rwa [Addr.add_lit] at this
    refine ⟨b, o, rfl, by omega, World.block_lt_of_cell? _ _ (hc 0 hl), hc, fun i hi => h5 _ ?_⟩
    have : i < zs.length := by omega
    simp [List.getD, this]
end Go.Proofs.Ytckbjgcelpmffaa
