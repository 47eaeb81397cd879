
/- The program's latches and the document's, side by side; the box of an act. -/
import Derived.Test.YtloendfkfginjaaLtL
import Derived.Test.YtloendfkfginjaaLtRN
import Derived.Test.YtloendfkfginjaaOrd
namespace Go.Proofs.Ytloendfkfginjaa
open Go.RowKit

structure Sc (w W : World) (l : Nat) (hs : List Int) (F : Nat → Prop) (o g cap : Nat) (hs' : List Int) : Prop where
  a : Acc w W l hs F
  b : Lg W o g cap hs'
  on : w.heap.size ≤ o
  gn : w.heap.size ≤ g
  oF : ¬ F o
  gF : ¬ F g
theorem Sc.nw {w W W' : World} {l o g cap : Nat} {hs hs' : List Int} {F : Nat → Prop} (h : Sc w W l hs F o g cap hs') (k : Nw W W') : Sc w W' l hs F o g cap hs' := ⟨h.a.step k, h.b.nw k, h.on, h.gn, h.oF, h.gF⟩
theorem Sc.stepA {w W W' : World} {l o g cap : Nat} {hs hs' hs2 : List Int} {F F' : Nat → Prop} (h : Sc w W l hs F o g cap hs') (a' : Acc w W' l hs2 F') (hf : ∀ k, F' k → F k ∨ W.heap.size ≤ k) (ht : Tch F W W') : Sc w W' l hs2 F' o g cap hs' :=
  ⟨a', ⟨h.b.r.tch ht h.oF (fun k e => by simp [Value.ownBlock] at e; subst e; exact h.gF), h.b.vl⟩, h.on, h.gn, fun e => (hf _ e).elim h.oF (fun q => by have := h.b.r.lt; omega), fun e => (hf _ e).elim h.gF (fun q => by have := h.b.r.is.glt; omega)⟩
theorem Sc.stepB {w W W' : World} {l o g cap : Nat} {hs hs' hs2 : List Int} {F : Nat → Prop} (h : Sc w W l hs F o g cap hs') (k : RTo W o g cap hs2 W') : Sc w W' l hs F o g cap hs2 :=
  ⟨h.a.other k.2 (fun i e => e ▸ h.gn) (fun i e q => h.gF (q ▸ e)), k.1, h.on, h.gn, h.oF, h.gF⟩
theorem sc_start {w W W' : World} {l o g cap : Nat} {hs hs' : List Int} {F : Nat → Prop} (h : Acc w W l hs F) (b : Lg W' o g cap hs') (ho : W.heap.size ≤ o) (hg : W.heap.size ≤ g) (k : Nw W W') : Sc w W' l hs F o g cap hs' :=
  ⟨h.step k, b, Nat.le_trans h.nw.sz ho, Nat.le_trans h.nw.sz hg, fun e => by have := h.lat.own o e; omega, fun e => by have := h.lat.own g e; omega⟩
/-- The box of an act: three numbers, in a block that neither writes. -/
structure Bx (W : World) (xb : Nat) (F : Nat → Prop) (g : Nat) (f : Nat → Int) : Prop where
  lt : xb < W.heap.size
  nF : ¬ F xb
  ne : xb ≠ g
  cell : ∀ j, j < 3 → W.cell? ⟨xb, j, none⟩ = some (.int .i64 (f j))
theorem Bx.stepA {W W' : World} {xb g : Nat} {F F' : Nat → Prop} {f : Nat → Int} (h : Bx W xb F g f) (hf : ∀ k, F' k → F k ∨ W.heap.size ≤ k) (ht : Tch F W W') : Bx W' xb F' g f :=
  ⟨Nat.lt_of_lt_of_le h.lt ht.size, fun e => (hf xb e).elim h.nF (fun q => by have := h.lt; omega), h.ne, fun j hj => (ht.cell h.lt h.nF).trans (h.cell j hj)⟩
theorem Bx.stepB {W W' : World} {xb g : Nat} {F : Nat → Prop} {f : Nat → Int} (h : Bx W xb F g f) (ht : Tch (fun k => k = g) W W') : Bx W' xb F g f :=
  ⟨Nat.lt_of_lt_of_le h.lt ht.size, h.nF, h.ne, fun j hj => (ht.cell h.lt h.ne).trans (h.cell j hj)⟩
theorem Bx.nw {W W' : World} {xb g : Nat} {F : Nat → Prop} {f : Nat → Int} (h : Bx W xb F g f) (k : Nw W W') : Bx W' xb F g f :=
  ⟨Nat.lt_of_lt_of_le h.lt k.sz, h.nF, h.ne, fun j hj => (k.cell h.lt).trans (h.cell j hj)⟩
def Three (xb : Nat) (f0 f1 f2 : Int) (x : World) : Prop := x.cell? ⟨xb, 0, none⟩ = some (.int .i64 f0) ∧ x.cell? ⟨xb, 1, none⟩ = some (.int .i64 f1) ∧ x.cell? ⟨xb, 2, none⟩ = some (.int .i64 f2)
theorem Bx.three {W : World} {xb g : Nat} {F : Nat → Prop} {f : Nat → Int} (h : Bx W xb F g f) : Three xb (f 0) (f 1) (f 2) W := ⟨h.cell 0 (by omega), h.cell 1 (by omega), h.cell 2 (by omega)⟩

theorem sx_tryA {w W : World} {l o g cap xb : Nat} {hs hs' : List Int} {F : Nat → Prop} {f : Nat → Int} (h : Sc w W l hs F o g cap hs') (x : Bx W xb F g f) (k t : Int) (b : Bool) (E : Int) (hR : tryR hs k t = (b, E)) :
    Calls Try.prog 10 #[.pointer (some ⟨l, 0, none⟩), .int .i64 k, .int .i64 t] W fun e W' => e = .returned (.tuple #[.bool b, .int .i64 E]) ∧ ∃ F', Sc w W' l (tryS hs k t) F' o g cap hs' ∧ Bx W' xb F' g f :=
  (acc_try h.a k t b E _ hR rfl).mono fun _ _ ⟨h1, F', h2, h3, h4⟩ => ⟨h1, F', h.stepA h2 h3 h4, x.stepA h3 h4⟩
theorem sx_tryB {w W : World} {l o g cap xb : Nat} {hs hs' : List Int} {F : Nat → Prop} {f : Nat → Int} (h : Sc w W l hs F o g cap hs') (x : Bx W xb F g f) (k t : Int) (b : Bool) (E : Int) (hR : tryR hs' k t = (b, E)) :
    Calls Try.prog 19 #[.pointer (some ⟨o, 0, none⟩), .int .i64 k, .int .i64 t] W fun e W' => e = .returned (.tuple #[.bool b, .int .i64 E]) ∧ Sc w W' l hs F o g cap (tryS hs' k t) ∧ Bx W' xb F g f := by
  refine (rtry_at o g cap hs' k t W h.b).mono ?_
  rintro e W' ⟨h1, h2⟩
  rw [hR] at h1
  exact ⟨h1, h.stepB h2, x.stepB h2.2⟩
theorem sx_freeA {w W : World} {l o g cap xb : Nat} {hs hs' : List Int} {F : Nat → Prop} {f : Nat → Int} (h : Sc w W l hs F o g cap hs') (x : Bx W xb F g f) (k t : Int) (E : Int) (hR : freeE hs k t = E) :
    Calls Try.prog 11 #[.pointer (some ⟨l, 0, none⟩), .int .i64 k, .int .i64 t] W fun e W' => e = .returned (.int .i64 E) ∧ ∃ F', Sc w W' l (freeS hs k t) F' o g cap hs' ∧ Bx W' xb F' g f :=
  (acc_free h.a k t E _ hR rfl).mono fun _ _ ⟨h1, F', h2, h3, h4⟩ => ⟨h1, F', h.stepA h2 h3 h4, x.stepA h3 h4⟩
theorem sx_freeB {w W : World} {l o g cap xb : Nat} {hs hs' : List Int} {F : Nat → Prop} {f : Nat → Int} (h : Sc w W l hs F o g cap hs') (x : Bx W xb F g f) (k t : Int) (E : Int) (hR : freeE hs' k t = E) :
    Calls Try.prog 20 #[.pointer (some ⟨o, 0, none⟩), .int .i64 k, .int .i64 t] W fun e W' => e = .returned (.int .i64 E) ∧ Sc w W' l hs F o g cap (freeS hs' k t) ∧ Bx W' xb F g f := by
  refine (rfree_at o g cap hs' k t W h.b).mono ?_
  rintro e W' ⟨h1, h2⟩
  rw [hR] at h1
  exact ⟨h1, h.stepB h2, x.stepB h2.2⟩
theorem sx_holderB {w W : World} {l o g cap : Nat} {hs hs' : List Int} {F : Nat → Prop} (h : Sc w W l hs F o g cap hs') (k x : Int) (b : Bool) (hR : holdR hs' k = (x, b)) :
    Calls Try.prog 21 #[.pointer (some ⟨o, 0, none⟩), .int .i64 k] W fun e W' => e = .returned (.tuple #[.int .i64 x, .bool b]) ∧ W = W' := by
  refine (rholder_at o g cap hs' k W h.b).mono ?_
  rintro e W' ⟨h1, h2⟩
  rw [hR] at h1
  exact ⟨h1, h2⟩
end Go.Proofs.Ytloendfkfginjaa
