
/- Both clocks, and the box of an act; the walk of TicksScript up to its calls. -/
import Derived.Test.YtolpccchhjcddaaTkRF
import Derived.Test.YtolpccchhjcddaaOrd
namespace Go.Proofs.Ytolpccchhjcddaa
open Go.RowKit Go.Shelf

/-- The box of an act: five numbers, in a block that neither clock writes. -/
structure Bx (W : World) (xb : Nat) (F : Nat → Prop) (cb : Nat) (f : Nat → Int) : Prop where
  lt : xb < W.heap.size
  nF : ¬ F xb
  ne : xb ≠ cb
  cell : ∀ j, j < 5 → W.cell? ⟨xb, j, none⟩ = some (.int .i64 (f j))
theorem Bx.stepA {W W' : World} {xb cb : Nat} {F F' : Nat → Prop} {f : Nat → Int} (h : Bx W xb F cb f) (hf : ∀ k, F' k → F k ∨ W.heap.size ≤ k) (ht : Tch F W W') : Bx W' xb F' cb f :=
  ⟨Nat.lt_of_lt_of_le h.lt ht.size, fun e => (hf xb e).elim h.nF (fun q => by have := h.lt; omega), h.ne, fun j hj => (ht.cell h.lt h.nF).trans (h.cell j hj)⟩
theorem Bx.stepB {W W' : World} {xb cb : Nat} {F : Nat → Prop} {f : Nat → Int} (h : Bx W xb F cb f) (ht : Tch (fun k => k = cb) W W') : Bx W' xb F cb f :=
  ⟨Nat.lt_of_lt_of_le h.lt ht.size, h.nF, h.ne, fun j hj => (ht.cell h.lt h.ne).trans (h.cell j hj)⟩
theorem Bx.nw {W W' : World} {xb cb : Nat} {F : Nat → Prop} {f : Nat → Int} (h : Bx W xb F cb f) (k : Nw W W') : Bx W' xb F cb f :=
  ⟨Nat.lt_of_lt_of_le h.lt k.sz, h.nF, h.ne, fun j hj => (k.cell h.lt).trans (h.cell j hj)⟩
theorem sx_setA {w W : World} {ca cb xb : Nat} {t t' : Int} {s s' : List Tm} {F : Nat → Prop} {v : Value} {f : Nat → Int} (h : Sc w W ca t s F cb t' v s') (x : Bx W xb F cb f) (hsm : s.length ≤ 50000) (a who mark : Int) :
    Calls Try.prog 9 #[.pointer (some ⟨ca, 0, none⟩), .int .i64 a, .int .i64 who, .int .i64 mark] W fun e W' => e = .returned (.int .i64 (setE t s a who mark)) ∧ ∃ F', Sc w W' ca t (setS t s a who mark) F' cb t' v s' ∧ Bx W' xb F' cb f :=
  (acc_set h.a hsm a who mark _ _ rfl rfl).mono fun _ _ ⟨h1, F', h2, h3, h4⟩ => ⟨h1, F', h.stepA h2 h3 h4, x.stepA h3 h4⟩
theorem sx_setB {w W : World} {ca cb xb : Nat} {t t' : Int} {s s' : List Tm} {F : Nat → Prop} {v : Value} {f : Nat → Int} (h : Sc w W ca t s F cb t' v s') (x : Bx W xb F cb f) (hsm : s'.length ≤ 50000) (a who mark : Int) :
    Calls Try.prog 18 #[.pointer (some ⟨cb, 0, none⟩), .int .i64 a, .int .i64 who, .int .i64 mark] W fun e W' => e = .returned (.int .i64 (setE t' s' a who mark)) ∧ ∃ v', Sc w W' ca t s F cb t' v' (setS t' s' a who mark) ∧ Bx W' xb F cb f :=
  (rset_any cb t' v s' a who mark W h.b hsm).mono fun _ _ ⟨h1, v', h2, h3, h4⟩ => ⟨h1, v', h.stepB h2 h3 h4, x.stepB h4⟩
theorem sx_dropA {w W : World} {ca cb xb : Nat} {t t' : Int} {s s' : List Tm} {F : Nat → Prop} {v : Value} {f : Nat → Int} (h : Sc w W ca t s F cb t' v s') (x : Bx W xb F cb f) (hsm : s.length ≤ 50000) (who mark : Int) :
    Calls Try.prog 12 #[.pointer (some ⟨ca, 0, none⟩), .int .i64 who, .int .i64 mark] W fun e W' => e = .returned (.bool (s.any (keyB who mark))) ∧ ∃ F', Sc w W' ca t (drp s who mark) F' cb t' v s' ∧ Bx W' xb F' cb f :=
  (acc_drop h.a hsm who mark _ _ rfl rfl).mono fun _ _ ⟨h1, F', h2, h3, h4⟩ => ⟨h1, F', h.stepA h2 h3 h4, x.stepA h3 h4⟩
theorem sx_dropB {w W : World} {ca cb xb : Nat} {t t' : Int} {s s' : List Tm} {F : Nat → Prop} {v : Value} {f : Nat → Int} (h : Sc w W ca t s F cb t' v s') (x : Bx W xb F cb f) (hsm : s'.length ≤ 50000) (hu : (s'.map (·.2)).Nodup) (who mark : Int) :
    Calls Try.prog 19 #[.pointer (some ⟨cb, 0, none⟩), .int .i64 who, .int .i64 mark] W fun e W' => e = .returned (.bool (s'.any (keyB who mark))) ∧ ∃ v', Sc w W' ca t s F cb t' v' (drp s' who mark) ∧ Bx W' xb F cb f :=
  (rdrop_any cb t' v s' who mark W h.b hsm hu).mono fun _ _ ⟨h1, v', h2, h3, h4⟩ => ⟨h1, v', h.stepB h2 h3 h4, x.stepB h4⟩
theorem sx_passA {w W : World} {ca cb xb : Nat} {t t' : Int} {s s' : List Tm} {F : Nat → Prop} {v : Value} {f : Nat → Int} (h : Sc w W ca t s F cb t' v s') (x : Bx W xb F cb f) (hsm : s.length ≤ 50000) (n : Int) (n0 : 0 ≤ n) (n1 : n ≤ 1000) :
    Calls Try.prog 11 #[.pointer (some ⟨ca, 0, none⟩), .int .i64 n] W fun e W' => ∃ y F', e = .returned (.tuple #[y, .int .i64 0]) ∧ Sc w W' ca (passT t n) (late (passT t n) s) F' cb t' v s' ∧ Gs w W' y (due (passT t n) s) F' cb ∧ Bx W' xb F' cb f := by
  refine (pass_any ca t s F n W h.a.ck hsm n0 n1).mono ?_
  rintro e W' ⟨y, F', rfl, p1, p2, p3, p4, p5⟩
  refine ⟨y, F', rfl, h.stepA ⟨p3, fun k e => h.a.new k (p4 k e), nw_tch h.a.nw p5 h.a.new⟩ (fun k e => .inl (p4 k e)) p5, ⟨p1, fun k e => ⟨Nat.le_trans h.a.nw.sz (p2 k e), fun q => ?_, fun q => ?_⟩⟩, x.stepA (fun k e => .inl (p4 k e)) p5⟩
  · have := h.a.ck.own k (p4 k q); have := p2 k e; omega
  · have := h.b.lt; have := p2 k e; omega
def Five (xb : Nat) (f0 f1 f2 f3 f4 : Int) (x : World) : Prop := x.cell? ⟨xb, 0, none⟩ = some (.int .i64 f0) ∧ x.cell? ⟨xb, 1, none⟩ = some (.int .i64 f1) ∧ x.cell? ⟨xb, 2, none⟩ = some (.int .i64 f2) ∧ x.cell? ⟨xb, 3, none⟩ = some (.int .i64 f3) ∧ x.cell? ⟨xb, 4, none⟩ = some (.int .i64 f4)
theorem Bx.five {W : World} {xb cb : Nat} {F : Nat → Prop} {f : Nat → Int} (h : Bx W xb F cb f) : Five xb (f 0) (f 1) (f 2) (f 3) (f 4) W := ⟨h.cell 0 (by omega), h.cell 1 (by omega), h.cell 2 (by omega), h.cell 3 (by omega), h.cell 4 (by omega)⟩
end Go.Proofs.Ytolpccchhjcddaa
