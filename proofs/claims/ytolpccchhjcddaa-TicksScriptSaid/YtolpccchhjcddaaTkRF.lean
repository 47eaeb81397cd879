
/- The program's clock and the document's, side by side. -/
import Derived.Test.YtolpccchhjcddaaTkRE
namespace Go.Proofs.Ytolpccchhjcddaa
open Go.RowKit Go.Shelf

structure Sc (w W : World) (ca : Nat) (t : Int) (s : List Tm) (F : Nat → Prop) (cb : Nat) (t' : Int) (v : Value) (s' : List Tm) : Prop where
  a : Acc w W ca t s F
  b : Rc W cb t' v s'
  cn : w.heap.size ≤ cb
  cF : ¬ F cb
  vn : ∀ k, v.ownBlock = some k → w.heap.size ≤ k ∧ ¬ F k
theorem Sc.stepA {w W W' : World} {ca cb : Nat} {t t' t2 : Int} {s s' s2 : List Tm} {F F' : Nat → Prop} {v : Value} (h : Sc w W ca t s F cb t' v s') (a' : Acc w W' ca t2 s2 F') (hf : ∀ k, F' k → F k ∨ W.heap.size ≤ k) (ht : Tch F W W') : Sc w W' ca t2 s2 F' cb t' v s' :=
  ⟨a', h.b.tch ht h.cF (fun g e => (h.vn g e).2), h.cn, fun e => (hf cb e).elim h.cF (fun e => by have := h.b.lt; omega), fun k e => ⟨(h.vn k e).1, fun q => (hf k q).elim (h.vn k e).2 (fun q => by have := (World.ownsRow.lt h.b.ts k e).2; omega)⟩⟩
theorem Sc.stepB {w W W' : World} {ca cb : Nat} {t t' t2 : Int} {s s' s2 : List Tm} {F : Nat → Prop} {v v2 : Value} (h : Sc w W ca t s F cb t' v s') (b' : Rc W' cb t2 v2 s2) (hv : ∀ k, v2.ownBlock = some k → v.ownBlock = some k ∨ W.heap.size ≤ k) (ht : Tch (fun k => k = cb) W W') : Sc w W' ca t s F cb t2 v2 s2 :=
  ⟨h.a.other ht (fun i e => e ▸ h.cn) (fun i e q => h.cF (q ▸ e)), b', h.cn, h.cF, fun k e => (hv k e).elim (fun e => h.vn k e) (fun q => ⟨Nat.le_trans h.a.nw.sz q, fun e => by have := h.a.ck.own k e; omega⟩)⟩
theorem Sc.nw {w W W' : World} {ca cb : Nat} {t t' : Int} {s s' : List Tm} {F : Nat → Prop} {v : Value} (h : Sc w W ca t s F cb t' v s') (k : Nw W W') : Sc w W' ca t s F cb t' v s' := ⟨h.a.step k, h.b.nw k, h.cn, h.cF, h.vn⟩
theorem sc_start {w W W' : World} {ca cb : Nat} {F : Nat → Prop} (h : Acc w W ca 0 [] F) (b : Rc W' cb 0 (.slice none 0 0) []) (hb : W.heap.size ≤ cb) (k : Nw W W') : Sc w W' ca 0 [] F cb 0 (.slice none 0 0) [] :=
  ⟨h.step k, b, Nat.le_trans h.nw.sz hb, fun e => by have := h.ck.own cb e; omega, fun k e => by simp [Value.ownBlock] at e⟩
theorem Sc.tb {w W : World} {ca cb : Nat} {t t' : Int} {s s' : List Tm} {F : Nat → Prop} {v : Value} (h : Sc w W ca t s F cb t' v s') : 0 ≤ t ∧ t ≤ 9223372036854775807 := by
  obtain ⟨_, _, h, _⟩ := h.a.ck
  exact h.tb
theorem Sc.uq {w W : World} {ca cb : Nat} {t t' : Int} {s s' : List Tm} {F : Nat → Prop} {v : Value} (h : Sc w W ca t s F cb t' v s') : (s.map (·.2)).Nodup := by
  obtain ⟨_, _, h, _⟩ := h.a.ck
  exact h.uq
theorem sc_setA {w W : World} {ca cb : Nat} {t t' : Int} {s s' : List Tm} {F : Nat → Prop} {v : Value} (h : Sc w W ca t s F cb t' v s') (hsm : s.length ≤ 50000) (a who mark : Int) :
    Calls Try.prog 9 #[.pointer (some ⟨ca, 0, none⟩), .int .i64 a, .int .i64 who, .int .i64 mark] W fun e W' => e = .returned (.int .i64 (setE t s a who mark)) ∧ ∃ F', Sc w W' ca t (setS t s a who mark) F' cb t' v s' :=
  (acc_set h.a hsm a who mark _ _ rfl rfl).mono fun _ _ ⟨h1, F', h2, h3, h4⟩ => ⟨h1, F', h.stepA h2 h3 h4⟩
theorem sc_setB {w W : World} {ca cb : Nat} {t t' : Int} {s s' : List Tm} {F : Nat → Prop} {v : Value} (h : Sc w W ca t s F cb t' v s') (hsm : s'.length ≤ 50000) (a who mark : Int) :
    Calls Try.prog 18 #[.pointer (some ⟨cb, 0, none⟩), .int .i64 a, .int .i64 who, .int .i64 mark] W fun e W' => e = .returned (.int .i64 (setE t' s' a who mark)) ∧ ∃ v', Sc w W' ca t s F cb t' v' (setS t' s' a who mark) :=
  (rset_any cb t' v s' a who mark W h.b hsm).mono fun _ _ ⟨h1, v', h2, h3, h4⟩ => ⟨h1, v', h.stepB h2 h3 h4⟩
theorem sc_dropA {w W : World} {ca cb : Nat} {t t' : Int} {s s' : List Tm} {F : Nat → Prop} {v : Value} (h : Sc w W ca t s F cb t' v s') (hsm : s.length ≤ 50000) (who mark : Int) :
    Calls Try.prog 12 #[.pointer (some ⟨ca, 0, none⟩), .int .i64 who, .int .i64 mark] W fun e W' => e = .returned (.bool (s.any (keyB who mark))) ∧ ∃ F', Sc w W' ca t (drp s who mark) F' cb t' v s' :=
  (acc_drop h.a hsm who mark _ _ rfl rfl).mono fun _ _ ⟨h1, F', h2, h3, h4⟩ => ⟨h1, F', h.stepA h2 h3 h4⟩
theorem sc_dropB {w W : World} {ca cb : Nat} {t t' : Int} {s s' : List Tm} {F : Nat → Prop} {v : Value} (h : Sc w W ca t s F cb t' v s') (hsm : s'.length ≤ 50000) (hu : (s'.map (·.2)).Nodup) (who mark : Int) :
    Calls Try.prog 19 #[.pointer (some ⟨cb, 0, none⟩), .int .i64 who, .int .i64 mark] W fun e W' => e = .returned (.bool (s'.any (keyB who mark))) ∧ ∃ v', Sc w W' ca t s F cb t' v' (drp s' who mark) :=
  (rdrop_any cb t' v s' who mark W h.b hsm hu).mono fun _ _ ⟨h1, v', h2, h3, h4⟩ => ⟨h1, v', h.stepB h2 h3 h4⟩
/-- Timers that a Pass has returned, in a block that neither clock writes. -/
structure Gs (w W : World) (x : Value) (l : List Tm) (F : Nat → Prop) (cb : Nat) : Prop where
  ts : TS W x l
  apart : ∀ k, x.ownBlock = some k → w.heap.size ≤ k ∧ ¬ F k ∧ k ≠ cb
theorem Gs.nw {w W W' : World} {x : Value} {l : List Tm} {F : Nat → Prop} {cb : Nat} (h : Gs w W x l F cb) (k : Nw W W') : Gs w W' x l F cb := ⟨h.ts.nw k, h.apart⟩
theorem sc_passA {w W : World} {ca cb : Nat} {t t' : Int} {s s' : List Tm} {F : Nat → Prop} {v : Value} (h : Sc w W ca t s F cb t' v s') (hsm : s.length ≤ 50000) (n : Int) (n0 : 0 ≤ n) (n1 : n ≤ 1000) :
    Calls Try.prog 11 #[.pointer (some ⟨ca, 0, none⟩), .int .i64 n] W fun e W' => ∃ x F', e = .returned (.tuple #[x, .int .i64 0]) ∧ Sc w W' ca (passT t n) (late (passT t n) s) F' cb t' v s' ∧ Gs w W' x (due (passT t n) s) F' cb := by
  refine (pass_any ca t s F n W h.a.ck hsm n0 n1).mono ?_
  rintro e W' ⟨x, F', rfl, p1, p2, p3, p4, p5⟩
  refine ⟨x, F', rfl, h.stepA ⟨p3, fun k e => h.a.new k (p4 k e), nw_tch h.a.nw p5 h.a.new⟩ (fun k e => .inl (p4 k e)) p5, p1, fun k e => ⟨Nat.le_trans h.a.nw.sz (p2 k e), fun q => ?_, fun q => ?_⟩⟩
  · have := h.a.ck.own k (p4 k q); have := p2 k e; omega
  · have := h.b.lt; have := p2 k e; omega
theorem sc_passB {w W : World} {ca cb : Nat} {t t' : Int} {s s' : List Tm} {F : Nat → Prop} {v x : Value} {l : List Tm} (h : Sc w W ca t s F cb t' v s') (hx : Gs w W x l F cb) (hsm : s'.length ≤ 50000) (t0 : 0 ≤ t') (t1 : t' ≤ 9223372036854775807) (n : Int) (n0 : 0 ≤ n) (n1 : n ≤ 1000) :
    Calls Try.prog 20 #[.pointer (some ⟨cb, 0, none⟩), .int .i64 n] W fun e W' => ∃ y v', e = .returned (.tuple #[y, .int .i64 0]) ∧ Sc w W' ca t s F cb (passT t' n) v' (late (passT t' n) s') ∧ Gs w W' x l F cb ∧ TS W' y (due (passT t' n) s') := by
  refine (rpass_any cb t' v s' n W h.b hsm t0 t1 n0 n1).mono ?_
  rintro e W' ⟨y, v', rfl, p1, p2, p3, p4, p5⟩
  exact ⟨y, v', rfl, h.stepB p3 (fun k e => .inr (p4 k e)) p5, ⟨hx.ts.tch p5 (fun g e => (hx.apart g e).2.2), hx.apart⟩, p1⟩

theorem setS_len (t : Int) (s : List Tm) (a who mark : Int) : (setS t s a who mark).length ≤ s.length + 1 := by
  unfold setS
  split
  · omega
  · split
    · omega
    · rw [ins_len]; omega
theorem setS_bd {t : Int} {s : List Tm} {a who mark B : Int} (h : ∀ x ∈ s, x.1 ≤ B) (ha : a ≤ B) : ∀ x ∈ setS t s a who mark, x.1 ≤ B := by
  unfold setS
  split
  · exact h
  · split
    · exact h
    · intro x hx
      rcases List.mem_cons.1 ((ins_perm _ _).mem_iff.1 hx) with rfl | hx
      · exact ha
      · exact h x hx
theorem drp_bd {s : List Tm} {who mark B : Int} (h : ∀ x ∈ s, x.1 ≤ B) : ∀ x ∈ drp s who mark, x.1 ≤ B := fun x hx => h x (List.mem_filter.1 hx).1
theorem late_len (t : Int) (s : List Tm) : (late t s).length ≤ s.length := (List.dropWhile_sublist _).length_le

/-- What the walk is told of a slice of acts that came in. -/
def IsActs (w : World) (a : Option Addr) (len cap : Nat) (f : Nat → Nat → Int) : Prop :=
  (a = none ∧ len = 0 ∧ cap = 0) ∨ ∃ x, a = some x ∧ len ≤ cap ∧ cap ≤ maxLen ∧ ∀ i j, i < cap → j < 5 → w.cell? (x.add (i * 5 + j)) = some (.int .i64 (f i j)) ∧ (Lit.int .i64 (f i j)).wf = true
theorem IsActs.at {w : World} {a : Option Addr} {len cap : Nat} {f : Nat → Nat → Int} (h : IsActs w a len cap f) (hl : 0 < len) : ∃ b o, a = some ⟨b, o, none⟩ ∧ len ≤ maxLen ∧ b < w.heap.size ∧ (∀ i j, i < len → j < 5 → w.cell? ⟨b, o + (i * 5 + j), none⟩ = some (.int .i64 (f i j)) ∧ (Lit.int .i64 (f i j)).wf = true) := by
  rcases h with ⟨_, h0, _⟩ | ⟨x, rfl, h1, h2, h4⟩
  · omega
  · obtain ⟨b, o, spot⟩ := x
    have hs : spot = none := by simpa [Addr.add] using World.cell?_spot (h4 0 0 (by omega) (by omega)).1
    subst hs
    have hc : ∀ i j, i < len → j < 5 → w.cell? ⟨b, o + (i * 5 + j), none⟩ = some (.int .i64 (f i j)) ∧ (Lit.int .i64 (f i j)).wf = true := fun i j hi hj => by
      have := h4 i j (by omega) hj
      rwa [Addr.add_lit] at this
    exact ⟨b, o, rfl, by omega, World.block_lt_of_cell? _ _ (hc 0 0 hl (by omega)).1, hc⟩
theorem i64_bd {z : Int} (h : (Lit.int .i64 z).wf = true) : -9223372036854775808 ≤ z ∧ z ≤ 9223372036854775807 := by
  simp [Lit.wf, IntKind.min, IntKind.max, IntKind.bits, IntKind.signed] at h
  omega
end Go.Proofs.Ytolpccchhjcddaa
