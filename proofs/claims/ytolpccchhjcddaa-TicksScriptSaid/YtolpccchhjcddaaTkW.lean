
/- Two clocks of the call's own; what the laws on parts need. -/
import Derived.Test.YtolpccchhjcddaaTkV
namespace Go.Proofs.Ytolpccchhjcddaa
open Go.RowKit Go.Shelf

theorem rem_bd (n m : Int) (hm : 0 < m) : -m < n.tmod m ∧ n.tmod m < m := by
  refine ⟨?_, Int.tmod_lt_of_pos n hm⟩
  have := Int.tmod_lt_of_pos (-n) hm
  rw [Int.neg_tmod] at this; omega
theorem rem_emod (n m : Int) (hm : 0 < m) : n % m = if n.tmod m < 0 then n.tmod m + m else n.tmod m := by
  have h1 : n.tmod m + m * n.tdiv m = n := Int.tmod_add_mul_tdiv n m
  have h2 := rem_bd n m hm
  generalize n.tmod m = r at *
  generalize n.tdiv m = q at *
  subst h1
  rw [Int.add_mul_emod_self_left]
  by_cases h : r < 0
  · rw [if_pos h, ← Int.add_emod_right, Int.emod_eq_of_lt (by omega) (by omega)]
  · rw [if_neg h, Int.emod_eq_of_lt (by omega) (by omega)]
theorem ret_int {k : IntKind} {a b : Int} (h : a = b) : Ending.returned (.int k a) = .returned (.int k b) := by rw [h]
/-- Pick(n, m) is n modulo m, from 0 on. -/
theorem pick_any (n m : Int) (w : World) (hm : 0 < m) (hm' : m ≤ 9223372036854775807) :
    Calls Try.prog 17 #[.int .i64 n, .int .i64 m] w fun e w' => e = .returned (.int .i64 (n % m)) ∧ w = w' := by
  have hr := Lib.hid (rem_emod n m hm)
  obtain ⟨b1, b2⟩ := rem_bd n m hm
  by_cases hneg : n.tmod m < 0
  · go_enter Try.func17, Try.ntmps17
    go_wp2
    go_ret
    exact ⟨ret_int (by rw [hr.out, if_pos hneg]), rfl⟩
  · go_enter Try.func17, Try.ntmps17
    go_wp2
    go_ret
    exact ⟨ret_int (by rw [hr.out, if_neg (by omega)]), rfl⟩

structure Two (w W : World) (ca cb : Nat) (ta tb : Int) (sa sb : List Tm) (Fa Fb : Nat → Prop) : Prop where
  a : Acc w W ca ta sa Fa
  b : Acc w W cb tb sb Fb
  dj : ∀ k, Fa k → ¬ Fb k
theorem Acc.other {w W W' : World} {c : Nat} {t : Int} {s : List Tm} {F F2 : Nat → Prop} (h : Acc w W c t s F) (k : Tch F2 W W') (h2 : ∀ i, F2 i → w.heap.size ≤ i) (hd : ∀ i, F i → ¬ F2 i) : Acc w W' c t s F :=
  ⟨h.ck.tch k hd, h.new, nw_tch h.nw k h2⟩
theorem Two.stepA {w W W' : World} {ca cb : Nat} {ta tb ta' : Int} {sa sb sa' : List Tm} {Fa Fb Fa' : Nat → Prop} (h : Two w W ca cb ta tb sa sb Fa Fb) (a' : Acc w W' ca ta' sa' Fa') (hf : ∀ k, Fa' k → Fa k ∨ W.heap.size ≤ k) (ht : Tch Fa W W') : Two w W' ca cb ta' tb sa' sb Fa' Fb :=
  ⟨a', h.b.other ht h.a.new (fun i e q => h.dj i q e), fun k e q => (hf k e).elim (fun e => h.dj k e q) (fun e => by have := h.b.ck.own k q; omega)⟩
theorem Two.stepB {w W W' : World} {ca cb : Nat} {ta tb tb' : Int} {sa sb sb' : List Tm} {Fa Fb Fb' : Nat → Prop} (h : Two w W ca cb ta tb sa sb Fa Fb) (b' : Acc w W' cb tb' sb' Fb') (hf : ∀ k, Fb' k → Fb k ∨ W.heap.size ≤ k) (ht : Tch Fb W W') : Two w W' ca cb ta tb' sa sb' Fa Fb' :=
  ⟨h.a.other ht h.b.new (fun i e q => h.dj i e q), b', fun k q e => (hf k e).elim (fun e => h.dj k q e) (fun e => by have := h.a.ck.own k q; omega)⟩
theorem Two.step {w W W' : World} {ca cb : Nat} {ta tb : Int} {sa sb : List Tm} {Fa Fb : Nat → Prop} (h : Two w W ca cb ta tb sa sb Fa Fb) (k : Nw W W') : Two w W' ca cb ta tb sa sb Fa Fb := ⟨h.a.step k, h.b.step k, h.dj⟩
/-- Timers that a Pass has returned, in a block of no clock of the two. -/
structure Got2 (w W : World) (v : Value) (l : List Tm) (Fa Fb : Nat → Prop) : Prop where
  ts : TS W v l
  new : ∀ k, v.ownBlock = some k → w.heap.size ≤ k ∧ ¬ Fa k ∧ ¬ Fb k
theorem Got2.nw {w W W' : World} {v : Value} {l : List Tm} {Fa Fb : Nat → Prop} (h : Got2 w W v l Fa Fb) (k : Nw W W') : Got2 w W' v l Fa Fb := ⟨h.ts.nw k, h.new⟩
theorem Got2.stepA {w W W' : World} {v : Value} {l : List Tm} {Fa Fb Fa' : Nat → Prop} (h : Got2 w W v l Fa Fb) (hf : ∀ k, Fa' k → Fa k ∨ W.heap.size ≤ k) (ht : Tch Fa W W') : Got2 w W' v l Fa' Fb :=
  ⟨h.ts.tch ht (fun g e => (h.new g e).2.1), fun g e => ⟨(h.new g e).1, fun q => (hf g q).elim (h.new g e).2.1 (fun q => by have := (World.ownsRow.lt h.ts g e).2; omega), (h.new g e).2.2⟩⟩
theorem Got2.stepB {w W W' : World} {v : Value} {l : List Tm} {Fa Fb Fb' : Nat → Prop} (h : Got2 w W v l Fa Fb) (hf : ∀ k, Fb' k → Fb k ∨ W.heap.size ≤ k) (ht : Tch Fb W W') : Got2 w W' v l Fa Fb' :=
  ⟨h.ts.tch ht (fun g e => (h.new g e).2.2), fun g e => ⟨(h.new g e).1, (h.new g e).2.1, fun q => (hf g q).elim (h.new g e).2.2 (fun q => by have := (World.ownsRow.lt h.ts g e).2; omega)⟩⟩
theorem passA {w W : World} {ca cb : Nat} {ta tb : Int} {sa sb : List Tm} {Fa Fb : Nat → Prop} (h : Two w W ca cb ta tb sa sb Fa Fb) (hsm : sa.length ≤ 50000) (n : Int) (h0 : 0 ≤ n) (h1 : n ≤ 1000) (T : Int) (d s' : List Tm) (hT : passT ta n = T) (hd : due T sa = d) (hs : late T sa = s') :
    Calls Try.prog 11 #[.pointer (some ⟨ca, 0, none⟩), .int .i64 n] W fun e W' => ∃ v Fa', e = .returned (.tuple #[v, .int .i64 0]) ∧ Two w W' ca cb T tb s' sb Fa' Fb ∧ Got2 w W' v d Fa' Fb ∧ (∀ k, Fa' k → Fa k ∨ W.heap.size ≤ k) ∧ Tch Fa W W' ∧ (∀ k, v.ownBlock = some k → W.heap.size ≤ k) := by
  subst hT hd hs
  refine (pass_any ca ta sa Fa n W h.a.ck hsm h0 h1).mono ?_
  rintro e W' ⟨v, F', rfl, p1, p2, p3, p4, p5⟩
  have hf : ∀ k, F' k → Fa k ∨ W.heap.size ≤ k := fun k e => .inl (p4 k e)
  have ha : Acc w W' ca (passT ta n) (late (passT ta n) sa) F' := ⟨p3, fun k e => h.a.new k (p4 k e), nw_tch h.a.nw p5 h.a.new⟩
  refine ⟨v, F', rfl, h.stepA ha hf p5, ⟨p1, fun k e => ⟨Nat.le_trans h.a.nw.sz (p2 k e), fun q => ?_, fun q => ?_⟩⟩, hf, p5, p2⟩
  · have := h.a.ck.own k (p4 k q); have := p2 k e; omega
  · have := h.b.ck.own k q; have := p2 k e; omega
theorem passB {w W : World} {ca cb : Nat} {ta tb : Int} {sa sb : List Tm} {Fa Fb : Nat → Prop} (h : Two w W ca cb ta tb sa sb Fa Fb) (hsm : sb.length ≤ 50000) (n : Int) (h0 : 0 ≤ n) (h1 : n ≤ 1000) (T : Int) (d s' : List Tm) (hT : passT tb n = T) (hd : due T sb = d) (hs : late T sb = s') :
    Calls Try.prog 11 #[.pointer (some ⟨cb, 0, none⟩), .int .i64 n] W fun e W' => ∃ v Fb', e = .returned (.tuple #[v, .int .i64 0]) ∧ Two w W' ca cb ta T sa s' Fa Fb' ∧ Got2 w W' v d Fa Fb' ∧ (∀ k, Fb' k → Fb k ∨ W.heap.size ≤ k) ∧ Tch Fb W W' ∧ (∀ k, v.ownBlock = some k → W.heap.size ≤ k) := by
  subst hT hd hs
  refine (pass_any cb tb sb Fb n W h.b.ck hsm h0 h1).mono ?_
  rintro e W' ⟨v, F', rfl, p1, p2, p3, p4, p5⟩
  have hf : ∀ k, F' k → Fb k ∨ W.heap.size ≤ k := fun k e => .inl (p4 k e)
  have hb : Acc w W' cb (passT tb n) (late (passT tb n) sb) F' := ⟨p3, fun k e => h.b.new k (p4 k e), nw_tch h.b.nw p5 h.b.new⟩
  refine ⟨v, F', rfl, h.stepB hb hf p5, ⟨p1, fun k e => ⟨Nat.le_trans h.b.nw.sz (p2 k e), fun q => ?_, fun q => ?_⟩⟩, hf, p5, p2⟩
  · have := h.a.ck.own k q; have := p2 k e; omega
  · have := h.b.ck.own k (p4 k q); have := p2 k e; omega

/-- Two lists of timers put together. -/
theorem append_two (w : World) (vx vy : Value) (l1 l2 : List Tm) (hx : TS w vx l1) (hy : TS w vy l2) (hsm : l1.length + l2.length ≤ 100000) :
    ∃ v' w1, (Builtin.append_ #[31, 31] 31 #[vx, vy]).run Try.prog w = .ok v' w1 ∧ TS w1 v' (l1 ++ l2) ∧ Tch (fun k => vx.ownBlock = some k) w w1 := by
  obtain ⟨i0, hi, hz0, hz1, hz2⟩ := info_parts infoT
  rcases hy.form with ⟨rfl, rfl⟩ | ⟨g, cap, rfl, hr⟩
  · refine ⟨vx, w, run_append_owned_none w 0 _ _ _ i0 3 Try.underlying31 hi vx l1.length (trows l1) hx, by rw [List.append_nil]; exact hx, Tch.refl _ _⟩
  · have c : ∀ j u, (trows l2)[j]? = some u → w.cell? ((⟨g, 0, none⟩ : Addr).add j) = some u := World.ownsRow.cells hr rfl
    obtain ⟨v', w1, hrun, ho, hg, hp⟩ := run_append_fresh (P := Try.prog) w 0 31 31 28 i0 _ 3 24 Try.underlying31 hi hz0 hz1 hz2 rfl (by decide) vx l1.length (trows l1) hx
      ⟨g, 0, none⟩ l2.length cap (trows l2) (trows_len l2) c (by
        intro u hu
        obtain ⟨x, _, hx⟩ := List.mem_flatMap.1 hu
        simp [trow] at hx
        rcases hx with rfl | rfl | rfl <;> rfl) (by unfold maxLen; omega) (by omega) (Nat.zero_le _)
    refine ⟨v', w1, hrun, ?_, ⟨hg.os, hg.tape, hg.output, hg.size, fun k hk hn => hg.block k hk (fun e => hn e.symm)⟩⟩
    unfold TS
    rw [List.length_append, trows_app]
    exact ho
theorem wpList_append_runG {P : Program} {w : World} {ops : Array Oper} {rest : List Oper} {o : Oper} {a : Act} {Q : Exit → Act → World → Prop}
    (hgd : Region.wanted o (yielded ops a.tmps) = true) (s x : Operand) (t : TypeId) (hop : o.op = Op.call { callee := Callee.builtin Builtin.append, args := #[s, x], argTypes := #[t, t] })
    (v u v' : Value) (w' : World) (hs : a.eval s = v) (hx : a.eval x = u) (hr : (Builtin.append_ #[t, t] o.type #[v, u]).run P w = .ok v' w') (h : wpList P ops Q rest (a.put o.dst v') w') : wpList P ops Q (o :: rest) a w := by
  refine wpList_step fun K hK' => ?_
  rw [if_pos hgd]
  unfold Oper.wp execOp
  simp only [hop, resolve, invoke, builtin, Sem.run_bind, Sem.run_pure, Result.andThen_ok, List.map_toArray, List.map_cons, List.map_nil, hs, hx, hr]
  exact hK' _ _ h
theorem passT_small (t n : Int) (h0 : 0 ≤ t) (h1 : 0 ≤ n) (h2 : t + n ≤ 1000000) : passT t n = t + n := by
  unfold passT
  rw [Int.min_eq_left (by omega)]

/-! ### Parts of a time -/
theorem due_app (a b : Int) (h : a ≤ b) : ∀ s : List Tm, due a s ++ due b (late a s) = due b s ∧ late b (late a s) = late b s
  | [] => ⟨rfl, rfl⟩
  | x :: s => by
    by_cases hx : x.1 ≤ a
    · obtain ⟨e1, e2⟩ := due_cons_le (r := s) hx
      obtain ⟨f1, f2⟩ := due_cons_le (r := s) (show x.1 ≤ b by omega)
      obtain ⟨i1, i2⟩ := due_app a b h s
      rw [e1, e2, f1, f2, List.cons_append, i1, i2]
      exact ⟨rfl, rfl⟩
    · obtain ⟨e1, e2⟩ := due_cons_gt (r := s) hx
      rw [e1, e2]
      exact ⟨rfl, rfl⟩
theorem due_late_len (t : Int) (s : List Tm) : (late t s).length + (due t s).length = s.length := by
  have := congrArg List.length (List.takeWhile_append_dropWhile (p := fun x : Tm => decide (x.1 ≤ t)) (l := s))
  rw [List.length_append] at this
  unfold due late; omega

/-! ### The clock that a law fills -/
def fz (z : List Int) (k : Nat) : Tm := (1 + z.getD k 0 % 1000, (k : Int) % 3, (k : Int))
def sk (z : List Int) : Nat → List Tm
  | 0 => []
  | k + 1 => ins (fz z k) (sk z k)
theorem sk_len (z : List Int) : ∀ k, (sk z k).length = k
  | 0 => rfl
  | k + 1 => by show (ins _ _).length = _; rw [ins_len, sk_len z k]
theorem sk_mem (z : List Int) : ∀ k x, x ∈ sk z k → ∃ i, i < k ∧ x = fz z i
  | 0, x, h => by cases h
  | k + 1, x, h => by
    rcases List.mem_cons.1 ((ins_perm _ _).mem_iff.1 h) with rfl | h
    · exact ⟨k, by omega, rfl⟩
    · obtain ⟨i, hi, e⟩ := sk_mem z k x h
      exact ⟨i, by omega, e⟩
theorem sk_none (z : List Int) (k : Nat) : (sk z k).any (keyB ((k : Int) % 3) (k : Int)) = false := by
  rw [List.any_eq_false]
  intro x hx hk
  obtain ⟨i, hi, rfl⟩ := sk_mem z k x hx
  have := (keyB_iff _ _ _).1 hk
  simp [fz] at this
  omega
theorem sk_bd (z : List Int) (k : Nat) : ∀ x ∈ sk z k, x.1 ≤ 9223372036854775807 := fun x hx => by
  obtain ⟨i, _, rfl⟩ := sk_mem z k x hx
  show 1 + z.getD i 0 % 1000 ≤ _
  omega
theorem sk_setE (z : List Int) (k : Nat) : setE 0 (sk z k) (1 + z.getD k 0 % 1000) ((k : Int) % 3) (k : Int) = 0 := by
  unfold setE
  rw [if_neg (by omega), if_neg (by rw [sk_none]; simp)]
theorem sk_setS (z : List Int) (k : Nat) : setS 0 (sk z k) (1 + z.getD k 0 % 1000) ((k : Int) % 3) (k : Int) = sk z (k + 1) := by
  unfold setS
  rw [if_neg (by omega), if_neg (by rw [sk_none]; simp)]
  rfl
theorem late_bd {s : List Tm} (h : ∀ x ∈ s, x.1 ≤ 9223372036854775807) (t : Int) : ∀ x ∈ late t s, x.1 ≤ 9223372036854775807 := fun x hx => h x ((List.dropWhile_sublist _).mem hx)

/-- What the walk is told of a slice of integers that came in. -/
def IsRow (k : IntKind) (w : World) (a : Option Addr) (len cap : Nat) (zs : List Int) : Prop :=
  (a = none ∧ len = 0 ∧ cap = 0 ∧ zs = []) ∨
  ∃ x, a = some x ∧ len ≤ cap ∧ cap ≤ maxLen ∧ zs.length = cap ∧ (∀ i, i < zs.length → w.cell? (x.add i) = some (.int k (zs.getD i 0))) ∧ ∀ n ∈ zs, (Lit.int k n).wf = true
theorem IsRow.at {k : IntKind} {w : World} {a : Option Addr} {len cap : Nat} {zs : List Int} (h : IsRow k w a len cap zs) (hl : 0 < len) : ∃ b o, a = some ⟨b, o, none⟩ ∧ len ≤ maxLen ∧ b < w.heap.size ∧ (∀ i, i < len → w.cell? ⟨b, o + i, none⟩ = some (.int k (zs.getD i 0))) ∧ ∀ i, i < len → (Lit.int k (zs.getD i 0)).wf = true := by
  rcases h with ⟨_, h0, _⟩ | ⟨x, rfl, h1, h2, h3, h4, h5⟩
  · omega
  · obtain ⟨b, o, spot⟩ := x
    have hs : spot = none := by simpa [Addr.add] using World.cell?_spot (h4 0 (by omega))
    subst hs
    have hc : ∀ i, i < len → w.cell? ⟨b, o + i, none⟩ = some (.int k (zs.getD i 0)) := fun i hi => by
      have := h4 i (by omega)
      rwa [Addr.add_lit] at this
    refine ⟨b, o, rfl, by omega, World.block_lt_of_cell? _ _ (hc 0 hl), hc, fun i hi => h5 _ ?_⟩
    have : i < zs.length := by omega
    simp [List.getD, this]
theorem u16_bd {z : Int} (h : (Lit.int .u16 z).wf = true) : 0 ≤ z ∧ z ≤ 65535 := by
  simp [Lit.wf, IntKind.min, IntKind.max, IntKind.bits, IntKind.signed] at h
  omega
theorem u8_bd {z : Int} (h : (Lit.int .u8 z).wf = true) : 0 ≤ z ∧ z ≤ 255 := by
  simp [Lit.wf, IntKind.min, IntKind.max, IntKind.bits, IntKind.signed] at h
  omega
end Go.Proofs.Ytolpccchhjcddaa
