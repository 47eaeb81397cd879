/- Texts merged: BkR, BdJ, SmM, QvM, QvN -/
import Derived.Test.YtodnlelnpidliaaGreatBucketHoldsB16
import Derived.WalkKit
import Derived.Lib.Hide

/- The document's own bucket in memory; Len, of. -/
section
namespace Go.Proofs.YtodnlelnpidliaaGreat
open Go.RowKit
set_option linter.unusedVariables false      -- a contract need not use every name

/-- A head in a row of heads: the head, its requests' address and capacity. -/
structure Hm where
  h : Hq
  a : Option Addr
  c : Nat
def hmV (x : Hm) : Value := .slice x.a x.h.q.length x.c
def hmrow (x : Hm) : List Value := [.int .i64 x.h.t, .int .i64 x.h.r, .slice x.a x.h.q.length x.c, .int .i64 x.h.W]
theorem elemHm : Elem Tryz.prog 43 56 4 48 hmrow where
  und := Tryz.underlying43
  inf := by
    have h : (Tryz.prog.info? 56).map (fun i => (i.zero, i.size, i.bytes)) = some (some (.agg #[.int .i64 0, .int .i64 0, .slice none 0 0, .int .i64 0]), 4, 48) := by kernel_rfl
    cases e : Tryz.prog.info? 56 with
    | none => rw [e] at h; cases h
    | some i =>
      rw [e] at h
      simp only [Option.map_some, Option.some.injEq, Prod.mk.injEq] at h
      exact ⟨i, _, rfl, h.1, h.2.1, h.2.2, rfl⟩
  pos := by decide
  byt := by decide
  len := fun _ => rfl
  one := fun a u hu => by
    simp only [hmrow, List.mem_cons, List.not_mem_nil, or_false] at hu
    rcases hu with rfl | rfl | rfl | rfl <;> rfl
abbrev HmOwn (w : World) (g0 : Nat) (v : Value) (l : List Hm) : Prop := Own 56 4 hmrow w g0 v l
/-- A head's requests can be read; they lie behind the bucket, and beside its heads. -/
structure HmOk (w : World) (o : Nat) (u : Option Nat) (x : Hm) : Prop where
  rd : RqAt w (hmV x) x.h.q
  cap : x.h.q.length ≤ x.c
  len : x.h.q.length ≤ 1000
  new : newV (o + 1) (hmV x)
  off : ∀ b, x.a = some b → x.h.q ≠ [] → u ≠ some b.block
/-- The document's own bucket: its cell at o, its pool's cell at po (below o), its heads at v. -/
structure Rb (w : World) (o po : Nat) (most : Int) (v : Value) (l : List Hm) : Prop where
  c0 : w.cell? ⟨o, 0, none⟩ = some (.int .i64 most)
  c1 : w.cell? ⟨o, 1, none⟩ = some (.pointer (some ⟨po, 0, none⟩))
  c2 : w.cell? ⟨o, 2, none⟩ = some v
  fz : ∀ j, w.frozen? ⟨o, j, none⟩ = false
  ol : o < w.heap.size
  pl : po < o
  own : HmOwn w (o + 1) v l
  ok : ∀ x ∈ l, HmOk w o v.ownBlock x
  len : l.length ≤ 64
theorem HmOk.nw {w w' : World} {o : Nat} {u : Option Nat} {x : Hm} (h : HmOk w o u x) (g : Nw w w') : HmOk w' o u x := ⟨h.rd.nw g, h.cap, h.len, h.new, h.off⟩
theorem Rb.nw {w w' : World} {o po : Nat} {most : Int} {v : Value} {l : List Hm} (h : Rb w o po most v l) (g : Nw w w') : Rb w' o po most v l :=
  ⟨(g.cell h.ol).trans h.c0, (g.cell h.ol).trans h.c1, (g.cell h.ol).trans h.c2, fun j => (g.froz h.ol).trans (h.fz j), Nat.lt_of_lt_of_le h.ol g.sz, h.pl, onw h.own g, fun x hx => (h.ok x hx).nw g, h.len⟩
/-- The heads' slice, and what lies in its cells. -/
theorem Rb.form {w : World} {o po : Nat} {most : Int} {v : Value} {l : List Hm} (h : Rb w o po most v l) : ∃ a c, v = .slice a l.length c ∧ ((a = none ∧ l = [] ∧ c = 0) ∨ ∃ g, a = some ⟨g, 0, none⟩ ∧ o < g ∧ g < w.heap.size) := by
  rcases oform h.own with ⟨rfl, e⟩ | ⟨g, cap, rfl⟩
  · exact ⟨none, 0, by rw [e], .inl ⟨rfl, List.length_eq_zero_iff.1 e, rfl⟩⟩
  · exact ⟨_, cap, rfl, .inr ⟨g, rfl, oge h.own rfl, olt h.own rfl⟩⟩
theorem fndV_eq (q : List Rq) (id : Int) : ∃ a b c d e, fndV q id = .tuple #[.agg #[.int .i64 a, .int .i64 b, .int .i64 c, .int .i64 d, .int .i64 e], .bool (fnd q id).isSome] ∧ (fnd q id).getD ⟨0, 0, 0, 0, 0⟩ = ⟨a, b, c, d, e⟩ := by
  unfold fndV
  cases fnd q id with
  | none => exact ⟨0, 0, 0, 0, 0, rfl, rfl⟩
  | some r => obtain ⟨a, b, c, d, e⟩ := r; exact ⟨a, b, c, d, e, rfl, rfl⟩

end Go.Proofs.YtodnlelnpidliaaGreat
end

/- with: the head that has a request. -/
section
namespace Go.Proofs.YtodnlelnpidliaaGreat
open Go.RowKit Go.Sort Go.Shelf
set_option linter.unusedVariables false      -- a contract need not use every name
attribute [local go_sem] Oper.semAt_some

abbrev hpH (x : Hp) : Value := .agg #[.int .i64 x.h.t, .int .i64 x.h.r, .slice x.a x.h.q.length x.c, .int .i64 x.h.W]
def wthP (l : List Hp) (id : Int) : Hp := (whP l id).getD zeroHp
/-- What the search holds between two rounds. -/
structure WiI (w : World) (id : Int) (S0 S : Nat → Prop) (pre : List Hp) (A : World) : Prop where
  nw : Nw w A
  box : A.cell? ⟨w.heap.size, 0, none⟩ = some (.int .i64 id)
  res : ∃ u0 u1 u2 u3, A.heap[w.heap.size + 1]? = some (.cells #[u0, u1, u2, u3] 56 (0, 0))
  nb : ¬ S w.heap.size
  nr : ¬ S (w.heap.size + 1)
  sub : ∀ k, S k → S0 k ∨ w.heap.size + 2 ≤ k
  no : ∀ x ∈ pre, fnd x.h.q id = none
/-- The search is over: it has been found. -/
def WiX (w : World) (id : Int) (c : Code) (pre : List Hp) (A : World) : Prop :=
  c = .ret ∧ Nw w A ∧ ∃ p x, pre = p ++ [x] ∧ (∀ y ∈ p, fnd y.h.q id = none) ∧ (fnd x.h.q id).isSome = true ∧ A.heap[w.heap.size + 1]? = some (.cells #[.int .i64 x.h.t, .int .i64 x.h.r, .slice x.a x.h.q.length x.c, .int .i64 x.h.W] 56 (0, 0))
theorem WiI.step {w A B : World} {id : Int} {n₀ : Nat} {S0 S S' : Nat → Prop} {pre : List Hp} (h : WiI w id S0 S pre A) (hn : w.heap.size + 2 ≤ n₀) (hS0 : ∀ k, S0 k → k < w.heap.size) (k : Ch' n₀ (fun k => S k ∧ ¬ S0 k) A B) (h2 : ∀ k, S' k → S k ∨ A.heap.size ≤ k) : WiI w id S0 S' pre B := by
  obtain ⟨u0, u1, u2, u3, hr⟩ := h.res
  have hsz := h.nw.sz
  have hrl := hlt hr
  have e := chSame k h.box (fun q => h.nb q.1)
  refine ⟨chNw k h.nw (by omega) (fun i q => by have := (h.sub i q.1).resolve_left q.2; omega), (World.cell?_of_block e).trans h.box, ⟨u0, u1, u2, u3, k.cells hr (fun q => h.nr q.1)⟩, fun e => ?_, fun e => ?_, fun i e => ?_, h.no⟩
  · rcases h2 _ e with q | q
    · exact h.nb q
    · omega
  · rcases h2 _ e with q | q
    · exact h.nr q
    · omega
  · rcases h2 _ e with q | q
    · exact h.sub i q
    · exact .inr (by omega)
theorem wiStep {w A z : World} {id : Int} {S0 S : Nat → Prop} {pre : List Hp} {x : Hp} (h : WiI w id S0 S pre A) (g : Nw A z) (hex : ∀ k, S k → k < A.heap.size) (hno : (fnd x.h.q id).isSome = false) : WiI w id S0 S (pre ++ [x]) z := by
  obtain ⟨u0, u1, u2, u3, hr⟩ := h.res
  refine ⟨h.nw.trans g, g.kp h.box, ⟨u0, u1, u2, u3, g.at' hr⟩, h.nb, h.nr, h.sub, fun y hy => ?_⟩
  rcases List.mem_append.1 hy with q | q
  · exact h.no y q
  · obtain rfl : y = x := by simpa using q
    cases e : fnd y.h.q id with
    | none => rfl
    | some r => rw [e] at hno; cases hno
theorem wiFound {w A z : World} {id : Int} {S0 S : Nat → Prop} {pre : List Hp} {x : Hp} {n₀ ql : Nat} {u0 u1 u2 u3 : Value} {xt xr xW : Int} {xa : Option Addr} {xc : Nat} (h : WiI w id S0 S pre A) (g : Nw A z) (hex : ∀ k, S k → k < A.heap.size) (hD : ∀ k, (k = n₀ ∨ k = n₀ + 1) → ∃ o, A.heap[k]? = some o ∧ o.isCells = false) (hy : (fnd x.h.q id).isSome = true)
    (hx : x.h.t = xt ∧ x.h.r = xr ∧ x.h.W = xW ∧ x.a = xa ∧ x.c = xc ∧ x.h.q.length = ql) (hr : A.heap[w.heap.size + 1]? = some (.cells #[u0, u1, u2, u3] 56 (0, 0))) :
    KpD n₀ A ((((z.setCell ⟨w.heap.size + 1, 0, none⟩ (.int .i64 xt)).setCell ⟨w.heap.size + 1, 1, none⟩ (.int .i64 xr)).setCell ⟨w.heap.size + 1, 2, none⟩ (.slice xa ql xc)).setCell ⟨w.heap.size + 1, 3, none⟩ (.int .i64 xW)) ∧
    KpS S A ((((z.setCell ⟨w.heap.size + 1, 0, none⟩ (.int .i64 xt)).setCell ⟨w.heap.size + 1, 1, none⟩ (.int .i64 xr)).setCell ⟨w.heap.size + 1, 2, none⟩ (.slice xa ql xc)).setCell ⟨w.heap.size + 1, 3, none⟩ (.int .i64 xW)) ∧
    WiX w id .ret (pre ++ [x]) ((((z.setCell ⟨w.heap.size + 1, 0, none⟩ (.int .i64 xt)).setCell ⟨w.heap.size + 1, 1, none⟩ (.int .i64 xr)).setCell ⟨w.heap.size + 1, 2, none⟩ (.slice xa ql xc)).setCell ⟨w.heap.size + 1, 3, none⟩ (.int .i64 xW)) ∧ ¬ S (w.heap.size + 1) ∧ ∀ k, S k → S0 k ∨ w.heap.size + 2 ≤ k := by
  obtain ⟨rfl, rfl, rfl, rfl, rfl, rfl⟩ := hx
  have hrz := g.at' hr
  have h0 := hset (j := 0) (.int .i64 x.h.t) hrz
  have h1 := hset (j := 1) (.int .i64 x.h.r) h0
  have h2 := hset (j := 2) (.slice x.a x.h.q.length x.c) h1
  have h3 := hset (j := 3) (.int .i64 x.h.W) h2
  have ht : Tch (fun b => b = w.heap.size + 1) A ((((z.setCell ⟨w.heap.size + 1, 0, none⟩ (.int .i64 x.h.t)).setCell ⟨w.heap.size + 1, 1, none⟩ (.int .i64 x.h.r)).setCell ⟨w.heap.size + 1, 2, none⟩ (.slice x.a x.h.q.length x.c)).setCell ⟨w.heap.size + 1, 3, none⟩ (.int .i64 x.h.W)) :=
    ((((Tch.nw (S := fun b => b = w.heap.size + 1) g).set (p := ⟨w.heap.size + 1, 0, none⟩) (.inl rfl) _).set (p := ⟨w.heap.size + 1, 1, none⟩) (.inl rfl) _).set (p := ⟨w.heap.size + 1, 2, none⟩) (.inl rfl) _).set (p := ⟨w.heap.size + 1, 3, none⟩) (.inl rfl) _
  refine ⟨fun k hk => ?_, KpS.tch ht (fun k e => ⟨hex k e, fun q => h.nr (q ▸ e)⟩), ⟨rfl, nw_tch h.nw ht (fun i q => by omega), pre, x, rfl, h.no, hy, ?_⟩, h.nr, h.sub⟩
  · obtain ⟨o, ho, hno⟩ := hD k hk
    refine ht.block k (hlt ho) (fun q => ?_)
    subst q
    rw [hr] at ho; cases ho; cases hno
  · rw [h3]; rfl
theorem find_pre {l p : List Hp} {x : Hp} {id : Int} (hp : p ++ [x] <+: l) (h1 : ∀ y ∈ p, fnd y.h.q id = none) (h2 : (fnd x.h.q id).isSome = true) : whP l id = some x := by
  obtain ⟨t, rfl⟩ := hp
  unfold whP
  rw [List.append_assoc, List.find?_append, List.find?_eq_none.2 (fun y hy => by rw [h1 y hy]; simp)]
  simp [h2]
theorem find_no {l : List Hp} {id : Int} (h1 : ∀ y ∈ l, fnd y.h.q id = none) : whP l id = none := List.find?_eq_none.2 (fun y hy => by rw [h1 y hy]; simp)
set_option maxRecDepth 100000 in
set_option maxHeartbeats 4000000 in
theorem with_in (n : Nat) (hn : 4 ≤ n) {w : World} {o mb po nn : Nat} {l : List Hp} {L : List Bool} {F : Nat → Prop} (h : Db w o mb po nn l L F) (id : Int) :
    CallsIn Fence.wide n Tryz.prog 51 #[.pointer (some ⟨o, 0, none⟩), .int .i64 id] w fun e w' => e = .returned (hpH (wthP l id)) ∧ Nw w w' := by
  have h1 : 1 ≤ n := by omega
  have hol := h.ol
  have hml := h.map.lt
  have hll := h.len
  have H := Lib.hid h
  refine callsIn_of_wp_marks Tryz.func51 rfl trivial ?_ rfl
  simp only [Tryz.ntmps51, List.size_toArray, List.length_cons, List.length_nil, Nat.reduceAdd, Nat.reduceSub, Array.replicate_succ, Array.replicate_zero, List.push_toArray, List.append_toArray, List.nil_append, List.cons_append]
  clear h
  gi_wp2
  obtain ⟨W0, hW0⟩ : ∃ W0, (w.alloc (.cells #[.int .i64 id] 3)).alloc (.cells #[.int .i64 0, .int .i64 0, .slice none 0 0, .int .i64 0] 56) = W0 := ⟨_, rfl⟩
  have hnw : Nw w W0 := by rw [← hW0]; exact ((Nw.refl w).alloc _).alloc _
  have hsz : W0.heap.size = w.heap.size + 2 := by rw [← hW0]; simp
  have hA0 : WiI w id (fun k => k = o ∨ k = mb) (fun k => k = o ∨ k = mb) [] W0 := by
    refine ⟨hnw, ?_, ⟨.int .i64 0, .int .i64 0, .slice none 0 0, .int .i64 0, ?_⟩, fun e => by omega, fun e => by omega, fun k e => .inl e, by simp⟩
    · rw [← hW0]
      exact hcell (j := 0) (((Nw.refl _).alloc _).at' (allocAt w (.cells #[.int .i64 id] 3)))
    · rw [← hW0]
      have := allocAt (w.alloc (.cells #[.int .i64 id] 3)) (.cells #[.int .i64 0, .int .i64 0, .slice none 0 0, .int .i64 0] 56)
      rwa [World.size_alloc] at this
  have hseq := each_in (n - 1) (by omega) o mb l W0 ((H.out.nw hnw).c3) ((H.out.nw hnw).map) H.out.srt (by omega)
  rw [hW0]
  clear hW0
  refine rg_law rfl h1 (gf := 46) (fa := #[.pointer (some ⟨o, 0, none⟩)]) (lb := #[]) rfl trivial e_each (S0 := fun k => k = o ∨ k = mb) (fun k e => by omega) hseq rfl
    (fun S pre A => WiI w id (fun k => k = o ∨ k = mb) S pre A) (fun c S pre A => WiX w id c pre A ∧ ¬ S (w.heap.size + 1) ∧ ∀ k, S k → (k = o ∨ k = mb) ∨ w.heap.size + 2 ≤ k)
    (fun S S' pre A B hi hc e1 e2 _ => hi.step (by omega) (fun k e => by omega) hc e2) ?_ hA0 (fun _ => none)
    (fun x bx => { tmps := #[.pointer (some ⟨o, 0, none⟩), .int .i64 id, undef, .pointer (some ⟨w.heap.size, 0, none⟩), .pointer (some ⟨w.heap.size + 1, 0, none⟩), ptP x, undef, undef, .pointer (some ⟨o, 0, none⟩), .func (.func 46) #[.pointer (some ⟨o, 0, none⟩)] #[], ptP x, undef, undef, undef, undef, undef, undef, undef, undef, undef, undef, undef, undef, undef], defers := [] }) ?assign ?body ?done ?stop
  · intro c S S' pre A B ⟨⟨hc, hg, p, x, e, h1, h2, hr⟩, hn, hs⟩ k e1 e2 e3
    have hsz2 := hg.sz
    have hrl := hlt hr
    refine ⟨⟨hc, chNw k hg (by omega) (fun i q => by have := (hs i q.1).resolve_left q.2; omega), p, x, e, h1, h2, k.cells hr (fun q => hn q.1)⟩, fun e => ?_, fun i e => ?_⟩
    · rcases e2 _ e with q | q
      · exact hn q
      · omega
    · rcases e2 _ e with q | q
      · exact hs i q
      · exact .inr (by omega)
  case assign =>
    intro r x A K hK
    simp only [mkB] at hK
    gi_wp2
    exact hK
  case body =>
    intro r S pre x bx A hi hsub hex hnb hbl hnc hcx hpre
    have hx : x ∈ l := hpre.subset (by simp)
    have hok := (H.out.nw hi.nw).ok x hx
    have HFi := Lib.hid (fun w1 (g : Nw A w1) => dFindQ x.h.t x.h.r x.h.W id (hpV x) x.h.q w1 hok.len (hok.rd.nw g))
    unfold hdV hpV at HFi
    obtain ⟨b0, b1, b2, b3, b4, hv, _⟩ := fndV_eq x.h.q id
    rw [hv] at HFi
    obtain ⟨yb, hyb⟩ : ∃ yb, (fnd x.h.q id).isSome = yb := ⟨_, rfl⟩
    rw [hyb] at HFi
    have c0 := hok.c0
    have c1 := hok.c1
    have c2 := hok.c2
    have c3 := hok.c3
    have cb := hi.box
    have hxl := hok.lt
    obtain ⟨u0, u1, u2, u3, hres⟩ := hi.res
    have hrl := hlt hres
    have hwA := hi.nw.sz
    have HI := Lib.hid (And.intro hi (And.intro hsub (And.intro hex (And.intro hnc (And.intro hpre (And.intro hyb hres))))))
    have hwz : W0.heap.size = w.heap.size + 2 := hsz
    clear hi hsub hex hnc hpre hyb hok hv hnb hbl hcx hx hres hseq hA0
    gi_wp2_with fail
    obtain ⟨⟨xt, xr, xW, xq⟩, xp, xa, xc⟩ := x
    simp only at c0 c1 c2 c3 HFi hxl
    obtain ⟨ql, hql⟩ : ∃ ql, xq.length = ql := ⟨_, rfl⟩
    have HQl := Lib.hid hql
    rw [hql] at HFi c2
    clear hql
    refine region_round (S := fun y => Nw A y) (by kernel_rfl) (by kernel_rfl) ?_
    change wpAnyH _ _ _ _ _ 11 #[false, false, false, false, false, false, false, false, false, false, false] _ A.drew
    have hS0 : Nw A A.drew := (Nw.refl A).dr
    obtain ⟨y, hy⟩ : ∃ y, A.drew = y := ⟨_, rfl⟩
    rw [hy] at hS0 ⊢
    clear hy
    refine wpAnyH_take (i := 0) (v := .pointer (some ⟨xp, 0, none⟩)) rfl (by kernel_rfl) (by kernel_rfl) (by kernel_rfl) (fun c a w h => h) (.inl ⟨rfl, fun w hw => by have q0 := hw.kp c0; have q1 := hw.kp c1; have q2 := hw.kp c2; have q3 := hw.kp c3; have q4 := hw.kp cb; go_simp⟩) hS0 ?_
    simp only [Act.put, List.getElem_toArray, List.getElem_cons_zero, List.setIfInBounds_toArray, List.set_cons_zero, List.set_cons_succ]
    refine wpAnyH_take (i := 1) (v := .pointer (some ⟨xp, 0, none⟩)) rfl (by kernel_rfl) (by kernel_rfl) (by kernel_rfl) (fun c a w h => h) (.inl ⟨rfl, fun w hw => by have q0 := hw.kp c0; have q1 := hw.kp c1; have q2 := hw.kp c2; have q3 := hw.kp c3; have q4 := hw.kp cb; go_simp⟩) hS0 ?_
    simp only [Act.put, List.getElem_toArray, List.getElem_cons_zero, List.getElem_cons_succ, List.setIfInBounds_toArray, List.set_cons_zero, List.set_cons_succ]
    refine wpAnyH_take (i := 2) (v := .agg #[.int .i64 xt, .int .i64 xr, .slice xa ql xc, .int .i64 xW]) rfl (by kernel_rfl) (by kernel_rfl) (by kernel_rfl) (fun c a w h => h) (.inl ⟨rfl, fun w hw => by have q0 := hw.kp c0; have q1 := hw.kp c1; have q2 := hw.kp c2; have q3 := hw.kp c3; have q4 := hw.kp cb; go_simp⟩) hS0 ?_
    simp only [Act.put, List.getElem_toArray, List.getElem_cons_zero, List.getElem_cons_succ, List.setIfInBounds_toArray, List.set_cons_zero, List.set_cons_succ]
    refine wpAnyH_take (i := 3) (v := .int .i64 id) rfl (by kernel_rfl) (by kernel_rfl) (by kernel_rfl) (fun c a w h => h) (.inl ⟨rfl, fun w hw => by have q0 := hw.kp c0; have q1 := hw.kp c1; have q2 := hw.kp c2; have q3 := hw.kp c3; have q4 := hw.kp cb; go_simp⟩) hS0 ?_
    simp only [Act.put, List.getElem_toArray, List.getElem_cons_zero, List.getElem_cons_succ, List.setIfInBounds_toArray, List.set_cons_zero, List.set_cons_succ]
    refine twoH (i := 4) (j := 8) (by kernel_rfl) rfl rfl (fun K hK => ?_) (fun K hK => ?_)
    · rw [if_pos (by rfl)]
      simp only [List.getElem_toArray, List.getElem_cons_zero, List.getElem_cons_succ]
      go_simp
      refine (HFi.out _ hS0).mono ?_
      rintro e z ⟨rfl, gz⟩
      have hz := hS0.trans gz
      refine hK _ _ hz ?_
      clear hK K
      refine wpAnyH_take (i := 5) (v := .tuple #[.agg #[.int .i64 b0, .int .i64 b1, .int .i64 b2, .int .i64 b3, .int .i64 b4], .bool yb]) rfl (by kernel_rfl) (by kernel_rfl) (by kernel_rfl) (fun c a w h => h) (.inl ⟨rfl, fun w hw => by go_simp⟩) hz ?_
      simp only [Act.put, List.getElem_toArray, List.getElem_cons_zero, List.getElem_cons_succ, List.setIfInBounds_toArray, List.set_cons_zero, List.set_cons_succ]
      refine wpAnyH_take (i := 6) (v := .agg #[.int .i64 b0, .int .i64 b1, .int .i64 b2, .int .i64 b3, .int .i64 b4]) rfl (by kernel_rfl) (by kernel_rfl) (by kernel_rfl) (fun c a w h => h) (.inl ⟨rfl, fun w hw => by go_simp⟩) hz ?_
      simp only [Act.put, List.getElem_toArray, List.getElem_cons_zero, List.getElem_cons_succ, List.setIfInBounds_toArray, List.set_cons_zero, List.set_cons_succ]
      refine wpAnyH_take (i := 7) (v := .bool yb) rfl (by kernel_rfl) (by kernel_rfl) (by kernel_rfl) (fun c a w h => h) (.inl ⟨rfl, fun w hw => by go_simp⟩) hz ?_
      simp only [Act.put, List.getElem_toArray, List.getElem_cons_zero, List.getElem_cons_succ, List.setIfInBounds_toArray, List.set_cons_zero, List.set_cons_succ]
      refine oneH (i := 8) (by kernel_rfl) rfl (fun K hK => ?_)
      rw [if_pos (by rfl)]
      simp only [List.getElem_toArray, List.getElem_cons_zero, List.getElem_cons_succ]
      go_simp
      have hal := allocAt z (.cells #[.int .i64 0, .int .i64 0, .int .i64 0, .int .i64 0, .int .i64 0] 47)
      have hz2 : Nw A (z.alloc (.cells #[.int .i64 0, .int .i64 0, .int .i64 0, .int .i64 0, .int .i64 0] 47)) := hz.alloc _
      refine hK _ _ hz2 ?_
      clear hK K
      have hzl : A.heap.size ≤ z.heap.size := hz.sz
      generalize z.heap.size = nb at *
      generalize z.alloc (.cells #[.int .i64 0, .int .i64 0, .int .i64 0, .int .i64 0, .int .i64 0] 47) = z2 at *
      have n0 := hcell (j := 0) hal
      have n1 := hcell (j := 1) hal
      have n2 := hcell (j := 2) hal
      have n3 := hcell (j := 3) hal
      have n4 := hcell (j := 4) hal
      have nz := fun j => hfz (j := j) hal
      have nl := hlt hal
      refine oneH (i := 9) (by kernel_rfl) rfl (fun K hK => ?_)
      rw [if_pos (by rfl)]
      simp only [List.getElem_toArray, List.getElem_cons_zero, List.getElem_cons_succ]
      go_simp
      have hz3 : Nw A (((((z2.setCell ⟨nb, 0, none⟩ (.int .i64 b0)).setCell ⟨nb, 1, none⟩ (.int .i64 b1)).setCell ⟨nb, 2, none⟩ (.int .i64 b2)).setCell ⟨nb, 3, none⟩ (.int .i64 b3)).setCell ⟨nb, 4, none⟩ (.int .i64 b4)) := ((((hz2.st (p := ⟨nb, 0, none⟩) hzl _).st (p := ⟨nb, 1, none⟩) hzl _).st (p := ⟨nb, 2, none⟩) hzl _).st (p := ⟨nb, 3, none⟩) hzl _).st (p := ⟨nb, 4, none⟩) hzl _
      refine hK _ _ hz3 ?_
      clear hK K n0 n1 n2 n3 n4 nz nl hal
      generalize (((((z2.setCell ⟨nb, 0, none⟩ (.int .i64 b0)).setCell ⟨nb, 1, none⟩ (.int .i64 b1)).setCell ⟨nb, 2, none⟩ (.int .i64 b2)).setCell ⟨nb, 3, none⟩ (.int .i64 b3)).setCell ⟨nb, 4, none⟩ (.int .i64 b4)) = z3 at *
      refine wpAnyH_take (i := 10) (v := .bool yb) rfl (by kernel_rfl) (by kernel_rfl) (by kernel_rfl) (fun c a w h => h) (.inl ⟨rfl, fun w hw => by go_simp⟩) hz3 ?_
      simp only [Act.put, List.getElem_toArray, List.getElem_cons_zero, List.getElem_cons_succ, List.setIfInBounds_toArray, List.set_cons_zero, List.set_cons_succ]
      refine wpAnyH_done (by kernel_rfl) ?_ _
      have HZ := Lib.hid hz3
      have k0 := HZ.out.kp c0
      have k1 := HZ.out.kp c1
      have k2 := HZ.out.kp c2
      have k3 := HZ.out.kp c3
      have hr := HZ.out.at' HI.out.2.2.2.2.2.2
      have r0 := hcell (j := 0) hr
      have r1 := hcell (j := 1) hr
      have r2 := hcell (j := 2) hr
      have r3 := hcell (j := 3) hr
      have rz := fun j => hfz (j := j) hr
      have hzl := HZ.out.sz
      clear hr
      change (NOr _ .normal _ _)
      unfold NOr
      cases yb
      · gi_wp2
        exact ⟨fun k hk => HZ.out.block k (hlt (HI.out.2.2.2.1 k hk).2.choose_spec.1), KpS.tch (Tch.nw (S := fun _ => False) HZ.out) (fun k e => ⟨HI.out.2.2.1 k e, fun q => q⟩), (wiStep HI.out.1 HZ.out HI.out.2.2.1 HI.out.2.2.2.2.2.1)⟩
      · gi_wp2
        exact wiFound (x := ⟨⟨xt, xr, xW, xq⟩, xp, xa, xc⟩) HI.out.1 HZ.out HI.out.2.2.1 (fun k hk => (HI.out.2.2.2.1 k hk).2) HI.out.2.2.2.2.2.1 ⟨rfl, rfl, rfl, rfl, rfl, HQl.out⟩ (HI.out.2.2.2.2.2.2)
    · rw [if_pos (by rfl)]
      simp only [List.getElem_toArray, List.getElem_cons_zero, List.getElem_cons_succ]
      go_simp
      have hal0 := allocAt y (.cells #[.int .i64 0, .int .i64 0, .int .i64 0, .int .i64 0, .int .i64 0] 47)
      have hz1 : Nw A (y.alloc (.cells #[.int .i64 0, .int .i64 0, .int .i64 0, .int .i64 0, .int .i64 0] 47)) := hS0.alloc _
      refine hK _ _ hz1 ?_
      clear hK K
      have hzl : A.heap.size ≤ y.heap.size := hS0.sz
      generalize y.heap.size = nb at *
      generalize y.alloc (.cells #[.int .i64 0, .int .i64 0, .int .i64 0, .int .i64 0, .int .i64 0] 47) = z1 at *
      refine oneH (i := 4) (by kernel_rfl) rfl (fun K hK => ?_)
      rw [if_pos (by rfl)]
      simp only [List.getElem_toArray, List.getElem_cons_zero, List.getElem_cons_succ]
      go_simp
      refine (HFi.out _ hz1).mono ?_
      rintro e z2 ⟨rfl, gz⟩
      have hz2 := hz1.trans gz
      have hal := gz.at' hal0
      refine hK _ _ hz2 ?_
      clear hK K hal0 gz
      refine wpAnyH_take (i := 5) (v := .tuple #[.agg #[.int .i64 b0, .int .i64 b1, .int .i64 b2, .int .i64 b3, .int .i64 b4], .bool yb]) rfl (by kernel_rfl) (by kernel_rfl) (by kernel_rfl) (fun c a w h => h) (.inl ⟨rfl, fun w hw => by go_simp⟩) hz2 ?_
      simp only [Act.put, List.getElem_toArray, List.getElem_cons_zero, List.getElem_cons_succ, List.setIfInBounds_toArray, List.set_cons_zero, List.set_cons_succ]
      refine wpAnyH_take (i := 6) (v := .agg #[.int .i64 b0, .int .i64 b1, .int .i64 b2, .int .i64 b3, .int .i64 b4]) rfl (by kernel_rfl) (by kernel_rfl) (by kernel_rfl) (fun c a w h => h) (.inl ⟨rfl, fun w hw => by go_simp⟩) hz2 ?_
      simp only [Act.put, List.getElem_toArray, List.getElem_cons_zero, List.getElem_cons_succ, List.setIfInBounds_toArray, List.set_cons_zero, List.set_cons_succ]
      refine wpAnyH_take (i := 7) (v := .bool yb) rfl (by kernel_rfl) (by kernel_rfl) (by kernel_rfl) (fun c a w h => h) (.inl ⟨rfl, fun w hw => by go_simp⟩) hz2 ?_
      simp only [Act.put, List.getElem_toArray, List.getElem_cons_zero, List.getElem_cons_succ, List.setIfInBounds_toArray, List.set_cons_zero, List.set_cons_succ]
      have n0 := hcell (j := 0) hal
      have n1 := hcell (j := 1) hal
      have n2 := hcell (j := 2) hal
      have n3 := hcell (j := 3) hal
      have n4 := hcell (j := 4) hal
      have nz := fun j => hfz (j := j) hal
      have nl := hlt hal
      refine oneH (i := 9) (by kernel_rfl) rfl (fun K hK => ?_)
      rw [if_pos (by rfl)]
      simp only [List.getElem_toArray, List.getElem_cons_zero, List.getElem_cons_succ]
      go_simp
      have hz3 : Nw A (((((z2.setCell ⟨nb, 0, none⟩ (.int .i64 b0)).setCell ⟨nb, 1, none⟩ (.int .i64 b1)).setCell ⟨nb, 2, none⟩ (.int .i64 b2)).setCell ⟨nb, 3, none⟩ (.int .i64 b3)).setCell ⟨nb, 4, none⟩ (.int .i64 b4)) := ((((hz2.st (p := ⟨nb, 0, none⟩) hzl _).st (p := ⟨nb, 1, none⟩) hzl _).st (p := ⟨nb, 2, none⟩) hzl _).st (p := ⟨nb, 3, none⟩) hzl _).st (p := ⟨nb, 4, none⟩) hzl _
      refine hK _ _ hz3 ?_
      clear hK K n0 n1 n2 n3 n4 nz nl hal
      generalize (((((z2.setCell ⟨nb, 0, none⟩ (.int .i64 b0)).setCell ⟨nb, 1, none⟩ (.int .i64 b1)).setCell ⟨nb, 2, none⟩ (.int .i64 b2)).setCell ⟨nb, 3, none⟩ (.int .i64 b3)).setCell ⟨nb, 4, none⟩ (.int .i64 b4)) = z3 at *
      refine wpAnyH_take (i := 10) (v := .bool yb) rfl (by kernel_rfl) (by kernel_rfl) (by kernel_rfl) (fun c a w h => h) (.inl ⟨rfl, fun w hw => by go_simp⟩) hz3 ?_
      simp only [Act.put, List.getElem_toArray, List.getElem_cons_zero, List.getElem_cons_succ, List.setIfInBounds_toArray, List.set_cons_zero, List.set_cons_succ]
      refine wpAnyH_done (by kernel_rfl) ?_ _
      have HZ := Lib.hid hz3
      have k0 := HZ.out.kp c0
      have k1 := HZ.out.kp c1
      have k2 := HZ.out.kp c2
      have k3 := HZ.out.kp c3
      have hr := HZ.out.at' HI.out.2.2.2.2.2.2
      have r0 := hcell (j := 0) hr
      have r1 := hcell (j := 1) hr
      have r2 := hcell (j := 2) hr
      have r3 := hcell (j := 3) hr
      have rz := fun j => hfz (j := j) hr
      have hzl := HZ.out.sz
      clear hr
      change (NOr _ .normal _ _)
      unfold NOr
      cases yb
      · gi_wp2
        exact ⟨fun k hk => HZ.out.block k (hlt (HI.out.2.2.2.1 k hk).2.choose_spec.1), KpS.tch (Tch.nw (S := fun _ => False) HZ.out) (fun k e => ⟨HI.out.2.2.1 k e, fun q => q⟩), (wiStep HI.out.1 HZ.out HI.out.2.2.1 HI.out.2.2.2.2.2.1)⟩
      · gi_wp2
        exact wiFound (x := ⟨⟨xt, xr, xW, xq⟩, xp, xa, xc⟩) HI.out.1 HZ.out HI.out.2.2.1 (fun k hk => (HI.out.2.2.2.1 k hk).2) HI.out.2.2.2.2.2.1 ⟨rfl, rfl, rfl, rfl, rfl, HQl.out⟩ (HI.out.2.2.2.2.2.2)
  case done =>
    intro D S xs W hD _ hfin hi hK
    subst hfin
    obtain ⟨u0, u1, u2, u3, hres⟩ := hi.res
    have r0 := hcell (j := 0) hres
    have r1 := hcell (j := 1) hres
    have r2 := hcell (j := 2) hres
    have r3 := hcell (j := 3) hres
    have rz := fun j => hfz (j := j) hres
    have rl := hlt hres
    have HRes := Lib.hid hres
    have HE : Hid (wthP xs id = zeroHp ∧ Nw w W) := Lib.hid ⟨by unfold wthP; rw [find_no hi.no]; rfl, hi.nw⟩
    have hwl := hi.nw.sz
    clear hseq hA0 hi hres
    gi_wp2
    have hn4 : Nw w ((((W.setCell ⟨w.heap.size + 1, 0, none⟩ (.int .i64 0)).setCell ⟨w.heap.size + 1, 1, none⟩ (.int .i64 0)).setCell ⟨w.heap.size + 1, 2, none⟩ (.slice none 0 0)).setCell ⟨w.heap.size + 1, 3, none⟩ (.int .i64 0)) := (((HE.out.2.st (p := ⟨w.heap.size + 1, 0, none⟩) (Nat.le_succ _) _).st (p := ⟨w.heap.size + 1, 1, none⟩) (Nat.le_succ _) _).st (p := ⟨w.heap.size + 1, 2, none⟩) (Nat.le_succ _) _).st (p := ⟨w.heap.size + 1, 3, none⟩) (Nat.le_succ _) _
    have hr4 : ((((W.setCell ⟨w.heap.size + 1, 0, none⟩ (.int .i64 0)).setCell ⟨w.heap.size + 1, 1, none⟩ (.int .i64 0)).setCell ⟨w.heap.size + 1, 2, none⟩ (.slice none 0 0)).setCell ⟨w.heap.size + 1, 3, none⟩ (.int .i64 0)).heap[w.heap.size + 1]? = some (.cells #[.int .i64 0, .int .i64 0, .slice none 0 0, .int .i64 0] 56 (0, 0)) := by
      have := hset (j := 3) (.int .i64 0) (hset (j := 2) (.slice none 0 0) (hset (j := 1) (.int .i64 0) (hset (j := 0) (.int .i64 0) HRes.out)))
      rw [this]; rfl
    have hK4 : ((((W.setCell ⟨w.heap.size + 1, 0, none⟩ (.int .i64 0)).setCell ⟨w.heap.size + 1, 1, none⟩ (.int .i64 0)).setCell ⟨w.heap.size + 1, 2, none⟩ (.slice none 0 0)).setCell ⟨w.heap.size + 1, 3, none⟩ (.int .i64 0)).heap[D]? = some (.deferred (some [])) := by
      have hne : D ≠ w.heap.size + 1 := by omega
      rw [Below.heap_setCell _ _ _ _ hne, Below.heap_setCell _ _ _ _ hne, Below.heap_setCell _ _ _ _ hne, Below.heap_setCell _ _ _ _ hne]
      exact hK
    have HW := Lib.hid (show hpH (wthP xs id) = .agg #[.int .i64 0, .int .i64 0, .slice none 0 0, .int .i64 0] by rw [HE.out.1]; rfl)
    clear r0 r1 r2 r3 rz hK
    have hDl := hlt hK4
    have HK := Lib.hid (run_takeDeferred (P := Tryz.prog) hK4)
    have hrf : (((((W.setCell ⟨w.heap.size + 1, 0, none⟩ (.int .i64 0)).setCell ⟨w.heap.size + 1, 1, none⟩ (.int .i64 0)).setCell ⟨w.heap.size + 1, 2, none⟩ (.slice none 0 0)).setCell ⟨w.heap.size + 1, 3, none⟩ (.int .i64 0)).putObj D (.deferred none)).heap[w.heap.size + 1]? = some (.cells #[.int .i64 0, .int .i64 0, .slice none 0 0, .int .i64 0] 56 (0, 0)) := (World.putObj_heap_other (by omega)).trans hr4
    have HN : Hid (Nw w (((((W.setCell ⟨w.heap.size + 1, 0, none⟩ (.int .i64 0)).setCell ⟨w.heap.size + 1, 1, none⟩ (.int .i64 0)).setCell ⟨w.heap.size + 1, 2, none⟩ (.slice none 0 0)).setCell ⟨w.heap.size + 1, 3, none⟩ (.int .i64 0)).putObj D (.deferred none))) := Lib.hid (chNw (Ch'.put (n₀ := D) (S := fun _ => False) _ (.inl rfl) hK4 rfl) hn4 (by omega) (fun _ e => e.elim))
    refine ⟨by simp, .inl ⟨_, _, rfl, HK.out, ?_⟩⟩
    generalize ((((W.setCell ⟨w.heap.size + 1, 0, none⟩ (.int .i64 0)).setCell ⟨w.heap.size + 1, 1, none⟩ (.int .i64 0)).setCell ⟨w.heap.size + 1, 2, none⟩ (.slice none 0 0)).setCell ⟨w.heap.size + 1, 3, none⟩ (.int .i64 0)).putObj D (.deferred none) = W5 at *
    have z0 := hcell (j := 0) hrf
    have z1 := hcell (j := 1) hrf
    have z2 := hcell (j := 2) hrf
    have z3 := hcell (j := 3) hrf
    rw [HW.out]
    clear HK
    exact ⟨_, (by simp [results, Tryz.results51, go_sem, *] : _ = _), rfl, HN.out⟩
  case stop =>
    intro D c S pre W hD hpre hx hK
    obtain ⟨⟨rfl, hg, p, x, rfl, h1, h2, hr⟩, _⟩ := hx
    have HE := Lib.hid (And.intro (find_pre hpre h1 h2) hg)
    have r0 := hcell (j := 0) hr
    have r1 := hcell (j := 1) hr
    have r2 := hcell (j := 2) hr
    have r3 := hcell (j := 3) hr
    have rl := hlt hr
    have hwl := hg.sz
    have HRes := Lib.hid hr
    clear hseq hA0 hg hr h1 h2 hpre
    gi_wp2
    have HW := Lib.hid (show hpH (wthP l id) = .agg #[.int .i64 x.h.t, .int .i64 x.h.r, .slice x.a x.h.q.length x.c, .int .i64 x.h.W] by unfold wthP; rw [HE.out.1]; rfl)
    clear r0 r1 r2 r3
    have hDl := hlt hK
    have HK := Lib.hid (run_takeDeferred (P := Tryz.prog) hK)
    have hrf : (W.putObj D (.deferred none)).heap[w.heap.size + 1]? = some (.cells #[.int .i64 x.h.t, .int .i64 x.h.r, .slice x.a x.h.q.length x.c, .int .i64 x.h.W] 56 (0, 0)) := (World.putObj_heap_other (by omega)).trans HRes.out
    have HN : Hid (Nw w (W.putObj D (.deferred none))) := Lib.hid (chNw (Ch'.put (n₀ := D) (S := fun _ => False) _ (.inl rfl) hK rfl) HE.out.2 (by omega) (fun _ e => e.elim))
    refine ⟨by simp, .inl ⟨_, _, rfl, HK.out, ?_⟩⟩
    generalize W.putObj D (.deferred none) = W5 at *
    have z0 := hcell (j := 0) hrf
    have z1 := hcell (j := 1) hrf
    have z2 := hcell (j := 2) hrf
    have z3 := hcell (j := 3) hrf
    rw [HW.out]
    clear HK
    exact ⟨_, (by simp [results, Tryz.results51, go_sem, *] : _ = _), rfl, HN.out⟩
end Go.Proofs.YtodnlelnpidliaaGreat
end

/- A stable sort's merge in place: plain facts on lists. Of no program. -/
section
namespace Go.Proofs.YtodnlelnpidliaaGreat
set_option linter.unusedVariables false

/-- A comparison that orders the members of a set strictly, any two of them. -/
structure OrdC (c : Int → Int → Int) (M : Int → Prop) : Prop where
  tr : ∀ x y z, M x → M y → M z → c x y < 0 → c y z < 0 → c x z < 0
  tot : ∀ x y, M x → M y → x ≠ y → c x y < 0 ∨ c y x < 0
  asym : ∀ x y, M x → M y → c x y < 0 → ¬ c y x < 0
abbrev Sd (c : Int → Int → Int) (l : List Int) : Prop := l.Pairwise fun x y => c x y < 0
theorem sm_sw_mid (U V Z : List Int) (x y : Int) (p q : Nat) (hp : p = U.length) (hq : q = U.length + 1 + V.length) : ((U ++ x :: (V ++ y :: Z)).set p y).set q x = U ++ y :: (V ++ x :: Z) := by
  subst hp hq
  rw [List.set_append_right _ _ (Nat.le_refl _), Nat.sub_self, List.set_cons_zero, List.set_append_right _ _ (by omega), show U.length + 1 + V.length - U.length = V.length + 1 by omega, List.set_cons_succ,
    List.set_append_right _ _ (Nat.le_refl _), Nat.sub_self, List.set_cons_zero]
theorem sm_at_mid (U : List Int) (x : Int) (Z : List Int) (p : Nat) (hp : p = U.length) : (U ++ x :: Z).getD p 0 = x := by subst hp; simp [List.getD]
theorem sm_at_mid2 (U V Z : List Int) (x y : Int) (q : Nat) (hq : q = U.length + 1 + V.length) : (U ++ x :: (V ++ y :: Z)).getD q 0 = y := by
  have e : U ++ x :: (V ++ y :: Z) = (U ++ x :: V) ++ y :: Z := by simp
  rw [e]
  exact sm_at_mid _ _ _ _ (by simp; omega)
theorem sm_at_app_r (U V : List Int) (i : Nat) : (U ++ V).getD (U.length + i) 0 = V.getD i 0 := by simp [List.getD, List.getElem?_append_right]
theorem sm_at_app_l' (U V : List Int) (i : Nat) (h : i < U.length) : (U ++ V).getD i 0 = U.getD i 0 := by simp [List.getD, List.getElem?_append_left h]
theorem sm_part_at (X : List Int) (i : Nat) (h : i < X.length) : X = X.take i ++ X.getD i 0 :: X.drop (i + 1) := by
  have e : X.getD i 0 = X[i] := by simp [List.getD, h]
  rw [e, List.getElem_cons_drop, List.take_append_drop]
/-- One round of the exchange of two ranges. -/
def swSt (P X R Y Q : List Int) (i : Nat) : List Int := P ++ Y.take i ++ X.drop i ++ R ++ X.take i ++ Y.drop i ++ Q
theorem swSt_zero (P X R Y Q : List Int) : swSt P X R Y Q 0 = P ++ X ++ R ++ Y ++ Q := by simp [swSt]
theorem swSt_all (P X R Y Q : List Int) (h : X.length = Y.length) : swSt P X R Y Q X.length = P ++ Y ++ R ++ X ++ Q := by
  unfold swSt
  rw [List.drop_length, List.take_length, h, List.take_length, List.drop_length]
  simp
theorem swSt_step (P X R Y Q : List Int) (h : X.length = Y.length) (i : Nat) (hi : i < X.length) :
    ∃ x y U V Z, swSt P X R Y Q i = U ++ x :: (V ++ y :: Z) ∧ swSt P X R Y Q (i + 1) = U ++ y :: (V ++ x :: Z) ∧ U.length = P.length + i ∧ U.length + 1 + V.length = P.length + X.length + R.length + i := by
  have hy : i < Y.length := by omega
  obtain ⟨x, hx⟩ : ∃ x, X[i] = x := ⟨_, rfl⟩
  obtain ⟨y, hyy⟩ : ∃ y, Y[i] = y := ⟨_, rfl⟩
  have d1 : X.drop i = x :: X.drop (i + 1) := by rw [← hx]; exact (List.getElem_cons_drop hi).symm
  have d2 : Y.drop i = y :: Y.drop (i + 1) := by rw [← hyy]; exact (List.getElem_cons_drop hy).symm
  have t1 : X.take (i + 1) = X.take i ++ [x] := by rw [← hx]; exact List.take_succ_eq_append_getElem hi
  have t2 : Y.take (i + 1) = Y.take i ++ [y] := by rw [← hyy]; exact List.take_succ_eq_append_getElem hy
  refine ⟨x, y, P ++ Y.take i, X.drop (i + 1) ++ R ++ X.take i, Y.drop (i + 1) ++ Q, ?_, ?_, ?_, ?_⟩
  · unfold swSt; rw [d1, d2]; simp
  · unfold swSt; rw [t1, t2]; simp
  · simp; omega
  · simp; omega
/-! ### Sorted parts -/
theorem sm_sd_app {c : Int → Int → Int} {l m : List Int} (h1 : Sd c l) (h2 : Sd c m) (h : ∀ x ∈ l, ∀ y ∈ m, c x y < 0) : Sd c (l ++ m) := List.pairwise_append.2 ⟨h1, h2, h⟩
theorem sm_sd_at {c : Int → Int → Int} {l : List Int} (h : Sd c l) {i j : Nat} (hij : i < j) (hj : j < l.length) : c (l.getD i 0) (l.getD j 0) < 0 := by
  have := List.pairwise_iff_getElem.1 h i j (Nat.lt_trans hij hj) hj hij
  simpa [List.getD, hj, Nat.lt_trans hij hj] using this
theorem sm_mem_at {l : List Int} {x : Int} (h : x ∈ l) : ∃ i, i < l.length ∧ l.getD i 0 = x := by
  obtain ⟨i, hi, e⟩ := List.getElem_of_mem h
  exact ⟨i, hi, by simp [List.getD, hi, e]⟩
theorem sm_at_mem {l : List Int} {j : Nat} (h : j < l.length) : l.getD j 0 ∈ l := by
  have : l.getD j 0 = l[j] := by simp [List.getD, h]
  rw [this]
  exact List.getElem_mem h
/-- All of one sorted list are ahead of all of another one, if the last one is ahead of the first one. -/
theorem sm_cross {c : Int → Int → Int} {M : Int → Prop} (o : OrdC c M) {l m : List Int} (hl : ∀ x ∈ l, M x) (hm : ∀ x ∈ m, M x) (h1 : Sd c l) (h2 : Sd c m) (h : 0 < l.length → 0 < m.length → c (l.getD (l.length - 1) 0) (m.getD 0 0) < 0) : ∀ x ∈ l, ∀ y ∈ m, c x y < 0 := by
  intro x hx y hy
  obtain ⟨i, hi, rfl⟩ := sm_mem_at hx
  obtain ⟨j, hj, rfl⟩ := sm_mem_at hy
  have h0 := h (by omega) (by omega)
  have a : c (l.getD i 0) (m.getD 0 0) < 0 := by
    by_cases e : i = l.length - 1
    · rw [e]; exact h0
    · exact o.tr _ _ _ (hl _ hx) (hl _ (sm_at_mem (by omega))) (hm _ (sm_at_mem (by omega))) (sm_sd_at h1 (by omega : i < l.length - 1) (by omega)) h0
  by_cases e : j = 0
  · rw [e]; exact a
  · exact o.tr _ _ _ (hl _ hx) (hm _ (sm_at_mem (by omega))) (hm _ hy) a (sm_sd_at h2 (by omega : 0 < j) hj)
theorem sm_take_last (B : List Int) (k : Nat) (h0 : 0 < k) (h : k ≤ B.length) : (B.take k).getD ((B.take k).length - 1) 0 = B.getD (k - 1) 0 := by
  have : (B.take k).length = k := by simp; omega
  rw [this]
  simp [List.getD, show k - 1 < k by omega]
theorem sm_drop_first (B : List Int) (k : Nat) : (B.drop k).getD 0 0 = B.getD k 0 := by simp [List.getD]
theorem sm_take_all {B : List Int} {M : Int → Prop} (h : ∀ x ∈ B, M x) (k : Nat) : ∀ x ∈ B.take k, M x := fun x hx => h x (List.mem_of_mem_take hx)
theorem sm_drop_all {B : List Int} {M : Int → Prop} (h : ∀ x ∈ B, M x) (k : Nat) : ∀ x ∈ B.drop k, M x := fun x hx => h x (List.mem_of_mem_drop hx)
theorem sm_sd_take {c : Int → Int → Int} {B : List Int} (h : Sd c B) (k : Nat) : Sd c (B.take k) := List.Pairwise.sublist (List.take_sublist k B) h
theorem sm_sd_drop {c : Int → Int → Int} {B : List Int} (h : Sd c B) (k : Nat) : Sd c (B.drop k) := List.Pairwise.sublist (List.drop_sublist k B) h
/-- One put into its place. -/
theorem sm_ins_sd {c : Int → Int → Int} {M : Int → Prop} (o : OrdC c M) {B : List Int} {x : Int} (hB : ∀ y ∈ B, M y) (hx : M x) (h : Sd c B) (k : Nat) (hk : k ≤ B.length) (h1 : 0 < k → c (B.getD (k - 1) 0) x < 0) (h2 : k < B.length → c x (B.getD k 0) < 0) : Sd c (B.take k ++ x :: B.drop k) := by
  have a1 : ∀ y ∈ B.take k, ∀ z ∈ [x], c y z < 0 := sm_cross o (sm_take_all hB k) (by intro z hz; simp at hz; rw [hz]; exact hx) (sm_sd_take h k) (by simp [Sd]) (fun q _ => by
    have : 0 < k := by
      rcases Nat.eq_zero_or_pos k with e | e
      · subst e
        simp at q
      · exact e
    rw [sm_take_last B k this hk]
    exact h1 this)
  have a2 : ∀ y ∈ [x], ∀ z ∈ B.drop k, c y z < 0 := sm_cross o (by intro z hz; simp at hz; rw [hz]; exact hx) (sm_drop_all hB k) (by simp [Sd]) (sm_sd_drop h k) (fun _ q => by
    rw [sm_drop_first]
    exact h2 (by simp at q; omega))
  have a3 : ∀ y ∈ B.take k, ∀ z ∈ B.drop k, c y z < 0 := fun y hy z hz => o.tr _ _ _ (sm_take_all hB k y hy) hx (sm_drop_all hB k z hz) (a1 y hy x (by simp)) (a2 x (by simp) z hz)
  refine sm_sd_app (sm_sd_take h k) (List.pairwise_cons.2 ⟨fun z hz => a2 x (by simp) z hz, sm_sd_drop h k⟩) fun y hy z hz => ?_
  rcases List.mem_cons.1 hz with rfl | hz
  · exact a1 y hy _ (by simp)
  · exact a3 y hy z hz
theorem sm_ins_perm' (B : List Int) (x : Int) (k : Nat) : (B.take k ++ x :: B.drop k).Perm (x :: B) := by
  refine List.perm_middle.trans ?_
  rw [List.take_append_drop]
/-- A merge by sm_halves: what the two searches' ends say. -/
theorem sm_halves {c : Int → Int → Int} {M : Int → Prop} (o : OrdC c M) {A B A1 A2 B1 B2 M1 M2 : List Int} (hA : Sd c A) (hB : Sd c B) (mA : ∀ x ∈ A, M x) (mB : ∀ x ∈ B, M x)
    (eA : A = A1 ++ A2) (eB : B = B1 ++ B2) (q1 : 0 < A1.length → 0 < B2.length → c (A1.getD (A1.length - 1) 0) (B2.getD 0 0) < 0) (q2 : 0 < B1.length → 0 < A2.length → c (B1.getD (B1.length - 1) 0) (A2.getD 0 0) < 0)
    (s1 : Sd c M1) (s2 : Sd c M2) (p1 : M1.Perm (A1 ++ B1)) (p2 : M2.Perm (A2 ++ B2)) : Sd c (M1 ++ M2) ∧ (M1 ++ M2).Perm (A ++ B) := by
  subst eA eB
  obtain ⟨a1, a2, a3⟩ := List.pairwise_append.1 hA
  obtain ⟨b1, b2, b3⟩ := List.pairwise_append.1 hB
  have mA1 : ∀ x ∈ A1, M x := fun x hx => mA x (List.mem_append_left _ hx)
  have mA2 : ∀ x ∈ A2, M x := fun x hx => mA x (List.mem_append_right _ hx)
  have mB1 : ∀ x ∈ B1, M x := fun x hx => mB x (List.mem_append_left _ hx)
  have mB2 : ∀ x ∈ B2, M x := fun x hx => mB x (List.mem_append_right _ hx)
  have x1 := sm_cross o mA1 mB2 a1 b2 q1
  have x2 := sm_cross o mB1 mA2 b1 a2 q2
  refine ⟨sm_sd_app s1 s2 fun x hx y hy => ?_, ?_⟩
  · rcases List.mem_append.1 (p1.mem_iff.1 hx) with hx | hx <;> rcases List.mem_append.1 (p2.mem_iff.1 hy) with hy | hy
    · exact a3 x hx y hy
    · exact x1 x hx y hy
    · exact x2 x hx y hy
    · exact b3 x hx y hy
  · refine (p1.append p2).trans ?_
    have e1 : (A1 ++ B1) ++ (A2 ++ B2) = A1 ++ (B1 ++ A2) ++ B2 := by simp
    have e2 : (A1 ++ A2) ++ (B1 ++ B2) = A1 ++ (A2 ++ B1) ++ B2 := by simp
    rw [e1, e2]
    exact (List.Perm.append_left A1 List.perm_append_comm).append_right B2
end Go.Proofs.YtodnlelnpidliaaGreat
end

/- insertionSortCmpFunc of ints, with any function value that compares and makes at most new blocks. -/
section
namespace Go.Proofs.YtodnlelnpidliaaGreat
open Go.RowKit
set_option linter.unusedVariables false      -- a contract need not use every name

/-- A function value that compares two numbers that meet a condition, whatever is done to block gi. -/
def Cmps (w : World) (f : Value) (gi : Nat) (c : Int → Int → Int) (P : Int → Prop) : Prop := ∃ (g : Nat) (lb : Array Value), f = .func (.func g) #[] lb ∧ (∀ args w, (callFunc g args).run Tryz.prog w = .ok (.enter g args) w) ∧
  ∀ (x y : Int) (w1 : World), P x → P y → Tch (fun k => k = gi) w w1 → Calls Tryz.prog g (#[.int .i64 x, .int .i64 y] ++ lb) w1 fun e w' => e = .returned (.int .i64 (c x y)) ∧ Nw w1 w'
def insF (c : Int → Int → Int) (a : Nat) : Nat → List Int → List Int
  | 0, L => L
  | j + 1, L => if a < j + 1 ∧ c (L.getD (j + 1) 0) (L.getD j 0) < 0 then insF c a j ((L.set (j + 1) (L.getD j 0)).set j (L.getD (j + 1) 0)) else L
def srtF (c : Int → Int → Int) (a : Nat) : Nat → Nat → List Int → List Int
  | 0, _, L => L
  | n + 1, i, L => srtF c a n (i + 1) (insF c a i L)
theorem insF_stop {c : Int → Int → Int} {a j : Nat} {L : List Int} (h : ¬ a < j) : insF c a j L = L := by
  cases j with
  | zero => rfl
  | succ j => unfold insF; rw [if_neg (fun e => h e.1)]
theorem insF_keep {c : Int → Int → Int} {a j : Nat} {L : List Int} (h : ¬ c (L.getD (j + 1) 0) (L.getD j 0) < 0) : insF c a (j + 1) L = L := by
  unfold insF; rw [if_neg (fun e => h e.2)]
theorem insF_go {c : Int → Int → Int} {a j : Nat} {L : List Int} (h1 : a < j + 1) (h : c (L.getD (j + 1) 0) (L.getD j 0) < 0) : insF c a (j + 1) L = insF c a j ((L.set (j + 1) (L.getD j 0)).set j (L.getD (j + 1) 0)) := by
  conv => lhs; unfold insF
  rw [if_pos ⟨h1, h⟩]
theorem set2_all {P : Int → Prop} {L : List Int} (h : ∀ x ∈ L, P x) {x y : Int} (hx : P x) (hy : P y) {m m1 : Nat} : ∀ z ∈ (L.set m y).set m1 x, P z := by
  intro z hz
  rcases List.mem_or_eq_of_mem_set hz with hz | rfl
  · rcases List.mem_or_eq_of_mem_set hz with hz | rfl
    · exact h z hz
    · exact hy
  · exact hx
theorem Tch.st' {S : Nat → Prop} {a b : World} (h : Tch S a b) {p : Nat} (hp : S p) (j : Nat) (u : Value) : Tch S a (b.setCell ⟨p, j, none⟩ u) := h.set (p := ⟨p, j, none⟩) (.inl hp) u
set_option maxRecDepth 100000 in
set_option maxHeartbeats 4000000 in
theorem insSort (f : Value) (c : Int → Int → Int) (P : Int → Prop) (g cap : Nat) (l : List Int) (a b : Nat) (w : World) (hl : l.length ≤ 1000) (hab : a ≤ b) (hb : b ≤ l.length) (h : IS w (.slice (some ⟨g, 0, none⟩) l.length cap) l) (hP : ∀ x ∈ l, P x) (hf : Cmps w f g c P) :
    Calls Tryz.prog 156 #[.slice (some ⟨g, 0, none⟩) l.length cap, .int .i64 a, .int .i64 b, f] w fun e w' => e = .returned (.tuple #[]) ∧ IS w' (.slice (some ⟨g, 0, none⟩) l.length cap) (srtF c a (b - (a + 1)) (a + 1) l) ∧ Tch (fun k => k = g) w w' := by
  obtain ⟨gf, lb, rfl, eg, hT⟩ := hf
  have HT := Lib.hid hT
  have H := Lib.hid (And.intro h hP)
  obtain ⟨n, hn⟩ : ∃ n, l.length = n := ⟨_, rfl⟩
  rw [hn] at hl hb H ⊢
  obtain ⟨R, hR⟩ : ∃ R, srtF c a (b - (a + 1)) (a + 1) l = R := ⟨_, rfl⟩
  rw [hR]
  have HR := Lib.hid (And.intro hR hn)
  clear hT h hP hR hn
  go_enter Tryz.func156, Tryz.ntmps156
  go_wp2
  go_loopw [8] (fun i wr => ∃ (k : Nat) (L : List Int), i = .int .i64 k ∧ a < k ∧ (k ≤ b ∨ k = a + 1) ∧ srtF c a (b - k) k L = R ∧ L.length = n ∧ IS wr (.slice (some ⟨g, 0, none⟩) n cap) L ∧ (∀ x ∈ L, P x) ∧ Tch (fun k => k = g) w wr) (fun i _ => b - (intOf i).toNat)
  case atStart => exact ⟨a + 1, l, by go_num, by omega, .inr rfl, HR.out.1, HR.out.2, H.out.1, H.out.2, Tch.refl _ _⟩
  case round =>
    obtain ⟨k, L, rfl, hak, hkb, hS, hLn, hI, hPL, hTc⟩ := hrel
    by_cases hlt : k < b
    · have hS2 : srtF c a (b - (k + 1)) (k + 1) (insF c a k L) = R := by
        rw [show b - k = (b - (k + 1)) + 1 by omega] at hS
        exact hS
      obtain ⟨M, hM⟩ : ∃ M, insF c a k L = M := ⟨_, rfl⟩
      rw [hM] at hS2
      have HM := Lib.hid (And.intro hM (And.intro hI (And.intro hPL (And.intro hTc hLn))))
      have HS := Lib.hid hS2
      clear hS hS2 hM hI hPL hTc hLn
      go_wp2
      go_loopw [9] (fun j wr => ∃ (m : Nat) (L : List Int), j = .int .i64 m ∧ a ≤ m ∧ m ≤ k ∧ insF c a m L = M ∧ L.length = n ∧ IS wr (.slice (some ⟨g, 0, none⟩) n cap) L ∧ (∀ x ∈ L, P x) ∧ Tch (fun k => k = g) w wr) (fun j _ => (intOf j).toNat)
      case atStart => exact ⟨k, L, rfl, by omega, Nat.le_refl _, HM.out.1, HM.out.2.2.2.2, HM.out.2.1, HM.out.2.2.1, HM.out.2.2.2.1⟩
      case round =>
        obtain ⟨m, L, rfl, ham, hmk, hF, hLn, hI, hPL, hTc⟩ := hrel
        have q1 := (Nw.refl wr).drewQ
        obtain ⟨wc, hwc⟩ : ∃ wc, wr.drew = wc := ⟨_, rfl⟩
        have hgl := hI.glt
        by_cases hm : a < m
        · obtain ⟨m1, hm1⟩ : ∃ m1, m = m1 + 1 := ⟨m - 1, by omega⟩
          have dm : decide ((a : Int) < (m : Int)) = true := by rw [decide_eq_true_iff]; omega
          have c1 := hI.cell m (by omega)
          have c0 := hI.cell m1 (by omega)
          have px : P (L.getD m 0) := by
            rw [show L.getD m 0 = L[m]'(by omega) by simp [List.getD, show m < L.length by omega]]
            exact hPL _ (List.getElem_mem _)
          have py : P (L.getD m1 0) := by
            rw [show L.getD m1 0 = L[m1]'(by omega) by simp [List.getD, show m1 < L.length by omega]]
            exact hPL _ (List.getElem_mem _)
          have HC := Lib.hid (fun (w1 : World) (hN : Nw wr w1) => HT.out _ _ w1 px py (hTc.trans (Tch.nw hN)))
          have hw1 : IntKind.i64.wrap ((m : Int) - 1) = (m1 : Int) := by rw [IntKind.wrap_i64]; omega
          have hi1 : (m : Int) < (n : Int) := by omega
          have hi0 : (m1 : Int) < (n : Int) := by omega
          have hkn1 : m < n := by omega
          have hkn0 : m1 < n := by omega
          have HGo : Hid (c (L.getD m 0) (L.getD m1 0) < 0 → insF c a m1 ((L.set m (L.getD m1 0)).set m1 (L.getD m 0)) = M) := Lib.hid (by subst hm1; exact fun e => (insF_go (L := L) hm e).symm.trans hF)
          have HKe : Hid (¬ c (L.getD m 0) (L.getD m1 0) < 0 → L = M) := Lib.hid (by subst hm1; exact fun e => (insF_keep (a := a) (L := L) e).symm.trans hF)
          have HM1 := Lib.hid hm1
          clear hm1
          have fz := fun j => hI.frozen j
          have HI := Lib.hid (And.intro hI (And.intro hPL (And.intro hTc hLn)))
          have hpx := Lib.hid px
          have hpy := Lib.hid py
          clear px py hI hPL hTc hF hLn
          generalize hxe : L.getD m 0 = x at *
          generalize hye : L.getD m1 0 = y at *
          obtain ⟨z, hz⟩ : ∃ z, c x y = z := ⟨_, rfl⟩
          rw [hz] at HC HGo HKe
          clear hz hxe hye
          have s1 : ∀ u, Nw wr u → u.cell? ⟨g, m, none⟩ = some (.int .i64 x) := fun u hu => hu.kp c1
          have s0 : ∀ u, Nw wr u → u.cell? ⟨g, m1, none⟩ = some (.int .i64 y) := fun u hu => hu.kp c0
          by_cases hz0 : z < 0
          · have dz : decide (z < 0) = true := by simpa using hz0
            have HF := Lib.hid (HGo.out hz0)
            clear HGo HKe hz0 c1 c0
            go_wp2
            refine region_told [some true, some true, some true, some true, some true, some true, some true, some true, some true, some true, some true, some true, some true, some true, some false, none, some true, some true] (Nw wr) (by kernel_rfl) (by kernel_rfl) (by kernel_rfl) q1 ?_
            rw [hwc] at q1 ⊢
            clear hwc
            repeat (first
              | (refine HW.off ?_)
              | (refine HW.take' ?_; (first | (refine ⟨undef, Or.inr ⟨by rfl, rfl⟩, ?_⟩) | (apply Exists.intro; refine ⟨Or.inl ⟨by rfl, ?_⟩, ?_⟩; (intro x hx; go_simp; first | done | with_reducible rfl))); (try simp only [Act.put, List.setIfInBounds_toArray, List.set_cons_zero, List.set_cons_succ]))
              | (refine HW.go (fun K hK => ?_); go_simp; (first
                | (go_at_fn gf; (with_reducible refine (HC.out _ q1).mono ?_); rintro e wy ⟨rfl, g2⟩; refine hK.out _ _ (q1.trans g2) ?_; intro _; replace q1 := q1.trans g2; clear hK K g2)
                | (refine hK.out _ _ q1 ?_; intro _; clear hK K))))
            refine HW.end_ ?_
            refine NoPanic.normal ?_
            have t1 := s1 _ q1
            have t0 := s0 _ q1
            have hgl2 := Nat.lt_of_lt_of_le hgl q1.sz
            have fz2 := fun j => (q1.froz (o := j) hgl).trans (fz j)
            have HQ := Lib.hid q1
            clear s1 s0 q1 fz hgl
            go_wp2
            have hn1 : ¬ m1 = m := by have := HM1.out; omega
            have hn2 : ¬ m = m1 := by have := HM1.out; omega
            go_region
            go_wp2
            go_roundw
            case rel => exact ⟨m1, _, by go_num, by have := HM1.out; omega, by have := HM1.out; omega, HF.out, by rw [List.length_set, List.length_set]; exact HI.out.2.2.2, (((HI.out.1.nw HQ.out).set m y).set m1 x).nw (Nw.refl _).drewQ, set2_all HI.out.2.1 hpx.out hpy.out, (((HI.out.2.2.1.trans (Tch.nw HQ.out)).st' rfl m _).st' rfl m1 _).drewN 1⟩
            case measure => have := HM1.out; simp [intOf]; omega
          · have dz : decide (z < 0) = false := by simpa using hz0
            have HF := Lib.hid (HKe.out hz0)
            clear HGo HKe hz0 c1 c0
            go_wp2
            refine region_told [some true, some true, some true, some true, some true, some true, some true, some true, some true, some true, some true, some true, some true, some true, some false, none, some true, some true] (Nw wr) (by kernel_rfl) (by kernel_rfl) (by kernel_rfl) q1 ?_
            rw [hwc] at q1 ⊢
            clear hwc
            repeat (first
              | (refine HW.off ?_)
              | (refine HW.take' ?_; (first | (refine ⟨undef, Or.inr ⟨by rfl, rfl⟩, ?_⟩) | (apply Exists.intro; refine ⟨Or.inl ⟨by rfl, ?_⟩, ?_⟩; (intro x hx; go_simp; first | done | with_reducible rfl))); (try simp only [Act.put, List.setIfInBounds_toArray, List.set_cons_zero, List.set_cons_succ]))
              | (refine HW.go (fun K hK => ?_); go_simp; (first
                | (go_at_fn gf; (with_reducible refine (HC.out _ q1).mono ?_); rintro e wy ⟨rfl, g2⟩; refine hK.out _ _ (q1.trans g2) ?_; intro _; replace q1 := q1.trans g2; clear hK K g2)
                | (refine hK.out _ _ q1 ?_; intro _; clear hK K))))
            refine HW.end_ ?_
            refine NoPanic.normal ?_
            have HQ := Lib.hid q1
            clear s1 s0 q1 fz hgl
            go_wp2
            go_roundw
            case rel => exact ⟨k + 1, L, by go_num, by omega, .inl (by omega), by rw [HF.out]; exact HS.out, HI.out.2.2.2, HI.out.1.nw HQ.out, HI.out.2.1, HI.out.2.2.1.trans (Tch.nw HQ.out)⟩
            case measure => simp [intOf]; omega
        · have dm : decide ((a : Int) < (m : Int)) = false := by rw [decide_eq_false_iff_not]; omega
          have HF := Lib.hid ((insF_stop (c := c) (L := L) hm).symm.trans hF)
          have HI := Lib.hid (And.intro hI (And.intro hPL (And.intro hTc hLn)))
          clear hI hPL hTc hLn hF
          go_wp2
          refine region_told [some true, some true, some true, some true, some true, some true, some true, some true, some true, some true, some true, some true, some true, some true, some false, none, some true, some true] (Nw wr) (by kernel_rfl) (by kernel_rfl) (by kernel_rfl) q1 ?_
          rw [hwc] at q1 ⊢
          clear hwc
          repeat (first
            | (refine HW.off ?_)
            | (refine HW.take' ?_; (first | (refine ⟨undef, Or.inr ⟨by rfl, rfl⟩, ?_⟩) | (apply Exists.intro; refine ⟨Or.inl ⟨by rfl, ?_⟩, ?_⟩; (intro x hx; go_simp; first | done | with_reducible rfl))); (try simp only [Act.put, List.setIfInBounds_toArray, List.set_cons_zero, List.set_cons_succ]))
            | (refine HW.go (fun K hK => ?_); go_simp; ((refine hK.out _ _ q1 ?_; intro _; clear hK K))))
          refine HW.end_ ?_
          refine NoPanic.normal ?_
          have HQ := Lib.hid q1
          clear q1 hgl
          go_wp2
          go_roundw
          case rel => exact ⟨k + 1, L, by go_num, by omega, .inl (by omega), by rw [HF.out]; exact HS.out, HI.out.2.2.2, HI.out.1.nw HQ.out, HI.out.2.1, HI.out.2.2.1.trans (Tch.nw HQ.out)⟩
          case measure => simp [intOf]; omega
    · have HF := Lib.hid (show L = R by rw [← hS, show b - k = 0 by omega]; rfl)
      have HI := Lib.hid (And.intro hI hTc)
      clear hS hI hTc hPL hLn
      go_wp2
      exact bodyPost_end (results_none rfl _ _ _) rfl ⟨rfl, by rw [← HF.out]; exact HI.out.1, HI.out.2⟩
end Go.Proofs.YtodnlelnpidliaaGreat
end

/- SortStableFunc of at most 20 ints; plain facts of the insertion sort. -/
section
namespace Go.Proofs.YtodnlelnpidliaaGreat
open Go.RowKit
set_option linter.unusedVariables false      -- a contract need not use every name

/-- Insert from behind. -/
def insL (c : Int → Int → Int) (v : Int) : List Int → List Int
  | [] => [v]
  | x :: r => if c v x < 0 then x :: insL c v r else v :: x :: r
def sortS (c : Int → Int → Int) (S : List Int) : List Int := (S.foldl (fun acc v => insL c v acc) []).reverse
theorem getD_atQ {P : List Int} (x : Int) (Q : List Int) {k : Nat} (h : P.length = k) : (P ++ x :: Q).getD k 0 = x := by subst h; simp [List.getD]
theorem set_at' {P : List Int} (x y : Int) (Q : List Int) {k : Nat} (h : P.length = k) : (P ++ x :: Q).set k y = P ++ y :: Q := by
  subst h
  rw [List.set_append_right _ _ (Nat.le_refl _), Nat.sub_self, List.set_cons_zero]
theorem insF_spec (c : Int → Int → Int) (v : Int) (P : List Int) (a : Nat) (hP : P.length = a) : ∀ (X Q : List Int), insF c a (a + X.length) (P ++ X.reverse ++ v :: Q) = P ++ (insL c v X).reverse ++ Q
  | [], Q => by
    rw [insF_stop (by simp)]
    simp [insL]
  | x :: X, Q => by
    have hl : (P ++ X.reverse).length = a + X.length := by simp [hP]
    have hl2 : (P ++ X.reverse ++ [x]).length = a + X.length + 1 := by simp [hP]; omega
    have e0 : P ++ (x :: X).reverse ++ v :: Q = (P ++ X.reverse) ++ x :: (v :: Q) := by simp
    have e1 : P ++ (x :: X).reverse ++ v :: Q = (P ++ X.reverse ++ [x]) ++ v :: Q := by simp
    have g1 : (P ++ (x :: X).reverse ++ v :: Q).getD (a + X.length + 1) 0 = v := by rw [e1]; exact getD_atQ v Q hl2
    have g0 : (P ++ (x :: X).reverse ++ v :: Q).getD (a + X.length) 0 = x := by rw [e0]; exact getD_atQ x _ hl
    rw [show a + (x :: X).length = a + X.length + 1 by simp; omega]
    unfold insL
    by_cases h : c v x < 0
    · rw [if_pos h, insF_go (by omega) (by rw [g1, g0]; exact h), g1, g0]
      have s1 : ((P ++ (x :: X).reverse ++ v :: Q).set (a + X.length + 1) x).set (a + X.length) v = P ++ X.reverse ++ v :: (x :: Q) := by
        rw [e1, set_at' v x Q hl2]
        have : P ++ X.reverse ++ [x] ++ x :: Q = (P ++ X.reverse) ++ x :: (x :: Q) := by simp
        rw [this, set_at' x v _ hl]
      rw [s1, insF_spec c v P a hP X (x :: Q)]
      simp
    · rw [if_neg h, insF_keep (by rw [g1, g0]; exact h)]
      simp
theorem srtF_spec (c : Int → Int → Int) (P : List Int) (a : Nat) (hP : P.length = a) : ∀ (S X Q : List Int), srtF c a S.length (a + X.length) (P ++ X.reverse ++ S ++ Q) = P ++ (S.foldl (fun acc v => insL c v acc) X).reverse ++ Q
  | [], X, Q => by simp [srtF]
  | v :: S, X, Q => by
    have hx : ∀ l : List Int, (insL c v l).length = l.length + 1 := by
      intro l
      induction l with
      | nil => rfl
      | cons x r ih => unfold insL; split <;> simp [ih]
    show srtF c a S.length (a + X.length + 1) (insF c a (a + X.length) (P ++ X.reverse ++ v :: S ++ Q)) = _
    have e : P ++ X.reverse ++ v :: S ++ Q = P ++ X.reverse ++ v :: (S ++ Q) := by simp
    rw [e, insF_spec c v P a hP X (S ++ Q)]
    have := srtF_spec c P a hP S (insL c v X) Q
    rw [hx X, show a + (X.length + 1) = a + X.length + 1 by omega] at this
    rw [show P ++ (insL c v X).reverse ++ (S ++ Q) = P ++ (insL c v X).reverse ++ S ++ Q by simp, this]
    rfl
/-- A part sorted, from a to b. -/
theorem srt_part (c : Int → Int → Int) (l : List Int) (a b : Nat) (hab : a ≤ b) (hb : b ≤ l.length) : srtF c a (b - (a + 1)) (a + 1) l = l.take a ++ sortS c ((l.drop a).take (b - a)) ++ l.drop b := by
  have hsp : l = l.take a ++ ((l.drop a).take (b - a) ++ l.drop b) := by
    have h1 : l.drop b = (l.drop a).drop (b - a) := by rw [List.drop_drop, show a + (b - a) = b by omega]
    rw [h1, List.take_append_drop, List.take_append_drop]
  obtain ⟨S, hS⟩ : ∃ S, (l.drop a).take (b - a) = S := ⟨_, rfl⟩
  have hSl : S.length = b - a := by rw [← hS]; simp; omega
  rw [hS] at hsp ⊢
  have hPl : (l.take a).length = a := by simp; omega
  generalize l.take a = P at *
  generalize l.drop b = Q at *
  subst hsp
  cases S with
  | nil =>
    have : b - (a + 1) = 0 := by simp at hSl; omega
    rw [this]
    simp [srtF, sortS]
  | cons v S =>
    have h1 : b - (a + 1) = S.length := by simp at hSl; omega
    rw [h1]
    have := srtF_spec c P a hPl S [v] Q
    rw [show P ++ [v].reverse ++ S ++ Q = P ++ (v :: S ++ Q) by simp] at this
    rw [show a + 1 = a + [v].length by rfl, this]
    rfl
theorem insL_perm (c : Int → Int → Int) (v : Int) : ∀ l : List Int, (insL c v l).Perm (v :: l)
  | [] => .refl _
  | x :: r => by
    unfold insL
    split
    · exact (List.Perm.cons x (insL_perm c v r)).trans (List.Perm.swap v x r)
    · exact .refl _
theorem fold_perm (c : Int → Int → Int) : ∀ (S X : List Int), (S.foldl (fun acc v => insL c v acc) X).Perm (X ++ S)
  | [], X => by simp
  | v :: S, X => by
    rw [List.foldl_cons]
    refine (fold_perm c S (insL c v X)).trans ?_
    refine ((insL_perm c v X).append_right S).trans ?_
    exact (List.perm_middle (l₁ := X) (a := v) (l₂ := S)).symm
theorem sortS_perm (c : Int → Int → Int) (S : List Int) : (sortS c S).Perm S := by
  unfold sortS
  exact (List.reverse_perm _).trans ((fold_perm c S []).trans (by simp))
/-- Sorted by a strict order on the members. -/
theorem insL_sorted (c : Int → Int → Int) (M : Int → Prop) (tr : ∀ x y z, M x → M y → M z → c x y < 0 → c y z < 0 → c x z < 0) (tot : ∀ x y, M x → M y → x ≠ y → c x y < 0 ∨ c y x < 0) (v : Int) (hv : M v) : ∀ l : List Int, (∀ x ∈ l, M x ∧ x ≠ v) → l.Pairwise (fun x y => c y x < 0) → (insL c v l).Pairwise (fun x y => c y x < 0)
  | [], _, _ => by simp [insL]
  | x :: r, h, hp => by
    have hx := h x (by simp)
    have hr : ∀ y ∈ r, M y ∧ y ≠ v := fun y hy => h y (List.mem_cons_of_mem _ hy)
    rw [List.pairwise_cons] at hp
    unfold insL
    split
    · rename_i hc
      rw [List.pairwise_cons]
      refine ⟨fun y hy => ?_, insL_sorted c M tr tot v hv r hr hp.2⟩
      rcases List.mem_cons.1 ((insL_perm c v r).mem_iff.1 hy) with rfl | hy
      · exact hc
      · exact hp.1 y hy
    · rename_i hc
      have hxv : c x v < 0 := (tot v x hv hx.1 (fun e => hx.2 e.symm)).resolve_left hc
      rw [List.pairwise_cons]
      refine ⟨fun y hy => ?_, by rw [List.pairwise_cons]; exact hp⟩
      rcases List.mem_cons.1 hy with rfl | hy
      · exact hxv
      · exact tr y x v (hr y hy).1 hx.1 hv (hp.1 y hy) hxv
theorem fold_sorted (c : Int → Int → Int) (M : Int → Prop) (tr : ∀ x y z, M x → M y → M z → c x y < 0 → c y z < 0 → c x z < 0) (tot : ∀ x y, M x → M y → x ≠ y → c x y < 0 ∨ c y x < 0) : ∀ (S X : List Int), (∀ x ∈ S, M x) → (∀ x ∈ X, M x) → (X ++ S).Nodup → X.Pairwise (fun x y => c y x < 0) → (S.foldl (fun acc v => insL c v acc) X).Pairwise (fun x y => c y x < 0)
  | [], X, _, _, _, h => h
  | v :: S, X, hS, hX, hn, h => by
    rw [List.foldl_cons]
    have hn' := List.nodup_append.1 hn
    refine fold_sorted c M tr tot S _ (fun x hx => hS x (List.mem_cons_of_mem _ hx)) (fun x hx => ?_) ?_ (insL_sorted c M tr tot v (hS v (by simp)) X (fun x hx => ⟨hX x hx, fun e => hn'.2.2 x hx v (by simp) e⟩) h)
    · rcases List.mem_cons.1 ((insL_perm c v X).mem_iff.1 hx) with rfl | hx
      · exact hS _ (by simp)
      · exact hX x hx
    · refine (((insL_perm c v X).append_right S).trans ?_).nodup_iff.2 hn
      exact (List.perm_middle (l₁ := X) (a := v) (l₂ := S)).symm
theorem sortS_sorted (c : Int → Int → Int) (M : Int → Prop) (tr : ∀ x y z, M x → M y → M z → c x y < 0 → c y z < 0 → c x z < 0) (tot : ∀ x y, M x → M y → x ≠ y → c x y < 0 ∨ c y x < 0) (S : List Int) (hS : ∀ x ∈ S, M x) (hn : S.Nodup) : (sortS c S).Pairwise (fun x y => c x y < 0) := by
  unfold sortS
  rw [List.pairwise_reverse]
  exact fold_sorted c M tr tot S [] hS (by simp) (by simpa using hn) .nil
theorem insSort_no (v f : Value) (n : Nat) (ao : Option Addr) (cap a b : Nat) (w : World) (hv : v = .slice ao n cap) (hab : b ≤ a) (ha : a ≤ 1000) (gf : Nat) (lb : Array Value) (hf : f = .func (.func gf) #[] lb) :
    Calls Tryz.prog 156 #[v, .int .i64 a, .int .i64 b, f] w fun e w' => e = .returned (.tuple #[]) ∧ w = w' := by
  subst hv hf
  have d : decide (((a : Int) + 1) < (b : Int)) = false := by rw [decide_eq_false_iff_not]; omega
  go_enter Tryz.func156, Tryz.ntmps156
  go_wp2
  refine wp_loop_rounds 1 ?_
  repeat (rw [rounds_succ]; go_wp2)
  exact bodyPost_end (results_none rfl _ _ _) rfl ⟨rfl, rfl⟩
set_option maxRecDepth 100000 in
set_option maxHeartbeats 4000000 in
theorem stable20 (f : Value) (c : Int → Int → Int) (P : Int → Prop) (v : Value) (l : List Int) (w : World) (gi : Nat) (hl : l.length ≤ 20) (h : IS w v l) (hP : ∀ x ∈ l, P x) (hf : Cmps w f gi c P) (hgi : ∀ g, v.ownBlock = some g → g = gi) :
    Calls Tryz.prog 154 #[v, .int .i64 l.length, f] w fun e w' => e = .returned (.tuple #[]) ∧ IS w' v (sortS c l) ∧ Tch (fun k => v.ownBlock = some k) w w' := by
  rcases h.form with ⟨rfl, rfl⟩ | ⟨g, cap, rfl⟩
  · obtain ⟨gf, lb, rfl, _⟩ := hf
    have HN := Lib.hid (insSort_no (.slice none 0 0) (.func (.func gf) #[] lb) 0 none 0 0 0 w rfl (Nat.le_refl _) (by omega) gf lb rfl)
    clear hP hgi hl
    have H := Lib.hid h
    clear h
    go_enter Tryz.func154, Tryz.ntmps154
    go_wp2
    refine wp_loop_rounds 1 ?_
    rw [rounds_succ]
    go_wp2_with (go_at_call 156; refine HN.out.mono ?_; rintro e w1 ⟨rfl, rfl⟩)
    refine wp_loop_rounds 1 ?_
    repeat (rw [rounds_succ]; go_wp2)
    exact bodyPost_end (results_none rfl _ _ _) rfl ⟨rfl, H.out, Tch.refl _ _⟩
  · obtain rfl := hgi g rfl
    by_cases hn : l.length = 20
    · have h1 := insSort f c P g cap l 0 20 w (by omega) (by omega) (by omega) h hP hf
      rw [srt_part c l 0 20 (by omega) (by omega)] at h1
      rw [show l.take 0 ++ sortS c ((l.drop 0).take (20 - 0)) ++ l.drop 20 = sortS c l by
        rw [List.take_zero, List.drop_zero, List.nil_append, List.drop_of_length_le (by omega), List.append_nil, show 20 - 0 = l.length by omega, List.take_length]] at h1
      obtain ⟨gf, lb, rfl, _⟩ := hf
      rw [hn] at h1 ⊢
      have HS := Lib.hid h1
      have HN := Lib.hid (fun w1 => insSort_no (.slice (some ⟨g, 0, none⟩) 20 cap) (.func (.func gf) #[] lb) 20 (some ⟨g, 0, none⟩) cap 20 20 w1 rfl (Nat.le_refl _) (by omega) gf lb rfl)
      clear h1 h hP hn hl hgi
      go_enter Tryz.func154, Tryz.ntmps154
      go_wp2
      refine wp_loop_rounds 2 ?_
      rw [rounds_succ]
      go_wp2_with (go_at_call 156; refine HS.out.mono ?_; rintro e w1 ⟨rfl, hI, hT⟩)
      have HI := Lib.hid (And.intro hI hT)
      clear hI hT
      rw [rounds_succ]
      go_wp2_with (go_at_call 156; refine (HN.out _).mono ?_; rintro e w2 ⟨rfl, rfl⟩)
      refine wp_loop_rounds 1 ?_
      repeat (rw [rounds_succ]; go_wp2)
      exact bodyPost_end (results_none rfl _ _ _) rfl ⟨rfl, HI.out.1, HI.out.2.mono fun i _ e => by rw [e]; rfl⟩
    · have h1 := insSort f c P g cap l 0 l.length w (by omega) (by omega) (Nat.le_refl _) h hP hf
      rw [srt_part c l 0 l.length (by omega) (Nat.le_refl _)] at h1
      rw [show l.take 0 ++ sortS c ((l.drop 0).take (l.length - 0)) ++ l.drop l.length = sortS c l by
        rw [List.take_zero, List.drop_zero, List.nil_append, List.drop_length, List.append_nil, Nat.sub_zero, List.take_length]] at h1
      obtain ⟨gf, lb, rfl, _⟩ := hf
      have d1 : decide ((20 : Int) ≤ (l.length : Int)) = false := by rw [decide_eq_false_iff_not]; omega
      have d2 : decide ((20 : Int) < (l.length : Int)) = false := by rw [decide_eq_false_iff_not]; omega
      have HS := Lib.hid h1
      clear h1 h hP hn hl hgi
      generalize l.length = n at *
      go_enter Tryz.func154, Tryz.ntmps154
      go_wp2
      refine wp_loop_rounds 1 ?_
      rw [rounds_succ]
      go_wp2_with (go_at_call 156; refine HS.out.mono ?_; rintro e w1 ⟨rfl, hI, hT⟩)
      have HI := Lib.hid (And.intro hI hT)
      clear hI hT
      refine wp_loop_rounds 1 ?_
      repeat (rw [rounds_succ]; go_wp2)
      exact bodyPost_end (results_none rfl _ _ _) rfl ⟨rfl, HI.out.1, HI.out.2.mono fun i _ e => by rw [e]; rfl⟩
theorem stableF20 (f : Value) (c : Int → Int → Int) (P : Int → Prop) (v : Value) (l : List Int) (w : World) (gi : Nat) (hl : l.length ≤ 20) (h : IS w v l) (hP : ∀ x ∈ l, P x) (hf : Cmps w f gi c P) (hgi : ∀ g, v.ownBlock = some g → g = gi) :
    Calls Tryz.prog 147 #[v, f] w fun e w' => e = .returned (.tuple #[]) ∧ IS w' v (sortS c l) ∧ Tch (fun k => v.ownBlock = some k) w w' := by
  have HS := Lib.hid (stable20 f c P v l w gi hl h hP hf hgi)
  obtain ⟨ao, cap, rfl, _⟩ := h.box
  obtain ⟨gf, lb, rfl, _⟩ := hf
  clear h hP hgi hl
  go_enter Tryz.func147, Tryz.ntmps147
  go_wp2_with (go_at_call 154; refine HS.out.mono ?_; rintro e w1 ⟨rfl, hI, hT⟩)
  exact bodyPost_end (results_none rfl _ _ _) rfl ⟨rfl, hI, hT⟩
end Go.Proofs.YtodnlelnpidliaaGreat
end
