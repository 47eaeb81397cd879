
/- Arguments: an operation, a pick, a script. -/
import Derived.Test.YtmegaipedagcjaaScR
import Derived.WalkKit
import Derived.ProofKit
import Derived.OpenShut
import Derived.ShutString
import Derived.ChangeOld
import Derived.Below
import Derived.Deep.Slices
import Derived.Deep.Fields
import Derived.ChangeSame
import Derived.Lib.SmallJoins
namespace Go.Proofs.Ytmegaipedagcjaa
open Go.ChangeShapes Go.WideShapes Go.ChangeAt Go.RowKit Go.Deep

theorem list_of {α : Type} {n : Nat} {Q : Nat → α → Prop} (h : ∀ i, i < n → ∃ x, Q i x) : ∃ l : List α, l.length = n ∧ ∀ i (hi : i < l.length), Q i l[i] := by
  induction n with
  | zero => exact ⟨[], rfl, fun i hi => by simp at hi⟩
  | succ n ih =>
    obtain ⟨l, hl, hq⟩ := ih fun i hi => h i (by omega)
    obtain ⟨x, hx⟩ := h n (by omega)
    refine ⟨l ++ [x], by simp [hl], fun i hi => ?_⟩
    rw [List.length_append, List.length_singleton] at hi
    by_cases q : i < l.length
    · rw [List.getElem_append_left q]; exact hq i q
    · have : i = n := by omega
      subst this
      rw [List.getElem_append_right (by omega)]
      simpa using hx
theorem len1 {cs : List Value} (h : cs.length = 1) : ∃ v0, cs = [v0] := by
  match cs, h with
  | [v0], _ => exact ⟨v0, rfl⟩
theorem len2 {cs : List Value} (h : cs.length = 2) : ∃ v0 v1, cs = [v0, v1] := by
  match cs, h with
  | [v0, v1], _ => exact ⟨v0, v1, rfl⟩
theorem len4 {cs : List Value} (h : cs.length = 4) : ∃ v0 v1 v2 v3, cs = [v0, v1, v2, v3] := by
  match cs, h with
  | [v0, v1, v2, v3], _ => exact ⟨v0, v1, v2, v3, rfl⟩
theorem len6 {cs : List Value} (h : cs.length = 6) : ∃ v0 v1 v2 v3 v4 v5, cs = [v0, v1, v2, v3, v4, v5] := by
  match cs, h with
  | [v0, v1, v2, v3, v4, v5], _ => exact ⟨v0, v1, v2, v3, v4, v5, rfl⟩
theorem cellsI : Try.prog.cellsOf 3 = 1 := by kernel_rfl
theorem cellsI64 : Try.prog.cellsOf 2 = 1 := by kernel_rfl
theorem cellsMode : Try.prog.cellsOf 35 = 1 := by kernel_rfl
theorem cellsNm : Try.prog.cellsOf 34 = 2 := by kernel_rfl
theorem cellsOp : Try.prog.cellsOf 37 = 6 := by kernel_rfl
theorem cellsPk : Try.prog.cellsOf 59 = 2 := by kernel_rfl
theorem cellsCp : Try.prog.cellsOf 26 = 4 := by kernel_rfl
theorem cellsSl : Try.prog.cellsOf 41 = 1 := by kernel_rfl
theorem cellsTh : Try.prog.cellsOf 23 = 1 := by kernel_rfl
theorem cellsPs : Try.prog.cellsOf 24 = 1 := by kernel_rfl
theorem cellsSc : Try.prog.cellsOf 28 = 6 := by kernel_rfl

section
variable {H : Type} {enc : TypeId × Value → H} {w : World} {base : Nat} {spare : Nat → Bool} {held : Bool}
theorem some_of {α : Type} {xs : List α} {i : Nat} (h : i < xs.length) : ∃ y, xs[i]? = some y := ⟨_, List.getElem?_eq_getElem h⟩
theorem open_od {fuel : Nat} {cs : List Value} {x : DataW H × List MemPlace} (h : DataW.trod enc Try.prog w base spare held fuel 37 cs = some x) : ∃ o : Od, cs = orow o := by
  obtain ⟨xs, n, _, _, hl, hxl, hf⟩ := DataW.trod_struct Try.underlying37 h
  rw [cellsOp] at hl
  obtain ⟨v0, v1, v2, v3, v4, v5, rfl⟩ := len6 hl
  have f0 : DataW.trod enc Try.prog w base spare held n 3 (([v0, v1, v2, v3, v4, v5].drop 0).take (Try.prog.cellsOf 3)) = xs[0]? := hf 0 _ rfl
  have f1 : DataW.trod enc Try.prog w base spare held n 34 (([v0, v1, v2, v3, v4, v5].drop 1).take (Try.prog.cellsOf 34)) = xs[1]? := hf 1 _ rfl
  have f2 : DataW.trod enc Try.prog w base spare held n 35 (([v0, v1, v2, v3, v4, v5].drop 3).take (Try.prog.cellsOf 35)) = xs[2]? := hf 2 _ rfl
  have f3 : DataW.trod enc Try.prog w base spare held n 2 (([v0, v1, v2, v3, v4, v5].drop 4).take (Try.prog.cellsOf 2)) = xs[3]? := hf 3 _ rfl
  have f4 : DataW.trod enc Try.prog w base spare held n 2 (([v0, v1, v2, v3, v4, v5].drop 5).take (Try.prog.cellsOf 2)) = xs[4]? := hf 4 _ rfl
  simp at hxl
  obtain ⟨y0, e0⟩ := some_of (xs := xs) (i := 0) (by omega)
  obtain ⟨y1, e1⟩ := some_of (xs := xs) (i := 1) (by omega)
  obtain ⟨y2, e2⟩ := some_of (xs := xs) (i := 2) (by omega)
  obtain ⟨y3, e3⟩ := some_of (xs := xs) (i := 3) (by omega)
  obtain ⟨y4, e4⟩ := some_of (xs := xs) (i := 4) (by omega)
  rw [e0] at f0
  rw [e1] at f1
  rw [e2] at f2
  rw [e3] at f3
  rw [e4] at f4
  simp only [cellsI, cellsNm, cellsMode, cellsI64, List.drop_succ_cons, List.drop_zero, List.take_succ_cons, List.take_zero] at f0 f1 f2 f3 f4
  obtain ⟨a0, q0, _, _⟩ := DataW.trod_int Try.underlying3 f0
  obtain ⟨a3, q3, _, _⟩ := DataW.trod_int Try.underlying35 f2
  obtain ⟨a4, q4, _, _⟩ := DataW.trod_int Try.underlying2 f3
  obtain ⟨a5, q5, _, _⟩ := DataW.trod_int Try.underlying2 f4
  obtain ⟨xs', n', _, _, hl', hxl', hf'⟩ := DataW.trod_struct Try.underlying34 f1
  have g0 : DataW.trod enc Try.prog w base spare held n' 3 (([v1, v2].drop 0).take (Try.prog.cellsOf 3)) = xs'[0]? := hf' 0 _ rfl
  have g1 : DataW.trod enc Try.prog w base spare held n' 3 (([v1, v2].drop 1).take (Try.prog.cellsOf 3)) = xs'[1]? := hf' 1 _ rfl
  simp at hxl'
  obtain ⟨z0, r0⟩ := some_of (xs := xs') (i := 0) (by omega)
  obtain ⟨z1, r1⟩ := some_of (xs := xs') (i := 1) (by omega)
  rw [r0] at g0
  rw [r1] at g1
  simp only [cellsI, List.drop_succ_cons, List.drop_zero, List.take_succ_cons, List.take_zero] at g0 g1
  obtain ⟨a1, q1, _, _⟩ := DataW.trod_int Try.underlying3 g0
  obtain ⟨a2, q2, _, _⟩ := DataW.trod_int Try.underlying3 g1
  obtain rfl := (List.cons.inj q0).1
  obtain rfl := (List.cons.inj q1).1
  obtain rfl := (List.cons.inj q2).1
  obtain rfl := (List.cons.inj q3).1
  obtain rfl := (List.cons.inj q4).1
  obtain rfl := (List.cons.inj q5).1
  exact ⟨(a0, a1, a2, a3, a4, a5), rfl⟩
theorem open_pk {fuel : Nat} {cs : List Value} {x : DataW H × List MemPlace} (h : DataW.trod enc Try.prog w base spare held fuel 59 cs = some x) : ∃ p : Int × Int, cs = prow p := by
  obtain ⟨xs, n, _, _, hl, hxl, hf⟩ := DataW.trod_struct Try.underlying59 h
  rw [cellsPk] at hl
  obtain ⟨v0, v1, rfl⟩ := len2 hl
  have f0 : DataW.trod enc Try.prog w base spare held n 3 (([v0, v1].drop 0).take (Try.prog.cellsOf 3)) = xs[0]? := hf 0 _ rfl
  have f1 : DataW.trod enc Try.prog w base spare held n 3 (([v0, v1].drop 1).take (Try.prog.cellsOf 3)) = xs[1]? := hf 1 _ rfl
  simp at hxl
  obtain ⟨y0, e0⟩ := some_of (xs := xs) (i := 0) (by omega)
  obtain ⟨y1, e1⟩ := some_of (xs := xs) (i := 1) (by omega)
  rw [e0] at f0
  rw [e1] at f1
  simp only [cellsI, List.drop_succ_cons, List.drop_zero, List.take_succ_cons, List.take_zero] at f0 f1
  obtain ⟨a0, q0, _, _⟩ := DataW.trod_int Try.underlying3 f0
  obtain ⟨a1, q1, _, _⟩ := DataW.trod_int Try.underlying3 f1
  obtain rfl := (List.cons.inj q0).1
  obtain rfl := (List.cons.inj q1).1
  exact ⟨(a0, a1), rfl⟩
theorem open_cp {fuel : Nat} {cs : List Value} {x : DataW H × List MemPlace} (h : DataW.trod enc Try.prog w base spare held fuel 26 cs = some x) : ∃ c : Cp, cs = [.int .i64 c.1, .int .i64 c.2.1, .int .i64 c.2.2.1, .int .i64 c.2.2.2] := by
  obtain ⟨xs, n, _, _, hl, hxl, hf⟩ := DataW.trod_struct Try.underlying26 h
  rw [cellsCp] at hl
  obtain ⟨v0, v1, v2, v3, rfl⟩ := len4 hl
  have f0 : DataW.trod enc Try.prog w base spare held n 3 (([v0, v1, v2, v3].drop 0).take (Try.prog.cellsOf 3)) = xs[0]? := hf 0 _ rfl
  have f1 : DataW.trod enc Try.prog w base spare held n 3 (([v0, v1, v2, v3].drop 1).take (Try.prog.cellsOf 3)) = xs[1]? := hf 1 _ rfl
  have f2 : DataW.trod enc Try.prog w base spare held n 3 (([v0, v1, v2, v3].drop 2).take (Try.prog.cellsOf 3)) = xs[2]? := hf 2 _ rfl
  have f3 : DataW.trod enc Try.prog w base spare held n 3 (([v0, v1, v2, v3].drop 3).take (Try.prog.cellsOf 3)) = xs[3]? := hf 3 _ rfl
  simp at hxl
  obtain ⟨y0, e0⟩ := some_of (xs := xs) (i := 0) (by omega)
  obtain ⟨y1, e1⟩ := some_of (xs := xs) (i := 1) (by omega)
  obtain ⟨y2, e2⟩ := some_of (xs := xs) (i := 2) (by omega)
  obtain ⟨y3, e3⟩ := some_of (xs := xs) (i := 3) (by omega)
  rw [e0] at f0
  rw [e1] at f1
  rw [e2] at f2
  rw [e3] at f3
  simp only [cellsI, List.drop_succ_cons, List.drop_zero, List.take_succ_cons, List.take_zero] at f0 f1 f2 f3
  obtain ⟨a0, q0, _, _⟩ := DataW.trod_int Try.underlying3 f0
  obtain ⟨a1, q1, _, _⟩ := DataW.trod_int Try.underlying3 f1
  obtain ⟨a2, q2, _, _⟩ := DataW.trod_int Try.underlying3 f2
  obtain ⟨a3, q3, _, _⟩ := DataW.trod_int Try.underlying3 f3
  obtain rfl := (List.cons.inj q0).1
  obtain rfl := (List.cons.inj q1).1
  obtain rfl := (List.cons.inj q2).1
  obtain rfl := (List.cons.inj q3).1
  exact ⟨(a0, a1, a2, a3), rfl⟩
/-- A row of memory that is handed in reads as a list. -/
theorem row_open {α : Type} {C : World → Nat → Nat → List α → Prop} {sz : Nat} {a : Addr} {len cap : Nat} {Q : Nat → α → Prop} (h : ∀ i, i < len → ∃ x, (∃ u, w.cell? (a.add (i * sz)) = some u) ∧ Q i x)
    (hC : ∀ b o l, a = ⟨b, o, none⟩ → b < w.heap.size → l.length = len → (∀ i (hi : i < l.length), Q i l[i]) → C w b o l) : ∃ l, RowAt C w (.slice (some a) len cap) l := by
  obtain ⟨l, hl, hq⟩ := list_of h
  rcases Nat.eq_zero_or_pos len with h0 | h0
  · subst h0
    exact ⟨[], some a, cap, rfl, .inl rfl⟩
  · refine ⟨l, some a, cap, by rw [hl], .inr ?_⟩
    obtain ⟨b, o, spot⟩ := a
    obtain ⟨u, hu⟩ := (hq 0 (by omega)).1
    have hs : spot = none := by simpa [Addr.add] using World.cell?_spot hu
    subst hs
    rw [Addr.add_lit] at hu
    exact ⟨b, o, rfl, hC b o l rfl (World.block_lt_of_cell? _ _ hu) hl fun i hi => (hq i hi).2⟩
theorem open_ops {fuel : Nat} {v : Value} {x : DataW H × List MemPlace} (h : DataW.trod enc Try.prog w base spare held fuel 41 [v] = some x) : ∃ l, OpsAt w v l := by
  rcases open_slice Try.underlying41 h with ⟨hcs, _⟩ | ⟨a, len, cap, m, n, D, Pl, hcs, _, hl, hm, hmm, _, hi⟩
  · simp only [List.cons.injEq, and_true] at hcs
    subst hcs
    exact ⟨[], none, 0, rfl, .inl rfl⟩
  · simp only [List.cons.injEq, and_true] at hcs
    subst hcs
    have hlm : len ≤ m := by rw [hmm]; split <;> omega
    refine row_open (sz := 6) (Q := fun i (o : Od) => ∀ j u, (orow o)[j]? = some u → w.cell? (a.add (i * 6 + j)) = some u) (fun i hil => ?_) (fun b o l ha hb hll hq => ⟨hb, fun k hk => ?_⟩)
    · obtain ⟨cs', hc, ht⟩ := hi i (by omega)
      rw [cellsOp] at hc
      obtain ⟨o, rfl⟩ := open_od ht
      obtain ⟨_, hcl, hat⟩ := World.cells?_some hc
      have key : ∀ j, j < 6 → w.cell? (a.add (i * 6 + j)) = (orow o)[j]? := fun j hj => by rw [← Go.Deep.add_add]; exact hat j hj
      refine ⟨o, ⟨_, by have := key 0 (by omega); rw [Nat.add_zero] at this; exact this⟩, fun j u hj => ?_⟩
      have hj6 : j < 6 := by have := (List.getElem?_eq_some_iff.1 hj).1; simpa [orow] using this
      rw [key j hj6]; exact hj
    · subst ha
      have := hq k hk
      simp only [Addr.add_lit] at this
      refine ⟨?_, ?_, ?_, ?_, ?_, ?_⟩
      · have := this 0 _ rfl; simpa using this
      · have := this 1 _ rfl; rw [← Nat.add_assoc] at this; exact this
      · have := this 2 _ rfl; rw [← Nat.add_assoc] at this; exact this
      · have := this 3 _ rfl; rw [← Nat.add_assoc] at this; exact this
      · have := this 4 _ rfl; rw [← Nat.add_assoc] at this; exact this
      · have := this 5 _ rfl; rw [← Nat.add_assoc] at this; exact this
theorem open_pks {fuel : Nat} {v : Value} {x : DataW H × List MemPlace} (h : DataW.trod enc Try.prog w base spare held fuel 24 [v] = some x) : ∃ l, PksAt w v l := by
  rcases open_slice Try.underlying24 h with ⟨hcs, _⟩ | ⟨a, len, cap, m, n, D, Pl, hcs, _, hl, hm, hmm, _, hi⟩
  · simp only [List.cons.injEq, and_true] at hcs
    subst hcs
    exact ⟨[], none, 0, rfl, .inl rfl⟩
  · simp only [List.cons.injEq, and_true] at hcs
    subst hcs
    have hlm : len ≤ m := by rw [hmm]; split <;> omega
    refine row_open (sz := 2) (Q := fun i (o : Int × Int) => ∀ j u, (prow o)[j]? = some u → w.cell? (a.add (i * 2 + j)) = some u) (fun i hil => ?_) (fun b o l ha hb hll hq => ⟨hb, fun k hk => ?_⟩)
    · obtain ⟨cs', hc, ht⟩ := hi i (by omega)
      rw [cellsPk] at hc
      obtain ⟨o, rfl⟩ := open_pk ht
      obtain ⟨_, hcl, hat⟩ := World.cells?_some hc
      have key : ∀ j, j < 2 → w.cell? (a.add (i * 2 + j)) = (prow o)[j]? := fun j hj => by rw [← Go.Deep.add_add]; exact hat j hj
      refine ⟨o, ⟨_, by have := key 0 (by omega); rw [Nat.add_zero] at this; exact this⟩, fun j u hj => ?_⟩
      have hj6 : j < 2 := by have := (List.getElem?_eq_some_iff.1 hj).1; simpa [prow] using this
      rw [key j hj6]; exact hj
    · subst ha
      have := hq k hk
      simp only [Addr.add_lit] at this
      refine ⟨?_, ?_⟩
      · have := this 0 _ rfl; simpa using this
      · have := this 1 _ rfl; rw [← Nat.add_assoc] at this; exact this
theorem open_ths {fuel : Nat} {v : Value} {x : DataW H × List MemPlace} (h : DataW.trod enc Try.prog w base spare held fuel 23 [v] = some x) : ∃ l, ThsAt w v l := by
  rcases open_slice Try.underlying23 h with ⟨hcs, _⟩ | ⟨a, len, cap, m, n, D, Pl, hcs, _, hl, hm, hmm, _, hi⟩
  · simp only [List.cons.injEq, and_true] at hcs
    subst hcs
    exact ⟨[], none, 0, rfl, .inl rfl⟩
  · simp only [List.cons.injEq, and_true] at hcs
    subst hcs
    have hlm : len ≤ m := by rw [hmm]; split <;> omega
    refine row_open (sz := 1) (Q := fun i (o : List Od) => ∃ u, w.cell? (a.add (i * 1)) = some u ∧ OpsAt w u o) (fun i hil => ?_) (fun b o l ha hb hll hq => ⟨hb, fun k hk => ?_⟩)
    · obtain ⟨cs', hc, ht⟩ := hi i (by omega)
      rw [cellsSl] at hc
      obtain ⟨_, hcl, hat⟩ := World.cells?_some hc
      obtain ⟨u, rfl⟩ := len1 hcl
      obtain ⟨o, ho⟩ := open_ops ht
      have h0 := hat 0 (by omega)
      rw [Go.Deep.add_add, Nat.add_zero] at h0
      exact ⟨o, ⟨u, h0⟩, u, h0, ho⟩
    · subst ha
      obtain ⟨u, h1, h2⟩ := hq k hk
      rw [Addr.add_lit, Nat.mul_one] at h1
      exact ⟨u, h1, h2⟩
set_option maxRecDepth 100000 in
/-- A script that is handed in. -/
theorem open_script {v : Value} {d : DataW H} {p : List MemPlace} {r : Reach} {b0 : Nat} (hv : Value.okWide Try.prog w r b0 28 v) (h : DataW.Trod enc Try.prog w base spare held 28 v d p) :
    ∃ vt vp s, v = scV vt vp s.cp ∧ ScAt w vt vp s := by
  obtain ⟨cs, rfl, hsz⟩ := okWide_struct Try.underlying28 hv
  rw [cellsSc] at hsz
  obtain ⟨fuel, hf⟩ := h
  obtain ⟨xs, n, _, _, hl, hxl, hf⟩ := DataW.trod_struct Try.underlying28 hf
  obtain ⟨l⟩ := cs
  simp only [Value.cells] at hl hf
  obtain ⟨v0, v1, v2, v3, v4, v5, rfl⟩ := len6 hsz
  have f0 : DataW.trod enc Try.prog w base spare held n 23 (([v0, v1, v2, v3, v4, v5].drop 0).take (Try.prog.cellsOf 23)) = xs[0]? := hf 0 _ rfl
  have f1 : DataW.trod enc Try.prog w base spare held n 24 (([v0, v1, v2, v3, v4, v5].drop 1).take (Try.prog.cellsOf 24)) = xs[1]? := hf 1 _ rfl
  have f2 : DataW.trod enc Try.prog w base spare held n 26 (([v0, v1, v2, v3, v4, v5].drop 2).take (Try.prog.cellsOf 26)) = xs[2]? := hf 2 _ rfl
  simp at hxl
  obtain ⟨y0, e0⟩ := some_of (xs := xs) (i := 0) (by omega)
  obtain ⟨y1, e1⟩ := some_of (xs := xs) (i := 1) (by omega)
  obtain ⟨y2, e2⟩ := some_of (xs := xs) (i := 2) (by omega)
  rw [e0] at f0
  rw [e1] at f1
  rw [e2] at f2
  simp only [cellsTh, cellsPs, cellsCp, List.drop_succ_cons, List.drop_zero, List.take_succ_cons, List.take_zero] at f0 f1 f2
  obtain ⟨th, hth⟩ := open_ths f0
  obtain ⟨pk, hpk⟩ := open_pks f1
  obtain ⟨c, hc⟩ := open_cp f2
  simp only [List.cons.injEq, and_true] at hc
  obtain ⟨rfl, rfl, rfl, rfl⟩ := hc
  exact ⟨v0, v1, ⟨th, pk, c⟩, rfl, hth, hpk⟩
set_option maxRecDepth 100000 in
theorem open_opv {v : Value} {d : DataW H} {p : List MemPlace} {r : Reach} {b0 : Nat} (hv : Value.okWide Try.prog w r b0 37 v) (h : DataW.Trod enc Try.prog w base spare held 37 v d p) : ∃ o : Od, v = odV o := by
  obtain ⟨cs, rfl, hsz⟩ := okWide_struct Try.underlying37 hv
  obtain ⟨fuel, hf⟩ := h
  obtain ⟨o, ho⟩ := open_od hf
  obtain ⟨l⟩ := cs
  simp only [Value.cells] at ho
  subst ho
  exact ⟨o, rfl⟩
set_option maxRecDepth 100000 in
theorem open_pkv {v : Value} {d : DataW H} {p : List MemPlace} {r : Reach} {b0 : Nat} (hv : Value.okWide Try.prog w r b0 59 v) (h : DataW.Trod enc Try.prog w base spare held 59 v d p) : ∃ q : Int × Int, v = pkV q := by
  obtain ⟨cs, rfl, hsz⟩ := okWide_struct Try.underlying59 hv
  obtain ⟨fuel, hf⟩ := h
  obtain ⟨o, ho⟩ := open_pk hf
  obtain ⟨l⟩ := cs
  simp only [Value.cells] at ho
  subst ho
  exact ⟨o, rfl⟩
end
end Go.Proofs.Ytmegaipedagcjaa
