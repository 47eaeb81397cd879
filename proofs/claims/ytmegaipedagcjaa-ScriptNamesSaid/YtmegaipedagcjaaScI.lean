
/- A script in memory of the call's own: threads, picks and caps; what the steps of Read do to it. -/
import Derived.Test.YtmegaipedagcjaaScF
import Derived.LoopTactic
import Derived.Lib.OthersKept
namespace Go.Proofs.Ytmegaipedagcjaa
open Go.RowKit
set_option linter.unusedVariables false      -- a contract need not use every name

abbrev nilV : Value := .slice none 0 0
def orow (o : Od) : List Value := [.int .i64 o.1, .int .i64 o.2.1, .int .i64 o.2.2.1, .int .i64 o.2.2.2.1, .int .i64 o.2.2.2.2.1, .int .i64 o.2.2.2.2.2]
def orows (l : List Od) : List Value := l.flatMap orow
def prow (p : Int × Int) : List Value := [.int .i64 p.1, .int .i64 p.2]
def prows (l : List (Int × Int)) : List Value := l.flatMap prow
abbrev ORow (w : World) (g0 : Nat) (v : Value) (l : List Od) : Prop := w.ownsRow g0 37 6 v l.length (orows l)
abbrev PRow (w : World) (g0 : Nat) (v : Value) (l : List (Int × Int)) : Prop := w.ownsRow g0 59 2 v l.length (prows l)
abbrev TRow (w : World) (g0 : Nat) (v : Value) (us : List Value) : Prop := w.ownsRow g0 41 1 v us.length us

section
variable {w w' : World} {g0 e e' size size' n n' : Nat} {v v' : Value} {xs xs' : List Value}
theorem own_keep {row : Option Nat} (ho : w.ownsRow g0 e size v n xs) (hg : w.grownBy w' row) (hne : ∀ g, v.ownBlock = some g → row ≠ some g) : w'.ownsRow g0 e size v n xs := by
  cases hv : v.ownBlock with
  | none => exact ho.kept hg (.inl hv)
  | some g => exact ho.kept hg (.inr fun q => hne g hv (q ▸ hv))
theorem own_heap (ho : w.ownsRow g0 e size v n xs) {g : Nat} (hv : v.ownBlock = some g) : ∃ c, w.heap[g]? = some (.cells c e (0, 0)) := by
  rcases ho.2 with ⟨rfl, _⟩ | ⟨g', cap, cur, rfl, _, hh, _⟩
  · simp [Value.ownBlock] at hv
  · simp only [Value.ownBlock, Option.some.injEq] at hv
    subst hv
    exact ⟨cur, hh⟩
theorem own_lt (ho : w.ownsRow g0 e size v n xs) {g : Nat} (hv : v.ownBlock = some g) : g < w.heap.size := (World.ownsRow.lt ho g hv).2
theorem own_ge (ho : w.ownsRow g0 e size v n xs) {g : Nat} (hv : v.ownBlock = some g) : g0 ≤ g := (World.ownsRow.lt ho g hv).1
theorem own_box (ho : w.ownsRow g0 e size v n xs) {g : Nat} (hv : v.ownBlock = some g) {B : Nat} {c : Array Value} {T : TypeId} {fr : Nat × Nat} (hb : w.heap[B]? = some (.cells c T fr)) (hT : e ≠ T) : g ≠ B := by
  rintro rfl
  obtain ⟨c', hc⟩ := own_heap ho hv
  rw [hb] at hc
  injection hc with hc
  injection hc with _ h2 _
  exact hT h2.symm
theorem own_apart (h1 : w.ownsRow g0 e size v n xs) (h2 : w.ownsRow g0 e' size' v' n' xs') (he : e ≠ e') {g : Nat} (a : v.ownBlock = some g) (b : v'.ownBlock = some g) : False := by
  obtain ⟨c, hc⟩ := own_heap h2 b
  exact own_box h1 a hc he rfl
theorem own_form (h : w.ownsRow g0 e size v n xs) : (v = .slice none 0 0 ∧ n = 0) ∨ ∃ g cap, v = .slice (some ⟨g, 0, none⟩) n cap := by
  rcases h.2 with q | ⟨g, cap, cur, rfl, _⟩
  · exact .inl q
  · exact .inr ⟨g, cap, rfl⟩
theorem set_grown (w : World) (p : Addr) (u : Value) : w.grownBy (w.setCell p u) (some p.block) :=
  ⟨rfl, rfl, rfl, by simp [World.setCell], fun k _ hk => Below.heap_setCell _ _ _ _ (fun q => hk (by rw [q]))⟩
theorem set_heap {w : World} {B j : Nat} {c : Array Value} {T : TypeId} {fr : Nat × Nat} (u : Value) (hb : w.heap[B]? = some (.cells c T fr)) : (w.setCell ⟨B, j, none⟩ u).heap[B]? = some (.cells (c.setIfInBounds j u) T fr) := by
  simp [World.setCell, Array.getElem?_modify, hb]
theorem heap_cell {w : World} {B j : Nat} {c : Array Value} {T : TypeId} {fr : Nat × Nat} (hb : w.heap[B]? = some (.cells c T fr)) : w.cell? ⟨B, j, none⟩ = c[j]? := by simp [World.cell?, hb]
theorem heap_fz {w : World} {B j : Nat} {c : Array Value} {T : TypeId} (hb : w.heap[B]? = some (.cells c T (0, 0))) : w.frozen? ⟨B, j, none⟩ = false := by simp [World.frozen?, hb]
theorem heap_lt {w : World} {B : Nat} {o : Obj} (hb : w.heap[B]? = some o) : B < w.heap.size := (Array.getElem?_eq_some_iff.1 hb).1
end

/-- What is no block of a script's, by its type, lies as it lay. -/
def Kept (B : Nat) (w w' : World) : Prop := ∀ k o, w.heap[k]? = some o → k ≠ B → (∀ c fz, o ≠ .cells c 41 fz) → (∀ c fz, o ≠ .cells c 37 fz) → (∀ c fz, o ≠ .cells c 59 fz) → w'.heap[k]? = some o
abbrev KeptT (B : Nat) (w w' : World) : Prop := Lib.OthersKept 41 (some B) w w'
theorem Kept.refl (B : Nat) (w : World) : Kept B w w := fun _ _ h _ _ _ _ => h
theorem Kept.trans {B : Nat} {a b c : World} (h : Kept B a b) (k : Kept B b c) : Kept B a c := fun i o hi h1 h2 h3 h4 => k i o (h i o hi h1 h2 h3 h4) h1 h2 h3 h4
theorem Kept.nw {B : Nat} {a b : World} (g : Nw a b) : Kept B a b := fun i o hi _ _ _ _ => (g.block i (heap_lt hi)).trans hi
theorem Kept.ofT {B : Nat} {a b : World} (h : KeptT B a b) : Kept B a b := fun i o hi h1 h2 _ _ => h i o hi (fun q => h1 (Option.some.inj q)) h2
theorem KeptT.nw {B : Nat} {a b : World} (g : Nw a b) : KeptT B a b := fun i o hi _ _ => (g.block i (heap_lt hi)).trans hi
theorem Kept.grown {B : Nat} {a b : World} {row : Option Nat} (hg : a.grownBy b row) (hr : ∀ g, row = some g → g = B ∨ ∃ c, a.heap[g]? = some (.cells c 41 (0, 0)) ∨ a.heap[g]? = some (.cells c 37 (0, 0)) ∨ a.heap[g]? = some (.cells c 59 (0, 0))) : Kept B a b := by
  intro i o hi h1 h2 h3 h4
  refine (hg.block i (heap_lt hi) (fun q => ?_)).trans hi
  rcases hr i q.symm with e | ⟨c, e | e | e⟩
  · exact h1 e
  · rw [hi] at e; exact h2 c _ (Option.some.inj e)
  · rw [hi] at e; exact h3 c _ (Option.some.inj e)
  · rw [hi] at e; exact h4 c _ (Option.some.inj e)

structure OwnS (w : World) (g0 B : Nat) (vt vp : Value) (us : List Value) (s : PS) : Prop where
  base : g0 ≤ B
  box : w.heap[B]? = some (.cells #[vt, vp, .int .i64 s.cp.1, .int .i64 s.cp.2.1, .int .i64 s.cp.2.2.1, .int .i64 s.cp.2.2.2] 28 (0, 0))
  rt : TRow w g0 vt us
  len : us.length = s.th.length
  ro : ∀ i, i < us.length → ORow w g0 (us.getD i nilV) (s.th.getD i [])
  rp : PRow w g0 vp s.pk
  inj : ∀ i j g, i < us.length → j < us.length → (us.getD i nilV).ownBlock = some g → (us.getD j nilV).ownBlock = some g → i = j
/-- A script in block B, of the call's own: from g0 on. -/
def Own (w : World) (g0 B : Nat) (s : PS) : Prop := ∃ vt vp us, OwnS w g0 B vt vp us s

section
variable {w w' : World} {g0 B : Nat} {vt vp : Value} {us : List Value} {s : PS}
theorem OwnS.grown0 (h : OwnS w g0 B vt vp us s) (hg : w.grownBy w' none) : OwnS w' g0 B vt vp us s :=
  ⟨h.base, (hg.block B (heap_lt h.box) (by simp)).trans h.box, own_keep h.rt hg (fun _ _ => by simp), h.len, fun i hi => own_keep (h.ro i hi) hg (fun _ _ => by simp), own_keep h.rp hg (fun _ _ => by simp), h.inj⟩
theorem OwnS.nw (h : OwnS w g0 B vt vp us s) (g : Nw w w') : OwnS w' g0 B vt vp us s := h.grown0 (g.grownBy none)
theorem Own.nw (h : Own w g0 B s) (g : Nw w w') : Own w' g0 B s := by obtain ⟨a, b, c, h⟩ := h; exact ⟨a, b, c, h.nw g⟩
theorem OwnS.lt (h : OwnS w g0 B vt vp us s) : B < w.heap.size := heap_lt h.box
theorem OwnS.c0 (h : OwnS w g0 B vt vp us s) : w.cell? ⟨B, 0, none⟩ = some vt := heap_cell h.box
theorem OwnS.c1 (h : OwnS w g0 B vt vp us s) : w.cell? ⟨B, 1, none⟩ = some vp := heap_cell h.box
theorem OwnS.fz (h : OwnS w g0 B vt vp us s) (j : Nat) : w.frozen? ⟨B, j, none⟩ = false := heap_fz h.box

theorem infoT : (Try.prog.info? 41).map (fun i => (i.zero, i.size, i.bytes)) = some (some (.slice none 0 0), 1, 24) := by kernel_rfl
theorem infoO : (Try.prog.info? 37).map (fun i => (i.zero, i.size, i.bytes)) = some (some (.agg #[.int .i64 0, .int .i64 0, .int .i64 0, .int .i64 0, .int .i64 0, .int .i64 0]), 6, 48) := by kernel_rfl
theorem infoP : (Try.prog.info? 59).map (fun i => (i.zero, i.size, i.bytes)) = some (some (.agg #[.int .i64 0, .int .i64 0]), 2, 16) := by kernel_rfl

theorem getD_snoc_lt {α : Type} (l : List α) (x d : α) (i : Nat) (h : i < l.length) : (l ++ [x]).getD i d = l.getD i d := getD_app_l _ _ _ _ h
theorem getD_snoc_eq {α : Type} (l : List α) (x d : α) : (l ++ [x]).getD l.length d = x := by rw [getD_app_r _ _ _ _ (Nat.le_refl _)]; simp

/-- A thread more. -/
theorem OwnS.addThread (h : OwnS w g0 B vt vp us s) (hsm : us.length ≤ 1000) :
    ∃ vt' w1, (Builtin.append_ #[23, 23] 23 #[vt, .slice (some ⟨w.heap.size, 0, none⟩) 1 1]).run Try.prog (w.alloc (.cells #[nilV] 41)) = .ok vt' w1 ∧
      OwnS (w1.setCell ⟨B, 0, none⟩ vt') g0 B vt' vp (us ++ [nilV]) ⟨s.th ++ [[]], s.pk, s.cp⟩ ∧ Below g0 w (w1.setCell ⟨B, 0, none⟩ vt') ∧ w1.cell? ⟨B, 0, none⟩ = some vt ∧ w1.frozen? ⟨B, 0, none⟩ = false ∧ (∃ g cap, vt' = .slice (some ⟨g, 0, none⟩) (us.length + 1) cap) ∧ KeptT B w (w1.setCell ⟨B, 0, none⟩ vt') := by
  obtain ⟨i0, hi, hz0, hz1, hz2⟩ := info_parts infoT
  have ha := h.nw ((Nw.refl w).alloc (.cells #[nilV] 41))
  have hlt := h.lt
  obtain ⟨vt', w1, hrun, ho, hg, hp⟩ := run_append_fresh (P := Try.prog) (w.alloc (.cells #[nilV] 41)) g0 23 23 41 i0 _ 1 24 Try.underlying23 hi hz0 hz1 hz2 rfl (by decide) vt us.length us ha.rt
    ⟨w.heap.size, 0, none⟩ 1 1 [nilV] rfl (by
      intro j u hu
      match j, hu with
      | 0, hu => simp at hu; subst hu; simp [go_sem]) (by simp [Value.oneCell']) (by unfold maxLen; omega) (by omega) (by have := h.base; simp; omega)
  have hBt : ∀ g, vt.ownBlock = some g → g ≠ B := fun g q => own_box ha.rt q ha.box (by decide)
  have hb1 : w1.heap[B]? = _ := (hg.block B ha.lt (fun q => hBt B q.symm rfl)).trans ha.box
  have hst := set_grown w1 ⟨B, 0, none⟩ vt'
  have hro : ∀ i, i < us.length → ORow w1 g0 (us.getD i nilV) (s.th.getD i []) := fun i hi => own_keep (ha.ro i hi) hg (fun g q r => own_apart (ha.ro i hi) ha.rt (by decide) q r)
  have hrp : PRow w1 g0 vp s.pk := own_keep ha.rp hg (fun g q r => own_apart ha.rp ha.rt (by decide) q r)
  have ho' : TRow w1 g0 vt' (us ++ [nilV]) := by unfold TRow; rw [List.length_append]; exact ho
  refine ⟨vt', w1, hrun, ⟨h.base, ?_, own_keep ho' hst (fun g q r => own_box ho' q hb1 (by decide) (by simpa using r.symm)), by simp [h.len], ?_, own_keep hrp hst (fun g q r => own_box hrp q hb1 (by decide) (by simpa using r.symm)), ?_⟩, ?_, ?_, heap_fz hb1, ?_, (((Lib.OthersKept.refl _ _ w).alloc _).grown hg (fun g q => by obtain ⟨c, hc⟩ := own_heap ha.rt q; exact ⟨c, _, hc⟩)).setCell ⟨B, 0, none⟩ rfl vt'⟩
  · rw [set_heap vt' hb1]; rfl
  · intro i hi
    rw [List.length_append, List.length_singleton] at hi
    by_cases q : i < us.length
    · have e1 : (us ++ [nilV]).getD i nilV = us.getD i nilV := getD_snoc_lt _ _ _ _ q
      have e2 : (s.th ++ [[]]).getD i [] = s.th.getD i [] := getD_snoc_lt _ _ _ _ (by rw [← h.len]; exact q)
      rw [e1]
      show ORow _ _ _ ((s.th ++ [[]]).getD i [])
      rw [e2]
      exact own_keep (hro i q) hst (fun g a r => own_box (hro i q) a hb1 (by decide) (by simpa using r.symm))
    · have q : i = us.length := by omega
      subst q
      rw [getD_snoc_eq]
      show ORow _ _ _ ((s.th ++ [[]]).getD us.length [])
      rw [h.len, getD_snoc_eq]
      exact World.ownsRow_nil _ _ _ _
  · intro i j g hi hj
    rw [List.length_append, List.length_singleton] at hi hj
    by_cases q : i < us.length
    · rw [getD_snoc_lt us nilV nilV i q]
      by_cases q2 : j < us.length
      · rw [getD_snoc_lt us nilV nilV j q2]; exact h.inj i j g q q2
      · rw [show j = us.length by omega, getD_snoc_eq]; intro _ r; simp [Value.ownBlock] at r
    · rw [show i = us.length by omega, getD_snoc_eq]; intro r; simp [Value.ownBlock] at r
  · refine Below.setCell ?_ (by exact h.base) _
    exact Below.grown (((Below.refl g0 w).alloc (by have := h.base; omega) _)) hg (by have := h.base; simp; omega) (fun k hk => own_ge ha.rt hk)
  · rw [heap_cell hb1]; rfl
  · rcases own_form ho' with ⟨_, q⟩ | ⟨g, cap, rfl⟩
    · simp at q
    · exact ⟨g, cap, by simp⟩
end
end Go.Proofs.Ytmegaipedagcjaa
