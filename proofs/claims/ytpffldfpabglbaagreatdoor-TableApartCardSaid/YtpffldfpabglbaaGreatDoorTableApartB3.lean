/- Texts merged: Rw, BdE, BdF, SortN, BdG, Region, Ints, PhA, PhE -/
import Derived.Test.YtpffldfpabglbaaGreatDoorTableApartB2
import Derived.Laws.OwnMore
import Derived.Lib.Hide
import Derived.Shelf.SlSortCmp.NoneTotal
import Derived.Deep.RegionHeld3
import Derived.BigQuiet
import Derived.Test.YtpffldfpabglbaaGreatDoorChecked
import Derived.Deep.QuietTactic
import Derived.Shelf.Abstract
import Derived.LoopTactic
import Derived.StillTailTactics

/- Rows of structs in memory, of whatever program and type: read, of the call's own, made, appended to, changed. Of no program. -/
section
namespace Go.Proofs.YtpffldfpabglbaaGreatDoor
open Go.RowKit
set_option linter.unusedVariables false      -- a law need not use every name

theorem Nw.kp {a b : World} (g : Nw a b) {k o : Nat} {v : Value} (h : a.cell? ⟨k, o, none⟩ = some v) : b.cell? ⟨k, o, none⟩ = some v :=
  (g.cell (World.block_lt_of_cell? _ _ h)).trans h
theorem Nw.dr {a b : World} (h : Nw a b) : Nw a b.drew := h.drewN 1
theorem Nw.dl {a b : World} (h : Nw a b) : Nw a.drew b := ⟨h.os, h.tape, h.output, h.size, h.block⟩
theorem Nw.at' {a b : World} (g : Nw a b) {k : Nat} {o : Obj} (h : a.heap[k]? = some o) : b.heap[k]? = some o := (g.block k (Array.getElem?_eq_some_iff.1 h).1).trans h
theorem allocAt (w : World) (o : Obj) : (w.alloc o).heap[w.heap.size]? = some o := by
  show (w.heap.push o)[w.heap.size]? = some o
  simp
theorem hcell {w : World} {B j : Nat} {c : Array Value} {T : TypeId} {fr : Nat × Nat} (hb : w.heap[B]? = some (.cells c T fr)) : w.cell? ⟨B, j, none⟩ = c[j]? := by simp [World.cell?, hb]
theorem hfz {w : World} {B j : Nat} {c : Array Value} {T : TypeId} (hb : w.heap[B]? = some (.cells c T (0, 0))) : w.frozen? ⟨B, j, none⟩ = false := by simp [World.frozen?, hb]
theorem hlt {w : World} {B : Nat} {o : Obj} (hb : w.heap[B]? = some o) : B < w.heap.size := (Array.getElem?_eq_some_iff.1 hb).1
theorem hset {w : World} {B j : Nat} {c : Array Value} {T : TypeId} {fr : Nat × Nat} (u : Value) (hb : w.heap[B]? = some (.cells c T fr)) : (w.setCell ⟨B, j, none⟩ u).heap[B]? = some (.cells (c.setIfInBounds j u) T fr) := by
  simp [World.setCell, Array.getElem?_modify, hb]
theorem sgrown (w : World) (p : Addr) (u : Value) : w.grownBy (w.setCell p u) (some p.block) :=
  ⟨rfl, rfl, rfl, by simp [World.setCell], fun k _ hk => Below.heap_setCell _ _ _ _ (fun q => hk (by rw [q]))⟩
/-- A world that grew at a block that is new. -/
theorem Nw.gro {w a b : World} {row : Option Nat} (h : Nw w a) (g : a.grownBy b row) (hB : ∀ k, row = some k → w.heap.size ≤ k) : Nw w b :=
  ⟨g.os.trans h.os, g.tape.trans h.tape, g.output.trans h.output, Nat.le_trans h.size g.size, fun j hj => (g.block j (Nat.lt_of_lt_of_le hj h.size) (fun q => by have := hB j q.symm; omega)).trans (h.block j hj)⟩
section
variable {w w' : World} {g0 e size n : Nat} {v : Value} {xs : List Value}
theorem okeep {row : Option Nat} (ho : w.ownsRow g0 e size v n xs) (hg : w.grownBy w' row) (hne : ∀ g, v.ownBlock = some g → row ≠ some g) : w'.ownsRow g0 e size v n xs := by
  cases hv : v.ownBlock with
  | none => exact ho.kept hg (.inl hv)
  | some g => exact ho.kept hg (.inr fun q => hne g hv (q ▸ hv))
theorem onw (ho : w.ownsRow g0 e size v n xs) (hg : Nw w w') : w'.ownsRow g0 e size v n xs := okeep ho (hg.grownBy none) (fun _ _ => by simp)
theorem oheap (ho : w.ownsRow g0 e size v n xs) {g : Nat} (hv : v.ownBlock = some g) : ∃ c, w.heap[g]? = some (.cells c e (0, 0)) := by
  rcases ho.2 with ⟨rfl, _⟩ | ⟨g', cap, cur, rfl, _, hh, _⟩
  · simp [Value.ownBlock] at hv
  · simp only [Value.ownBlock, Option.some.injEq] at hv
    subst hv
    exact ⟨cur, hh⟩
theorem olt (ho : w.ownsRow g0 e size v n xs) {g : Nat} (hv : v.ownBlock = some g) : g < w.heap.size := (World.ownsRow.lt ho g hv).2
theorem oge (ho : w.ownsRow g0 e size v n xs) {g : Nat} (hv : v.ownBlock = some g) : g0 ≤ g := (World.ownsRow.lt ho g hv).1
theorem oform (h : w.ownsRow g0 e size v n xs) : (v = .slice none 0 0 ∧ n = 0) ∨ ∃ g cap, v = .slice (some ⟨g, 0, none⟩) n cap := by
  rcases h.2 with q | ⟨g, cap, cur, rfl, _⟩
  · exact .inl q
  · exact .inr ⟨g, cap, rfl⟩
theorem olow (ho : w.ownsRow g0 e size v n xs) {g1 : Nat} (h : ∀ g, v.ownBlock = some g → g1 ≤ g) : w.ownsRow g1 e size v n xs := by
  refine ⟨ho.1, ?_⟩
  rcases ho.2 with q | ⟨g, cap, cur, rfl, hb, rest⟩
  · exact .inl q
  · exact .inr ⟨g, cap, cur, rfl, h g rfl, rest⟩
end

theorem Nw.st {w a : World} {p : Addr} (h : Nw w a) (hB : w.heap.size ≤ p.block) (u : Value) : Nw w (a.setCell p u) := h.gro (sgrown a p u) (fun k hk => by have := Option.some.inj hk; omega)
theorem own_st {w : World} {g0 e size n : Nat} {v : Value} {xs : List Value} {p : Addr} (h : w.ownsRow g0 e size v n xs) (hp : p.block < g0) (u : Value) : (w.setCell p u).ownsRow g0 e size v n xs :=
  okeep h (sgrown w p u) (fun g hg q => by have := oge h hg; have := Option.some.inj q; omega)

/-- What is known of an element's type: cells, bytes, its slice; and of a reader's rows. -/
structure Elem {α : Type} (P : Program) (ST T : TypeId) (sz bytes : Nat) (row : α → List Value) : Prop where
  und : P.underlying ST = some (.slice T)
  inf : ∃ i z, P.info? T = some i ∧ i.zero = some z ∧ i.size = sz ∧ i.bytes = bytes ∧ z.cells.size = sz
  pos : 0 < sz
  byt : bytes ≤ 800
  len : ∀ a, (row a).length = sz
  one : ∀ a, ∀ u ∈ row a, u.oneCell' = true
def rowsOf {α : Type} (row : α → List Value) (l : List α) : List Value := l.flatMap row
abbrev Own {α : Type} (T : TypeId) (sz : Nat) (row : α → List Value) (w : World) (g0 : Nat) (v : Value) (l : List α) : Prop := w.ownsRow g0 T sz v l.length (rowsOf row l)
/-- A slice that reads as a list: the cells of its rows. -/
structure RdC {α : Type} (sz : Nat) (row : α → List Value) (w : World) (b o : Nat) (l : List α) : Prop where
  lt : b < w.heap.size
  cell : ∀ i (h : i < l.length) c u, (row l[i])[c]? = some u → w.cell? ⟨b, o + i * sz + c, none⟩ = some u
def Rd {α : Type} (sz : Nat) (row : α → List Value) (w : World) (v : Value) (l : List α) : Prop := ∃ a c, v = .slice a l.length c ∧ (l = [] ∧ (a = none → c = 0) ∨ ∃ b o, a = some ⟨b, o, none⟩ ∧ RdC sz row w b o l)
section
variable {α : Type} {sz : Nat} {row : α → List Value} {w w' : World} {b o : Nat} {l : List α} {v : Value}
theorem RdC.nw (h : RdC sz row w b o l) (g : Nw w w') : RdC sz row w' b o l := ⟨Nat.lt_of_lt_of_le h.lt g.sz, fun i hi c u hu => (g.cell h.lt).trans (h.cell i hi c u hu)⟩
theorem Rd.nw (h : Rd sz row w v l) (g : Nw w w') : Rd sz row w' v l := by
  obtain ⟨a, c, rfl, h | ⟨b, o, rfl, h⟩⟩ := h
  · exact ⟨a, c, rfl, .inl h⟩
  · exact ⟨_, c, rfl, .inr ⟨b, o, rfl, h.nw g⟩⟩
theorem Rd.nil (w : World) : Rd sz row w (.slice none 0 0) [] := ⟨none, 0, rfl, .inl ⟨rfl, fun _ => rfl⟩⟩
theorem Rd.form (h : Rd sz row w v l) : ∃ a c, v = .slice a l.length c := by
  obtain ⟨a, c, rfl, _⟩ := h
  exact ⟨a, c, rfl⟩
theorem rows_len (hl : ∀ a, (row a).length = sz) : ∀ l : List α, (rowsOf row l).length = l.length * sz
  | [] => by simp [rowsOf]
  | s :: r => by
    show (row s ++ rowsOf row r).length = _
    rw [List.length_append, rows_len hl r, hl, List.length_cons, Nat.add_mul, Nat.one_mul, Nat.add_comm]
theorem rows_at' (hl : ∀ a, (row a).length = sz) : ∀ (l : List α) (j c : Nat) (hj : j < l.length), c < sz → (rowsOf row l)[j * sz + c]? = (row l[j])[c]?
  | s :: r, 0, c, _, hc => by
    show (row s ++ rowsOf row r)[0 * sz + c]? = _
    rw [List.getElem?_append_left (by rw [hl]; simpa using hc)]
    simp
  | s :: r, j + 1, c, hj, hc => by
    have hj' : j < r.length := by simpa using hj
    show (row s ++ rowsOf row r)[(j + 1) * sz + c]? = _
    rw [Nat.add_mul, Nat.one_mul, List.getElem?_append_right (by rw [hl]; omega), hl, show j * sz + sz + c - sz = j * sz + c by omega, rows_at' hl r j c hj' hc]
    rfl
theorem rows_app (a b : List α) : rowsOf row (a ++ b) = rowsOf row a ++ rowsOf row b := by simp [rowsOf]
/-- A block of rows can be read. -/
theorem rd_block (hl : ∀ a, (row a).length = sz) {B : Nat} {T : TypeId} {fr : Nat × Nat} (h : w.heap[B]? = some (.cells ⟨rowsOf row l⟩ T fr)) (c : Nat) : Rd sz row w (.slice (some ⟨B, 0, none⟩) l.length c) l := by
  refine ⟨_, c, rfl, .inr ⟨B, 0, rfl, hlt h, fun i hi c u hu => ?_⟩⟩
  have hc : c < sz := by have := (List.getElem?_eq_some_iff.1 hu).1; rwa [hl] at this
  rw [Nat.zero_add, hcell h, ← Array.getElem?_toList]
  show (rowsOf row l)[i * sz + c]? = _
  rw [rows_at' hl l i c hi hc]; exact hu
theorem Own.rd {T g0 : Nat} (hl : ∀ a, (row a).length = sz) (h : Own T sz row w g0 v l) : Rd sz row w v l := by
  rcases oform h with ⟨rfl, q⟩ | ⟨g, cap, rfl⟩
  · exact ⟨none, 0, by rw [q], .inl ⟨List.length_eq_zero_iff.1 q, fun _ => rfl⟩⟩
  · refine ⟨_, cap, rfl, .inr ⟨g, 0, rfl, olt h rfl, fun i hi c u hu => ?_⟩⟩
    have hc : c < sz := by have := (List.getElem?_eq_some_iff.1 hu).1; rwa [hl] at this
    rw [Nat.zero_add]
    have hb : i * sz + c < l.length * sz := by
      have : (i + 1) * sz ≤ l.length * sz := Nat.mul_le_mul_right _ hi
      rw [Nat.add_mul, Nat.one_mul] at this
      omega
    refine (World.ownsRow.cellAt h (i * sz + c) hb).trans ?_
    rw [rows_at' hl l i c hi hc]; exact hu
/-- The cells behind an address, as an append reads them. -/
theorem RdC.flat (hl : ∀ a, (row a).length = sz) (hz : 0 < sz) (h : RdC sz row w b o l) : ∀ j u, (rowsOf row l)[j]? = some u → w.cell? ((⟨b, o, none⟩ : Addr).add j) = some u := by
  intro j u hu
  have hj := (List.getElem?_eq_some_iff.1 hu).1
  rw [rows_len hl] at hj
  have hq : j / sz < l.length := Nat.div_lt_of_lt_mul (by rwa [Nat.mul_comm])
  have hm : j % sz < sz := Nat.mod_lt _ hz
  have e : j = j / sz * sz + j % sz := by rw [Nat.mul_comm]; exact (Nat.div_add_mod j sz).symm
  rw [e, rows_at' hl _ _ _ hq hm] at hu
  have := h.cell _ hq _ u hu
  rw [Addr.add_lit]
  rwa [Nat.add_assoc, ← e] at this
/-- A part of a slice. -/
theorem RdC.part (h : RdC sz row w b o l) (i m : Nat) : RdC sz row w b (o + i * sz) ((l.drop i).take m) := ⟨h.lt, fun k hk c u hu => by
    simp only [List.length_take, List.length_drop] at hk
    simp only [List.getElem_take, List.getElem_drop] at hu
    have := h.cell (i + k) (by omega) c u hu
    rw [Nat.add_mul] at this
    rwa [show o + i * sz + k * sz + c = o + (i * sz + k * sz) + c by omega]⟩
end

section
variable {α : Type} {P : Program} {ST T : TypeId} {sz bytes : Nat} {row : α → List Value}
theorem Elem.oneAll (E : Elem P ST T sz bytes row) (l : List α) : ∀ u ∈ rowsOf row l, u.oneCell' = true := by
  intro u hu
  obtain ⟨a, _, hu⟩ := List.mem_flatMap.1 hu
  exact E.one a u hu
/-- Append of a slice that reads as a list, to a row of the call's own. -/
theorem Own.many (E : Elem P ST T sz bytes row) {w : World} {g0 : Nat} {v : Value} {l : List α} (h : Own T sz row w g0 v l) (sg : List α) (a : Addr) (c : Nat) (hc : ∀ j u, (rowsOf row sg)[j]? = some u → w.cell? (a.add j) = some u) (hsm : l.length + sg.length ≤ 100000) (hg0 : g0 ≤ w.heap.size) :
    ∃ v' w1, (Builtin.append_ #[ST, ST] ST #[v, .slice (some a) sg.length c]).run P w = .ok v' w1 ∧ Own T sz row w1 g0 v' (l ++ sg) ∧ w.grownBy w1 v.ownBlock ∧ (v'.ownBlock = v.ownBlock ∨ v'.ownBlock = some w.heap.size) := by
  obtain ⟨i0, z, hi, hz0, hz1, hz2, hz3⟩ := E.inf
  have hb := E.byt
  obtain ⟨v', w1, hrun, ho, hg, hp⟩ := run_append_fresh (P := P) w g0 ST ST T i0 z sz bytes E.und hi hz0 hz1 hz2 hz3 E.pos v l.length _ h
    a sg.length c (rowsOf row sg) (rows_len E.len sg) hc (E.oneAll sg) (by unfold maxLen; omega) (Nat.le_trans (Nat.mul_le_mul hsm hb) (by omega)) hg0
  refine ⟨v', w1, hrun, ?_, hg, hp⟩
  unfold Own
  rw [List.length_append, rows_app]
  exact ho
/-- Append of one that lies in a box. -/
theorem Own.push (E : Elem P ST T sz bytes row) {w : World} {g0 : Nat} {v : Value} {l : List α} (h : Own T sz row w g0 v l) (x : α) (b : Nat) (c : Nat) (hx : ∀ j u, (row x)[j]? = some u → w.cell? ⟨b, j, none⟩ = some u) (hsm : l.length < 100000) (hg0 : g0 ≤ w.heap.size) :
    ∃ v' w1, (Builtin.append_ #[ST, ST] ST #[v, .slice (some ⟨b, 0, none⟩) 1 c]).run P w = .ok v' w1 ∧ Own T sz row w1 g0 v' (l ++ [x]) ∧ w.grownBy w1 v.ownBlock ∧ (v'.ownBlock = v.ownBlock ∨ v'.ownBlock = some w.heap.size) ∧ ∃ g cap, v' = .slice (some ⟨g, 0, none⟩) (l.length + 1) cap := by
  obtain ⟨v', w1, h1, h2, h3, h4⟩ := Own.many E h [x] ⟨b, 0, none⟩ c (fun j u hu => by
    rw [Addr.add_lit, Nat.zero_add]
    exact hx j u (by simpa [rowsOf] using hu)) (by rw [List.length_singleton]; omega) hg0
  refine ⟨v', w1, h1, h2, h3, h4, ?_⟩
  rcases oform h2 with ⟨_, q⟩ | ⟨g, cap, rfl⟩
  · simp at q
  · exact ⟨g, cap, by simp⟩
/-- An empty row in a new block. -/
theorem own_empty (w : World) : (w.alloc (.cells #[] T)).ownsRow w.heap.size T sz (.slice (some ⟨w.heap.size, 0, none⟩) 0 0) 0 [] := World.ownsRow_lit w #[] 0 (Nat.le_refl _) (Nat.zero_le _) (by simp)
/-- append([]T{}, l...): the empty row's append of a slice that reads as a list. -/
theorem own_clone (E : Elem P ST T sz bytes row) {w : World} {v : Value} {l : List α} (h : Rd sz row w v l) (hsm : l.length ≤ 100000) :
    ∃ v' w1, (Builtin.append_ #[ST, ST] ST #[.slice (some ⟨w.heap.size, 0, none⟩) 0 0, v]).run P (w.alloc (.cells #[] T)) = .ok v' w1 ∧ Own T sz row w1 w.heap.size v' l ∧ Nw w w1 := by
  have he := own_empty (T := T) (sz := sz) w
  have hN : Nw w (w.alloc (.cells #[] T)) := (Nw.refl w).alloc _
  have hE : Own T sz row (w.alloc (.cells #[] T)) w.heap.size (.slice (some ⟨w.heap.size, 0, none⟩) 0 0) ([] : List α) := he
  obtain ⟨a, c, rfl, ⟨rfl, h0⟩ | ⟨b, o, rfl, hc⟩⟩ := h
  · cases a with
    | none =>
      obtain rfl := h0 rfl
      obtain ⟨i0, z, hi, hz0, hz1, hz2, hz3⟩ := E.inf
      exact ⟨_, _, run_append_owned_none (P := P) (w.alloc (.cells #[] T)) w.heap.size ST ST T i0 sz E.und hi _ 0 [] he, hE, hN⟩
    | some ad =>
      obtain ⟨v', w1, h1, h2, h3, _⟩ := Own.many E hE [] ad c (fun j u hu => by simp [rowsOf] at hu) (by simp) hN.sz
      exact ⟨v', w1, h1, h2, hN.gro h3 (fun k hk => Nat.le_of_eq (Option.some.inj hk))⟩
  · obtain ⟨v', w1, h1, h2, h3, _⟩ := Own.many E hE l ⟨b, o, none⟩ c ((hc.nw hN).flat E.len E.pos) (by simpa using hsm) hN.sz
    exact ⟨v', w1, h1, by simpa using h2, hN.gro h3 (fun k hk => Nat.le_of_eq (Option.some.inj hk))⟩
end
/-- An append by the equation of its run: in a list of operations, and in a plan. -/
theorem wpl_app {P : Program} {w : World} {ops : Array Oper} {rest : List Oper} {o : Oper} {a : Act} {Q : Exit → Act → World → Prop}
    (hgd : Region.wanted o (yielded ops a.tmps) = true) (s x : Operand) (t : TypeId) (hop : o.op = Op.call { callee := Callee.builtin Builtin.append, args := #[s, x], argTypes := #[t, t] })
    (v u v' : Value) (w' : World) (hs : a.eval s = v) (hx : a.eval x = u) (hr : (Builtin.append_ #[t, t] o.type #[v, u]).run P w = .ok v' w') (h : wpList P ops Q rest (a.put o.dst v') w') : wpList P ops Q (o :: rest) a w := by
  refine wpList_step fun _ hK => ?_
  rw [if_pos hgd]
  unfold Oper.wp execOp
  simp only [hop, resolve, invoke, builtin, Sem.run_bind, Sem.run_pure, Result.andThen_ok, List.map_toArray, List.map_cons, List.map_nil, hs, hx, hr]
  exact hK _ _ h
theorem stp_app {P : Program} {ops : Array Oper} {o : Oper} {a : Act} {w : World} {K : Act → World → Prop} {Q : Exit → Act → World → Prop} {E : Prop} (hgd : Region.wanted o (yielded ops a.tmps) = true) (s x : Operand) (t : TypeId)
    (ho : o.op = .call { callee := .builtin .append, args := #[s, x], argTypes := #[t, t] }) (v u v' : Value) (w' : World) (hs : a.eval s = v) (hx : a.eval x = u) (hr : (Builtin.append_ #[t, t] o.type #[v, u]).run P w = .ok v' w')
    (h : K (a.put o.dst v') w') : if Region.wanted o (yielded ops a.tmps) = true then Oper.wp P o a w K Q else E := by
  rw [if_pos hgd]
  unfold Oper.wp execOp
  simp only [ho, resolve, invoke, builtin, Sem.run_bind, Sem.run_pure, Result.andThen_ok, List.map_toArray, List.map_cons, List.map_nil, hs, hx, hr]
  exact h
end Go.Proofs.YtpffldfpabglbaaGreatDoor
end

/- AppendSeq and Collect over names. -/
section
namespace Go.Proofs.YtpffldfpabglbaaGreatDoor
open Go.RowKit Go.Shelf
set_option linter.unusedVariables false      -- a contract need not use every name
attribute [local go_sem] Oper.semAt_some

def nmrow (a : Int × Int) : List Value := [.int .i64 a.1, .int .i64 a.2]
theorem elemNm : Elem Tryz.prog 208 34 2 16 nmrow where
  und := Tryz.underlying208
  inf := by
    have h : (Tryz.prog.info? 34).map (fun i => (i.zero, i.size, i.bytes)) = some (some (.agg #[.int .i64 0, .int .i64 0]), 2, 16) := by kernel_rfl
    cases e : Tryz.prog.info? 34 with
    | none => rw [e] at h; cases h
    | some i =>
      rw [e] at h
      simp only [Option.map_some, Option.some.injEq, Prod.mk.injEq] at h
      exact ⟨i, _, rfl, h.1, h.2.1, h.2.2, rfl⟩
  pos := by decide
  byt := by decide
  len := fun _ => rfl
  one := fun a u hu => by
    simp only [nmrow, List.mem_cons, List.not_mem_nil, or_false] at hu
    rcases hu with rfl | rfl <;> rfl
abbrev NmOwn (w : World) (g0 : Nat) (v : Value) (l : List (Int × Int)) : Prop := Own 34 2 nmrow w g0 v l

theorem cellsB {w : World} {a : Addr} {v : Value} (h : w.cell? a = some v) : ∃ o : Obj, w.heap[a.block]? = some o ∧ o.isCells = true := by
  unfold World.cell? at h
  cases ho : w.heap[a.block]? with
  | none => simp [ho] at h
  | some o => exact ⟨o, rfl, by cases o <;> simp_all [Obj.isCells]⟩
theorem chSame {n₀ : Nat} {S : Nat → Prop} {A B : World} {a : Addr} {v : Value} (h : Ch' n₀ S A B) (hc : A.cell? a = some v) (hn : ¬ S a.block) : B.heap[a.block]? = A.heap[a.block]? := by
  obtain ⟨o, ho, hco⟩ := cellsB hc
  rcases h.block a.block (Array.getElem?_eq_some_iff.1 ho).1 hn with e | ⟨_, o', ho', hc'⟩
  · exact e
  · rw [ho] at ho'; cases ho'; rw [hco] at hc'; cases hc'
theorem chNw {n₀ : Nat} {S : Nat → Prop} {w A B : World} (h : Ch' n₀ S A B) (k : Nw w A) (hn : w.heap.size ≤ n₀) (hS : ∀ i, S i → w.heap.size ≤ i) : Nw w B :=
  Tch.toNw (h.tch (Tch.nw (S := fun _ => False) k) hn (fun i hi e => by have := hS i e; omega))
theorem chRow {n₀ : Nat} {S : Nat → Prop} {A B : World} {g0 : Nat} {v : Value} {n : Nat} {e : TypeId} {size : Nat} {xs : List Value} (h : Ch' n₀ S A B) (hr : A.ownsRow g0 e size v n xs) (hn : ∀ k, v.ownBlock = some k → ¬ S k) : B.ownsRow g0 e size v n xs := by
  refine ⟨hr.1, ?_⟩
  rcases hr.2 with h0 | ⟨g, cap, cur, rfl, hb, hg, rest⟩
  · exact .inl h0
  · exact .inr ⟨g, cap, cur, rfl, hb, h.cells hg (hn g rfl), rest⟩
theorem appIn {F : Fence} {n : Nat} {P : Program} {w : World} {ops : Array Oper} {rest : List Oper} {o : Oper} {a : Act} {Q : Exit → Act → World → Prop}
    (hg : o.guard = none) (s x : Operand) (t : TypeId) (hop : o.op = Op.call { callee := Callee.builtin Builtin.append, args := #[s, x], argTypes := #[t, t] })
    (v u v' : Value) (w' : World) (hs : a.eval s = v) (hx : a.eval x = u) (hr : (Builtin.append_ #[t, t] o.type #[v, u]).run P w = .ok v' w') (h : wpListIn F n P ops Q rest (a.put o.dst v') w') : wpListIn F n P ops Q (o :: rest) a w := by
  refine wpListIn_plain hg fun K hK' => ?_
  unfold Oper.wpIn
  refine ⟨?_, ?_⟩
  · simp [Oper.about, hop, resolve, Target.leads, Sem.run_pure]
  · rw [Oper.semAt_plain F _ _ (by rw [hop]; intro c hc'; cases hc')]
    simp [execOp, hop, resolve, invoke, builtin, hs, hx, hr, Result.andThen]
    exact hK' _ _ h
/-- A slice in a box that a range fills: what holds between two rounds. -/
structure BxI {α : Type} (T sz : Nat) (row : α → List Value) (w : World) (c : Nat) (S0 S : Nat → Prop) (v : Value) (pre : List α) (A : World) : Prop where
  cell : A.cell? ⟨c, 0, none⟩ = some v
  froz : A.frozen? ⟨c, 0, none⟩ = false
  own : Own T sz row A (c + 1) v pre
  row : ∀ k, v.ownBlock = some k → ¬ S k
  box : ¬ S c
  sub : ∀ k, S k → S0 k ∨ w.heap.size ≤ k
  nw : Nw w A
theorem BxI.lt {α : Type} {T sz c : Nat} {row : α → List Value} {w : World} {S0 S : Nat → Prop} {v : Value} {pre : List α} {A : World} (h : BxI T sz row w c S0 S v pre A) : c < A.heap.size := World.block_lt_of_cell? _ _ h.cell
theorem BxI.step {α : Type} {T sz c : Nat} {row : α → List Value} {w : World} {n₀ : Nat} {S0 S S' : Nat → Prop} {v : Value} {pre : List α} {A B : World} (hn : w.heap.size ≤ n₀) (h : BxI T sz row w c S0 S v pre A) (k : Ch' n₀ (fun k => S k ∧ ¬ S0 k) A B) (h2 : ∀ k, S' k → S k ∨ A.heap.size ≤ k) : BxI T sz row w c S0 S' v pre B := by
  have e := chSame k h.cell (fun q => h.box q.1)
  refine ⟨(World.cell?_of_block e).trans h.cell, (World.frozen?_of_block e).trans h.froz, chRow k h.own (fun g hg q => h.row g hg q.1), fun g hg hs => ?_, fun hs => ?_, fun i hs => ?_, chNw k h.nw hn (fun i q => (h.sub i q.1).resolve_left q.2)⟩
  · rcases h2 g hs with q | q
    · exact h.row g hg q
    · have := olt h.own hg; omega
  · rcases h2 _ hs with q | q
    · exact h.box q
    · have := h.lt; omega
  · rcases h2 i hs with q | q
    · exact h.sub i q
    · exact .inr (Nat.le_trans h.nw.sz q)
/-- A round's append. -/
theorem BxI.push {α : Type} {P : Program} {ST T sz bytes c : Nat} {row : α → List Value} (E : Elem P ST T sz bytes row) {w : World} {S0 S : Nat → Prop} {v : Value} {pre : List α} {A A1 : World} (h : BxI T sz row w c S0 S v pre A) (hw : w.heap.size ≤ c) (hex : ∀ k, S k → k < A.heap.size) (g : Nw A A1) (x : α) (b cc : Nat) (hx : ∀ j u, (row x)[j]? = some u → A1.cell? ⟨b, j, none⟩ = some u) (hsm : pre.length < 100000)
    {n₀ : Nat} (hD : ∀ k, (k = n₀ ∨ k = n₀ + 1) → ∃ o, A.heap[k]? = some o ∧ o.isCells = false) :
    ∃ v' w1, (Builtin.append_ #[ST, ST] ST #[v, .slice (some ⟨b, 0, none⟩) 1 cc]).run P A1 = .ok v' w1 ∧ (∃ g cap, v' = .slice (some ⟨g, 0, none⟩) (pre.length + 1) cap) ∧ w1.cell? ⟨c, 0, none⟩ = some v ∧ w1.frozen? ⟨c, 0, none⟩ = false ∧
      BxI T sz row w c S0 S v' (pre ++ [x]) (w1.setCell ⟨c, 0, none⟩ v') ∧ KpS S A (w1.setCell ⟨c, 0, none⟩ v') ∧ KpD n₀ A (w1.setCell ⟨c, 0, none⟩ v') := by
  have hc := h.lt
  obtain ⟨v', w1, h1, h2, h3, h4, h5⟩ := Own.push E (onw h.own g) x b cc hx hsm (by have := g.sz; omega)
  have hvc : ∀ k, v.ownBlock = some k → c < k := fun k hk => oge h.own hk
  have c1 : w1.cell? ⟨c, 0, none⟩ = some v := by
    have e : w1.heap[c]? = A1.heap[c]? := h3.block c (Nat.lt_of_lt_of_le hc g.sz) (fun q => by have := hvc c q.symm; omega)
    rw [World.cell?_of_block e]; exact g.kp h.cell
  have f1 : w1.frozen? ⟨c, 0, none⟩ = false := by
    have e : w1.heap[c]? = A1.heap[c]? := h3.block c (Nat.lt_of_lt_of_le hc g.sz) (fun q => by have := hvc c q.symm; omega)
    rw [World.frozen?_of_block e]; exact (g.froz hc).trans h.froz
  have hkeep : ∀ k, k < A.heap.size → v.ownBlock ≠ some k → k ≠ c → (w1.setCell ⟨c, 0, none⟩ v').heap[k]? = A.heap[k]? := fun k hk q1 q2 => by
    rw [Below.heap_setCell _ _ _ _ (by simpa using q2), h3.block k (Nat.lt_of_lt_of_le hk g.sz) (fun q => q1 q.symm)]
    exact g.block k hk
  refine ⟨v', w1, h1, h5, c1, f1, ⟨World.cell?_setCell_same _ _ _ c1, by rw [World.frozen?_setCell]; exact f1, own_st h2 (Nat.lt_succ_self c) _, fun k hk => ?_, h.box, h.sub, ?_⟩, ⟨?_, fun k hk => ?_⟩, fun k hk => ?_⟩
  · rcases h4 with q | q
    · exact h.row k (q ▸ hk)
    · rw [q] at hk
      have := Option.some.inj hk
      have := g.sz
      intro hs
      have := hex k hs
      omega
  · refine ((h.nw.trans g).gro h3 (fun k hk => ?_)).st (p := ⟨c, 0, none⟩) hw v'
    have := hvc k hk
    omega
  · have := h3.size
    have := g.sz
    have e : (w1.setCell ⟨c, 0, none⟩ v').heap.size = w1.heap.size := by simp
    omega
  · exact hkeep k (hex k hk) (fun q => h.row k q hk) (fun q => h.box (q ▸ hk))
  · obtain ⟨o, ho, hno⟩ := hD k hk
    refine hkeep k (hlt ho) (fun q => ?_) (fun q => ?_)
    · obtain ⟨cc, hcc⟩ := oheap h.own q
      rw [hcc] at ho; cases ho; cases hno
    · subst q
      obtain ⟨o', ho', hc'⟩ := cellsB h.cell
      rw [show (⟨k, 0, none⟩ : Addr).block = k from rfl, ho] at ho'; cases ho'; rw [hno] at hc'; cases hc'
def NmPost (w : World) (Fin : List (Int × Int) → Prop) (e : Ending) (W : World) : Prop := ∃ v xs, e = .returned v ∧ Fin xs ∧ NmOwn W w.heap.size v xs ∧ Nw w W

set_option maxRecDepth 100000 in
set_option maxHeartbeats 4000000 in
theorem appNames_in (n : Nat) (hn : 3 ≤ n) (gf : Nat) (lb : Array Value) (eg : ∀ args w, (callFunc gf args).run Tryz.prog w = .ok (.enter gf args) w) (Pre Fin : List (Int × Int) → Prop) (S0 : Nat → Prop) (w : World) (hsm : ∀ xs, Pre xs → xs.length ≤ 100000)
    (hS0 : ∀ k, S0 k → k < w.heap.size) (hseq : SeqB Fence.wide (n - 1) Tryz.prog gf #[] lb nmV Pre Fin S0 w) :
    CallsIn Fence.wide n Tryz.prog 231 #[.slice none 0 0, .func (.func gf) #[] lb] w (NmPost w Fin) := by
  have h1 : 1 ≤ n := by omega
  refine callsIn_of_wp_marks Tryz.func231 rfl trivial ?_ rfl
  simp only [Tryz.ntmps231, List.size_toArray, List.length_cons, List.length_nil, Nat.reduceAdd, Nat.reduceSub, Array.replicate_succ, Array.replicate_zero, List.push_toArray, List.append_toArray, List.nil_append, List.cons_append]
  gi_wp2
  have hA0 : ∃ v, BxI 34 2 nmrow w w.heap.size S0 S0 v [] (w.alloc (.cells #[.slice none 0 0] 208)) :=
    ⟨.slice none 0 0, by simp [go_sem], by simp [go_sem], World.ownsRow_nil _ _ _ _, fun k e => by simp [Value.ownBlock] at e, fun e => by have := hS0 _ e; omega, fun k e => .inl e, (Nw.refl w).alloc _⟩
  have hsz : (w.alloc (.cells #[.slice none 0 0] 208)).heap.size = w.heap.size + 1 := by simp
  have hnw : Nw w (w.alloc (.cells #[.slice none 0 0] 208)) := (Nw.refl w).alloc _
  obtain ⟨W0, hW0⟩ : ∃ W0, w.alloc (.cells #[.slice none 0 0] 208) = W0 := ⟨_, rfl⟩
  rw [hW0] at hA0 hsz hnw ⊢
  clear hW0
  refine rg_law rfl h1 (gf := gf) (fa := #[]) (lb := lb) rfl trivial eg (S0 := S0) (fun k e => by have := hS0 k e; omega) (hseq.later hnw) rfl
    (fun S pre A => ∃ v, BxI 34 2 nmrow w w.heap.size S0 S v pre A) (fun _ _ _ _ => False) (fun S S' pre A B hi hc e1 e2 _ => by obtain ⟨v, hi⟩ := hi; exact ⟨v, hi.step (by omega) hc e2⟩) (fun _ _ _ _ _ _ h _ _ _ _ => h) hA0
    (fun x => some (.cells #[.int .i64 x.1, .int .i64 x.2] 34))
    (fun x bx => { tmps := #[.slice none 0 0, .func (.func gf) #[] lb, .pointer (some ⟨w.heap.size, 0, none⟩), undef, .slice none 0 0, .pointer (some ⟨bx, 0, none⟩), .func (.func gf) #[] lb, nmV x, undef, undef, undef, undef, undef], defers := [] }) ?assign ?body ?done ?stop
  case assign =>
    intro l x A K hK
    obtain ⟨x0, x1⟩ := x
    unfold nmV at *
    simp only [mkB] at hK ⊢
    gi_wp2
    exact hK
  case body =>
    intro l S pre x bx A hi hsub hex hnb hbl hnc hcx hpre
    obtain ⟨v, hi⟩ := hi
    have hcx := hcx _ rfl
    have c0 : A.cell? ⟨bx, 0, none⟩ = some (.int .i64 x.1) := by rw [hcell hcx]; rfl
    have c1 : A.cell? ⟨bx, 1, none⟩ = some (.int .i64 x.2) := by rw [hcell hcx]; rfl
    have hln : pre.length < 100000 := by have := hsm _ hpre; rw [List.length_append, List.length_singleton] at this; omega
    have hal := allocAt A (.cells #[.int .i64 x.1, .int .i64 x.2] 34)
    obtain ⟨v', w1, hr, ⟨gg, cap, hv'⟩, hcc, hff, hB, hK, hKD⟩ := hi.push elemNm (Nat.le_refl _) hex ((Nw.refl A).alloc (.cells #[.int .i64 x.1, .int .i64 x.2] 34)) x A.heap.size 1 (fun j u hu => by rw [hcell hal]; simpa [nmrow] using hu) hln (n₀ := w.heap.size + 1) (fun k e => (hnc k (by rw [hsz]; exact e)).2)
    subst hv'
    have HR := Lib.hid hr
    have HB := Lib.hid (And.intro hB (And.intro hK hKD))
    have hpl : ∀ n, pre.length = n → Hid (BxI 34 2 nmrow w w.heap.size S0 S (.slice (some ⟨gg, 0, none⟩) (n + 1) cap) (pre ++ [x]) (w1.setCell ⟨w.heap.size, 0, none⟩ (.slice (some ⟨gg, 0, none⟩) (n + 1) cap)) ∧ KpS S A (w1.setCell ⟨w.heap.size, 0, none⟩ (.slice (some ⟨gg, 0, none⟩) (n + 1) cap)) ∧ KpD (w.heap.size + 1) A (w1.setCell ⟨w.heap.size, 0, none⟩ (.slice (some ⟨gg, 0, none⟩) (n + 1) cap))) := fun n e => by subst e; exact HB
    have hd := hi.cell
    have hlt := hi.lt
    have hf := oform hi.own
    clear hr hB hK hKD hi hex hsub hnb hnc hcx hpre hseq hA0 hal
    obtain ⟨x0, x1⟩ := x
    unfold nmV
    simp only at c0 c1 HR ⊢
    rw [hsz]
    rcases hf with ⟨rfl, hp0⟩ | ⟨g, cap, rfl⟩
    · have HB0 := hpl 0 hp0
      clear hpl
      gi_wp2_with (gi_at_builtin; refine appIn rfl (.tmp 8) (.tmp 10) 208 rfl _ _ _ _ rfl rfl HR.out ?_)
      exact ⟨HB0.out.2.2, HB0.out.2.1, _, HB0.out.1⟩
    · clear hpl
      gi_wp2_with (gi_at_builtin; refine appIn rfl (.tmp 8) (.tmp 10) 208 rfl _ _ _ _ rfl rfl HR.out ?_)
      exact ⟨HB.out.2.2, HB.out.2.1, _, HB.out.1⟩
  case done =>
    intro D S xs W hD _ hfin hi hK
    obtain ⟨v, hi⟩ := hi
    have HE : Hid (NmPost w Fin (.returned v) (W.putObj D (.deferred none))) := by
      have hc : Ch' D (fun _ => False) W (W.putObj D (.deferred none)) := Ch'.put _ (.inl rfl) hK rfl
      exact ⟨v, xs, rfl, hfin, olow (chRow hc hi.own (fun _ _ e => e)) (fun g hg => by have := oge hi.own hg; omega), chNw hc hi.nw (by omega) (fun _ e => e.elim)⟩
    have hd := hi.cell
    have hf := oform hi.own
    clear hseq hA0 hi hS0
    rcases hf with ⟨rfl, hp0⟩ | ⟨g, cap, rfl⟩
    all_goals
      gi_wp2
      refine ⟨by simp, .inl ⟨_, _, rfl, run_takeDeferred hK, ?_⟩⟩
      exact ⟨_, results_tmp (t := 4) rfl _ _ _, HE.out⟩
  case stop =>
    intro D c S pre W _ _ h _
    exact h.elim
theorem collectNames (gf : Nat) (lb : Array Value) (eg : ∀ args w, (callFunc gf args).run Tryz.prog w = .ok (.enter gf args) w) (Pre Fin : List (Int × Int) → Prop) (S0 : Nat → Prop) (w : World) (hsm : ∀ xs, Pre xs → xs.length ≤ 100000)
    (hS0 : ∀ k, S0 k → k < w.heap.size) (hseq : SeqB Fence.wide 4 Tryz.prog gf #[] lb nmV Pre Fin S0 w) :
    Calls Tryz.prog 218 #[.func (.func gf) #[] lb] w (NmPost w Fin) := by
  have H := Lib.hid (callsIn_wide.1 (appNames_in 5 (by omega) gf lb eg Pre Fin S0 w hsm hS0 hseq))
  clear hseq hS0
  go_enter Tryz.func218, Tryz.ntmps218
  go_wp2_with fail
  refine H.out.mono ?_
  rintro e w1 h
  obtain ⟨v, xs, rfl, h⟩ := h
  have HP := Lib.hid h
  clear h
  go_wp2
  go_ret
  exact ⟨v, xs, rfl, HP.out⟩
end Go.Proofs.YtpffldfpabglbaaGreatDoor
end

/- byPlace: names compared by table, then record; its world written out, as a sort wants it. -/
section
namespace Go.Proofs.YtpffldfpabglbaaGreatDoor
open Go.RowKit Go.Sort
set_option linter.unusedVariables false      -- a contract need not use every name

def cP (a b : Int) : Int := if a < b then -1 else if b < a then 1 else 0
theorem cP_lt (a b : Int) (h : a < b) : cP a b = -1 := if_pos h
theorem cP_gt (a b : Int) (h : b < a) : cP a b = 1 := by unfold cP; rw [if_neg (by omega), if_pos h]
theorem cP_eq (a : Int) : cP a a = 0 := by unfold cP; simp
theorem isNaN_p (a : Int) (w : World) : Calls Tryz.prog 159 #[.int .i64 a] w fun e w' => e = .returned (.bool false) ∧ w = w' := by
  go_enter Tryz.func159, Tryz.ntmps159
  go_wp2
  go_ret
  exact ⟨rfl, rfl⟩
theorem cmpInt_p (a b : Int) (w : World) : Calls Tryz.prog 108 #[.int .i64 a, .int .i64 b] w fun e w' => e = .returned (.int .i64 (cP a b)) ∧ w = w' := by
  rcases Int.lt_trichotomy a b with h | h | h
  · rw [cP_lt a b h]
    have hd : decide (a < b) = true := by simpa using h
    go_enter Tryz.func108, Tryz.ntmps108
    go_wp2_with (go_at_call 159; refine (isNaN_p _ _).mono ?_; rintro e w' ⟨rfl, rfl⟩)
    go_ret
    exact ⟨rfl, rfl⟩
  · subst h
    rw [cP_eq a]
    go_enter Tryz.func108, Tryz.ntmps108
    go_wp2_with (go_at_call 159; refine (isNaN_p _ _).mono ?_; rintro e w' ⟨rfl, rfl⟩)
    go_ret
    exact ⟨rfl, rfl⟩
  · rw [cP_gt a b h]
    have hd : decide (a < b) = false := by simp; omega
    have hd2 : decide (b < a) = true := by simpa using h
    go_enter Tryz.func108, Tryz.ntmps108
    go_wp2_with (go_at_call 159; refine (isNaN_p _ _).mono ?_; rintro e w' ⟨rfl, rfl⟩)
    go_ret
    exact ⟨rfl, rfl⟩
def orP (x y : Int) : Int := if x = 0 then y else x
theorem or_p (b : Nat) (x y : Int) (w : World) (h0 : w.cell? ⟨b, 0, none⟩ = some (.int .i64 x)) (h1 : w.cell? ⟨b, 1, none⟩ = some (.int .i64 y)) :
    Calls Tryz.prog 107 #[.slice (some ⟨b, 0, none⟩) 2 2] w fun e w' => e = .returned (.int .i64 (orP x y)) ∧ w = w' := by
  by_cases hx : x = 0
  · subst hx
    by_cases hy : y = 0
    · subst hy
      go_enter Tryz.func107, Tryz.ntmps107
      go_wp2
      refine wp_loop_rounds 3 ?_
      rw [rounds_succ]
      go_wp2
      rw [rounds_succ]
      go_wp2
      rw [rounds_succ]
      go_wp2
      go_ret
      exact ⟨rfl, rfl⟩
    · have hy' : (y == 0) = false := by simpa using hy
      have hy2 : (y != 0) = true := by simpa using hy
      go_enter Tryz.func107, Tryz.ntmps107
      go_wp2
      refine wp_loop_rounds 3 ?_
      rw [rounds_succ]
      go_wp2
      rw [rounds_succ]
      go_wp2
      go_ret
      exact ⟨rfl, rfl⟩
  · have hx' : (x == 0) = false := by simpa using hx
    have hx2 : (x != 0) = true := by simpa using hx
    have e : orP x y = x := if_neg hx
    rw [e]
    clear hx e
    go_enter Tryz.func107, Tryz.ntmps107
    go_wp2
    refine wp_loop_rounds 3 ?_
    rw [rounds_succ]
    go_wp2
    go_ret
    exact ⟨rfl, rfl⟩
/-- Draws and new blocks, written out. -/
def GG (w w' : World) : Prop := ∃ q os, w' = grow (w.drewN q) os
theorem GG.refl (w : World) : GG w w := ⟨0, #[], by unfold grow; simp [World.drewN]⟩
theorem GG.drew {w w' : World} (h : GG w w') : GG w w'.drew := by obtain ⟨q, os, rfl⟩ := h; exact ⟨q + 1, os, rfl⟩
theorem GG.alloc {w w' : World} (h : GG w w') (o : Obj) : GG w (w'.alloc o) := by obtain ⟨q, os, rfl⟩ := h; exact ⟨q, os.push o, by rw [alloc_eq_grow, grow_grow]; rfl⟩
theorem GG.nw {w w' : World} (h : GG w w') : Nw w w' := by
  obtain ⟨q, os, rfl⟩ := h
  refine ⟨rfl, rfl, rfl, by rw [size_grow]; exact Nat.le_add_right _ _, fun k hk => ?_⟩
  exact heap_grow_old _ _ hk
theorem GG.trans {a b c : World} (h : GG a b) (k : GG b c) : GG a c := by
  obtain ⟨q, os, rfl⟩ := h
  obtain ⟨q', os', rfl⟩ := k
  refine ⟨q + q', os ++ os', ?_⟩
  unfold grow World.drewN
  simp [Nat.add_assoc, Array.append_assoc]
abbrev TwoB (w : World) (t r t' r' : Int) (a : World) : Prop := (a.cell? ⟨w.heap.size, 0, none⟩ = some (.int .i64 t) ∧ a.cell? ⟨w.heap.size, 1, none⟩ = some (.int .i64 r) ∧ a.cell? ⟨w.heap.size + 1, 0, none⟩ = some (.int .i64 t') ∧ a.cell? ⟨w.heap.size + 1, 1, none⟩ = some (.int .i64 r')) ∧ (w.heap.size + 1 < a.heap.size ∧ GG w a)
theorem twoB_start (w : World) (t r t' r' : Int) (ty : TypeId) : TwoB w t r t' r' (((w.alloc (.cells #[.int .i64 t, .int .i64 r] ty)).alloc (.cells #[.int .i64 t', .int .i64 r'] ty)).drew) := by
  have h1 := allocAt w (.cells #[.int .i64 t, .int .i64 r] ty)
  have hz : (w.alloc (.cells #[.int .i64 t, .int .i64 r] ty)).heap.size = w.heap.size + 1 := by simp
  have h2 := allocAt (w.alloc (.cells #[.int .i64 t, .int .i64 r] ty)) (.cells #[.int .i64 t', .int .i64 r'] ty)
  have h3 := ((Nw.refl (w.alloc (.cells #[.int .i64 t, .int .i64 r] ty))).alloc (.cells #[.int .i64 t', .int .i64 r'] ty)).at' h1
  rw [hz] at h2
  refine ⟨⟨?_, ?_, ?_, ?_⟩, ?_, (((GG.refl w).alloc _).alloc _).drew⟩
  · exact hcell (j := 0) h3
  · exact hcell (j := 1) h3
  · exact hcell (j := 0) h2
  · exact hcell (j := 1) h2
  · exact hlt h2
theorem twoB_step {w a b : World} {t r t' r' : Int} (g : GG a b) (h : TwoB w t r t' r' a) : TwoB w t r t' r' b := by
  obtain ⟨⟨h0, h1, h2, h3⟩, hs, hn⟩ := h
  exact ⟨⟨g.nw.kp h0, g.nw.kp h1, g.nw.kp h2, g.nw.kp h3⟩, Nat.lt_of_lt_of_le hs g.nw.sz, hn.trans g⟩
def cmpN (a b : Int × Int) : Int := orP (cP a.1 b.1) (cP a.2 b.2)
theorem byPlace_any (t r t' r' : Int) (w : World) :
    Calls Tryz.prog 188 #[.agg #[.int .i64 t, .int .i64 r], .agg #[.int .i64 t', .int .i64 r']] w fun e w' => e = .returned (.int .i64 (orP (cP t t') (cP r r'))) ∧ GG w w' := by
  go_enter Tryz.func188, Tryz.ntmps188
  go_wp2
  go_region_held3 (fun w' => TwoB w t r t' r' w') (first | assumption | exact twoB_start w t r t' r' _ | exact twoB_step (by assumption) (by assumption) | exact twoB_step ((GG.refl _).alloc _) (by assumption) | exact twoB_step (GG.refl _).drew (by assumption))
    (first | (go_at_call 108; refine (cmpInt_p _ _ _).mono ?_; rintro e w' ⟨rfl, rfl⟩) | (go_at_call 107; refine (or_p _ (cP t t') (cP r r') _ (by simp [go_sem]) (by simp [go_sem])).mono ?_; rintro e w' ⟨rfl, rfl⟩))
  all_goals
    rename_i hS
    go_wp2
    go_ret
    exact ⟨rfl, hS.2.2⟩
theorem cmpN_lt (a b : Int × Int) : ltOf cmpN a b = decide (nlt a b) := by
  obtain ⟨a, a'⟩ := a
  obtain ⟨b, b'⟩ := b
  unfold ltOf cmpN orP cP nlt
  rcases Int.lt_trichotomy a b with h | h | h
  · simp [h]
  · subst h
    rcases Int.lt_trichotomy a' b' with q | q | q
    · simp [q]
    · subst q; simp
    · have : ¬ a' < b' := by omega
      simp [q, this]
  · have h1 : ¬ a < b := by omega
    have h2 : a ≠ b := by omega
    simp [h, h1, h2]
theorem cmpN_swo : SWO (ltOf cmpN) where
  irrefl x := by rw [cmpN_lt]; simpa using nlt_irr x
  trans x y z h1 h2 := by rw [cmpN_lt] at *; simp only [decide_eq_true_eq] at *; exact nlt_tr h1 h2
  ntrans x y z h1 h2 := by rw [cmpN_lt] at *; simp only [decide_eq_false_iff_not] at *; intro h; unfold nlt at *; omega
theorem cmpN_tot (x y : Int × Int) (h1 : ltOf cmpN x y = false) (h2 : ltOf cmpN y x = false) : x = y := by
  rw [cmpN_lt] at h1 h2
  simp only [decide_eq_false_iff_not] at h1 h2
  rcases nlt_tot x y with q | q | q
  · exact absurd q h1
  · exact q
  · exact absurd q h2
end Go.Proofs.YtpffldfpabglbaaGreatDoor
end

/- The library's SortFunc at this program, over names, laid by the kit's own command in plain words. -/
section
namespace Go.Proofs
open Go.Shelf
def Tryz.sortN_ren : Go.Shelf.Ren := ⟨fun | 6 => 219 | 15 => 106 | 14 => 232 | 28 => 157 | 29 => 158 | 20 => 238 | 21 => 239 | 22 => 240 | 23 => 241 | 24 => 242 | 25 => 243 | 26 => 244 | 27 => 245 | 46 => 251 | 47 => 190 | 48 => 191 | 49 => 252 | 50 => 253 | 57 => 260 | n => n, fun | 22 => 208 | 24 => 34 | 25 => 67 | 3 => 3 | 39 => 144 | 0 => 0 | 53 => 149 | 55 => 187 | 4 => 4 | 46 => 180 | 45 => 179 | 50 => 53 | 5 => 5 | 9 => 9 | 66 => 213 | 70 => 217 | 76 => 239 | 77 => 55 | n => n, fun | n => n⟩
theorem Tryz.sortN : Go.Proofs.SlLaysF0.n6 Tryz.prog Tryz.sortN_ren := {
  mixed := by kernel_rfl
  f6 := ⟨Tryz.f219.name, by decide, Tryz.func219.trans (congrArg some (by kernel_rfl))⟩
  f14 := ⟨Tryz.f232.name, by decide, Tryz.func232.trans (congrArg some (by kernel_rfl))⟩
  f15 := Tryz.func106.trans (congrArg some (by kernel_rfl))
  f20 := ⟨Tryz.f238.name, by decide, Tryz.func238.trans (congrArg some (by kernel_rfl))⟩
  f21 := ⟨Tryz.f239.name, by decide, Tryz.func239.trans (congrArg some (by kernel_rfl))⟩
  f22 := ⟨Tryz.f240.name, by decide, Tryz.func240.trans (congrArg some (by kernel_rfl))⟩
  f23 := ⟨Tryz.f241.name, by decide, Tryz.func241.trans (congrArg some (by kernel_rfl))⟩
  f24 := ⟨Tryz.f242.name, by decide, Tryz.func242.trans (congrArg some (by kernel_rfl))⟩
  f25 := ⟨Tryz.f243.name, by decide, Tryz.func243.trans (congrArg some (by kernel_rfl))⟩
  f26 := ⟨Tryz.f244.name, by decide, Tryz.func244.trans (congrArg some (by kernel_rfl))⟩
  f27 := ⟨Tryz.f245.name, by decide, Tryz.func245.trans (congrArg some (by kernel_rfl))⟩
  f28 := Tryz.func157.trans (congrArg some (by kernel_rfl))
  f29 := Tryz.func158.trans (congrArg some (by kernel_rfl))
  f46 := ⟨Tryz.f251.name, by decide, Tryz.func251.trans (congrArg some (by kernel_rfl))⟩
  f47 := Tryz.func190.trans (congrArg some (by kernel_rfl))
  f48 := Tryz.func191.trans (congrArg some (by kernel_rfl))
  f49 := ⟨Tryz.f252.name, by decide, Tryz.func252.trans (congrArg some (by kernel_rfl))⟩
  f50 := ⟨Tryz.f253.name, by decide, Tryz.func253.trans (congrArg some (by kernel_rfl))⟩
  f57 := ⟨Tryz.f260.name, by decide, Tryz.func260.trans (congrArg some (by kernel_rfl))⟩
  t0 := Tryz.underlying0
  a0 := Tryz.isAgg0
  z0 := Tryz.sizeOf0
  v0 := Tryz.zeroValue0
  t3 := Tryz.underlying3
  a3 := Tryz.isAgg3
  z3 := Tryz.sizeOf3
  v3 := Tryz.zeroValue3
  t4 := Tryz.underlying4
  a4 := Tryz.isAgg4
  z4 := Tryz.sizeOf4
  v4 := Tryz.zeroValue4
  t5 := Tryz.underlying5
  a5 := Tryz.isAgg5
  z5 := Tryz.sizeOf5
  v5 := Tryz.zeroValue5
  t9 := Tryz.underlying9
  a9 := Tryz.isAgg9
  z9 := Tryz.sizeOf9
  v9 := Tryz.zeroValue9
  t22 := Tryz.underlying208
  a22 := Tryz.isAgg208
  z22 := Tryz.sizeOf208
  v22 := Tryz.zeroValue208
  t25 := Tryz.underlying67
  a25 := Tryz.isAgg67
  z25 := Tryz.sizeOf67
  v25 := Tryz.zeroValue67
  t39 := Tryz.underlying144
  a39 := Tryz.isAgg144
  z39 := Tryz.sizeOf144
  v39 := Tryz.zeroValue144
  t45 := Tryz.underlying179
  a45 := Tryz.isAgg179
  z45 := Tryz.sizeOf179
  v45 := Tryz.zeroValue179
  t46 := Tryz.underlying180
  a46 := Tryz.isAgg180
  z46 := Tryz.sizeOf180
  v46 := Tryz.zeroValue180
  t50 := Tryz.underlying53
  a50 := Tryz.isAgg53
  z50 := Tryz.sizeOf53
  v50 := Tryz.zeroValue53
  t53 := Tryz.underlying149
  a53 := Tryz.isAgg149
  z53 := Tryz.sizeOf149
  v53 := Tryz.zeroValue149
  t55 := Tryz.underlying187
  a55 := Tryz.isAgg187
  z55 := Tryz.sizeOf187
  v55 := Tryz.zeroValue187
  t66 := Tryz.underlying213
  a66 := Tryz.isAgg213
  z66 := Tryz.sizeOf213
  v66 := Tryz.zeroValue213
  t70 := Tryz.underlying217
  a70 := Tryz.isAgg217
  z70 := Tryz.sizeOf217
  v70 := Tryz.zeroValue217
  t76 := Tryz.underlying239
  a76 := Tryz.isAgg239
  z76 := Tryz.sizeOf239
  v76 := Tryz.zeroValue239
  t77 := Tryz.underlying55
  a77 := Tryz.isAgg55
  z77 := Tryz.sizeOf55
  v77 := Tryz.zeroValue55 }
end Go.Proofs
end

/- SortFunc over names, SortedFunc: the names of a bucket's map, in order. -/
section
namespace Go.Proofs.YtpffldfpabglbaaGreatDoor
open Go.RowKit Go.Sort Go.Shelf
set_option linter.unusedVariables false      -- a contract need not use every name

theorem holds_blk {w : World} {g : Nat} {cur F : Array Value} {e : TypeId} (hb : w.heap[g]? = some (.cells cur e (0, 0))) (ht : cur.toList.take F.size = F.toList) : Holds id w g 0 F := by
  intro j hj
  refine ⟨?_, by simp [World.frozen?, hb]⟩
  have h1 : (cur.toList.take F.size)[j]? = F.toList[j]? := by rw [ht]
  rw [List.getElem?_take_of_lt hj] at h1
  simp only [World.cell?, hb, Nat.zero_add]
  simp only [Option.isSome_none, Bool.false_eq_true, if_false]
  rw [← Array.getElem?_toList, h1]
  simp [hj]
theorem heap_srt {w : World} {g n : Nat} {os : Array Obj} {cur : Array Value} {e : TypeId} {fr : Nat × Nat} (F : Array Value) (hb : w.heap[g]? = some (.cells cur e fr)) :
    (grow (putRow id (Sort.ahead w n) g 0 F) os).heap[g]? = some (.cells (putCells id 0 F cur) e fr) := by
  have hg : g < w.heap.size := (Array.getElem?_eq_some_iff.1 hb).1
  rw [heap_grow_old _ _ (by simpa using hg)]
  simp [putRow, mapBlock, Sort.ahead, Array.getElem?_modify, hb, onCells]
theorem tch_srt {w : World} {g n : Nat} {os : Array Obj} (F : Array Value) : Tch (fun b => b = g) w (grow (putRow id (Sort.ahead w n) g 0 F) os) := by
  refine ⟨rfl, rfl, rfl, by simp, fun k hk hne => ?_⟩
  rw [heap_grow_old _ _ (by simpa using hk)]
  have : g ≠ k := fun e => hne e.symm
  simp [putRow, mapBlock, Sort.ahead, Array.getElem?_modify, this]
theorem take_put (cur F : Array Value) (h : F.size ≤ cur.size) : (putCells id 0 F cur).toList.take F.size = F.toList := by
  apply List.ext_getElem?
  intro j
  by_cases hj : j < F.size
  · rw [List.getElem?_take_of_lt hj, Array.getElem?_toList]
    simp [putCells, hj, show j < cur.size by omega]
  · rw [List.getElem?_take_eq_none (by omega), List.getElem?_eq_none (by simp; omega)]
theorem flat_rows (ss : List (Int × Int)) : flatK nmrow 2 ss.toArray = ⟨rowsOf nmrow ss⟩ := by
  have hl : (rowsOf nmrow ss).length = ss.length * 2 := rows_len (row := nmrow) (sz := 2) (fun _ => rfl) ss
  apply Array.ext
  · rw [size_flatK]; simp [hl]
  · intro t h1 h2
    rw [size_flatK] at h1
    have h1' : t < ss.length * 2 := by simpa using h1
    have hd : t / 2 < ss.length := by omega
    have h3 := rows_at' (row := nmrow) (sz := 2) (fun _ => rfl) ss (t / 2) (t % 2) hd (by omega)
    rw [show t / 2 * 2 + t % 2 = t by omega] at h3
    have e1 := get_flatK nmrow 2 ss.toArray t h1
    rw [getElem!_pos _ t (by rw [size_flatK]; exact h1)] at e1
    rw [e1, getElem!_pos ss.toArray (t / 2) (by simpa using hd)]
    have e2 : (⟨rowsOf nmrow ss⟩ : Array Value)[t]? = (nmrow ss[t / 2])[t % 2]? := by
      rw [← h3]; simp
    rw [Array.getElem?_eq_getElem h2] at e2
    simp only [List.getElem_toArray]
    rw [getElem!_pos _ _ (by show t % 2 < 2; omega)]
    rw [List.getElem?_eq_getElem (by show t % 2 < 2; omega)] at e2
    exact (Option.some.inj e2).symm
abbrev srtN (ss : List (Int × Int)) : List (Int × Int) := ss.mergeSort fun x y => !(ltOf cmpN) y x
theorem e_byPlace : ∀ args w, (callFunc 188 args).run Tryz.prog w = .ok (.enter 188 args) w := enters_of Tryz.func188 (by kernel_rfl) rfl
theorem byPlace_lays (blk off size : Nat) (w : World) : CmpLays Tryz.prog 188 #[] nmrow 2 cmpN blk off size w :=
  fun _ _ _ _ x y => (byPlace_any x.1 x.2 y.1 y.2 _).mono fun e w' h => h
theorem sort_names (g0 g cap : Nat) (ss : List (Int × Int)) (w : World) (h : NmOwn w g0 (.slice (some ⟨g, 0, none⟩) ss.length cap) ss) (hsm : ss.length ≤ 100000) :
    Calls Tryz.prog 219 #[.slice (some ⟨g, 0, none⟩) ss.length cap, .func (.func 188) #[] #[]] w fun e w' => e = .returned (.tuple #[]) ∧ NmOwn w' g0 (.slice (some ⟨g, 0, none⟩) ss.length cap) (srtN ss) ∧ Tch (fun b => b = g) w w' := by
  obtain ⟨hx, hr⟩ := h
  rcases hr with ⟨h0, _⟩ | ⟨g', cap', cur, h1, h2, h3, h4, h5, h6, h7⟩
  · simp at h0
  · simp only [Value.slice.injEq, Option.some.injEq, Addr.mk.injEq, and_true, true_and] at h1
    obtain ⟨rfl, rfl⟩ := h1
    have hF : (⟨rowsOf nmrow ss⟩ : Array Value).size = ss.length * 2 := rows_len (row := nmrow) (sz := 2) (fun _ => rfl) ss
    have hH : HoldsK nmrow 2 w g 0 ss.toArray := by
      unfold HoldsK
      rw [flat_rows]
      exact holds_blk h3 (by rw [hF]; exact h7)
    have hc := AnyQ.slices_SortFunc_total Tryz.sortN 2 (by intro w; kernel_rfl) (by intro w; kernel_rfl) nmrow (fun _ => rfl) (fun x v hv => by simp [nmrow] at hv; rcases hv with rfl | rfl <;> rfl) cmpN cmpN_swo 188 #[] g 0 cap ss.toArray w e_byPlace (byPlace_lays g 0 _ w) hH (hlt h3) (by simp; omega) cmpN_tot
    refine Calls.mono hc ?_
    rintro e w' ⟨rfl, n, os, rfl⟩
    refine ⟨rfl, ?_, ?_⟩
    · have hl : (srtN ss).length = ss.length := (List.mergeSort_perm _ _).length_eq
      have hz : (⟨rowsOf nmrow (srtN ss)⟩ : Array Value).size = ss.length * 2 := by rw [← hl]; exact rows_len (row := nmrow) (sz := 2) (fun _ => rfl) _
      unfold sortWorldK putRowK
      rw [flat_rows]
      unfold NmOwn Own
      rw [hl]
      refine ⟨by show (rowsOf nmrow (srtN ss)).length = _; exact hz, .inr ⟨g, cap, _, rfl, h2, heap_srt _ h3, h4, h5, by simp [putCells, h6], ?_⟩⟩
      have := take_put cur ⟨rowsOf nmrow (srtN ss)⟩ (by rw [hz, h6]; exact Nat.mul_le_mul_right 2 h4)
      rw [hz] at this
      exact this
    · exact tch_srt _
end Go.Proofs.YtpffldfpabglbaaGreatDoor
end

/- A region that draws its order, whose operations read, and whose callees may make new blocks: one walk of the text's order, in the class of the worlds that meet a condition. -/
section
namespace Go.Proofs.YtpffldfpabglbaaGreatDoor
open Go.RowKit

/-- A world that meets a condition. -/
structure Wd (S : World → Prop) : Type where
  w : World
  h : S w

theorem region_in {P : Program} {id : Nat} {Q : Exit → Act → World → Prop} {a : Act} {w : World} {l : List Oper} (S : World → Prop) (hm : P.follows .mixedOrders = true) (hB : Region.lexB .any l.toArray = true) (hS : S w.drew)
    (h : wpQuiet P l.toArray (fun w' => ∃ d : Wd S, w' = d.w) (fun a' => ∀ d : Wd S, Q .normal a' d.w) l a) : (Code.region id l.toArray true).wp P Q a w := by
  refine wp_region_quiet (C := fun w' => ∃ d : Wd S, w' = d.w) hm hB ⟨⟨w.drew, hS⟩, rfl⟩ ?_
  have e : (fun a' => ∀ w', (∃ d : Wd S, w' = d.w) → Q .normal a' w') = (fun a' => ∀ d : Wd S, Q .normal a' d.w) := by
    funext a'
    exact propext ⟨fun H d => H _ ⟨d, rfl⟩, fun H _ ⟨d, hd⟩ => hd ▸ H d⟩
  rw [e]
  simpa using h

/-- A callee that returns one value and makes at most new blocks, where the condition lasts through new blocks. -/
theorem quietN {P : Program} {f : FuncId} {args : Array Value} {S : World → Prop} (hS : ∀ a b, S a → Nw a b → S b) {d : Wd S} {v : Value}
    (h : Calls P f args d.w fun e w' => e = .returned v ∧ Nw d.w w') : Calls P f args d.w fun e w'' => e = .returned v ∧ ∃ d' : Wd S, w'' = d'.w :=
  h.mono fun _ w'' ⟨he, hg⟩ => ⟨he, ⟨w'', hS _ _ d.h hg⟩, rfl⟩
end Go.Proofs.YtpffldfpabglbaaGreatDoor
end

/- Rows of int of the call's own; make([]int, n), append of one, Same[int], Pick. -/
section
namespace Go.Proofs.YtpffldfpabglbaaGreatDoor
open Go.RowKit

abbrev IS (w : World) (v : Value) (l : List Int) : Prop := w.ownsRow 0 3 1 v l.length (l.map (Value.int .i64))
theorem IS.form {w : World} {v : Value} {l : List Int} (h : IS w v l) : (v = .slice none 0 0 ∧ l = []) ∨ ∃ g cap, v = .slice (some ⟨g, 0, none⟩) l.length cap := by
  rcases h.2 with ⟨rfl, h0⟩ | ⟨g, cap, cur, rfl, _⟩
  · exact .inl ⟨rfl, List.length_eq_zero_iff.1 h0⟩
  · exact .inr ⟨g, cap, rfl⟩
theorem IS.tch {S : Nat → Prop} {w w' : World} {v : Value} {l : List Int} (h : IS w v l) (k : Tch S w w') (hn : ∀ g, v.ownBlock = some g → ¬ S g) : IS w' v l := by
  refine ⟨h.1, ?_⟩
  rcases h.2 with h0 | ⟨g, cap, cur, rfl, hb, hg, rest⟩
  · exact .inl h0
  · exact .inr ⟨g, cap, cur, rfl, hb, (k.block g (Array.getElem?_eq_some_iff.1 hg).1 (hn g rfl)).trans hg, rest⟩
theorem IS.nw {w w' : World} {v : Value} {l : List Int} (h : IS w v l) (k : Nw w w') : IS w' v l := h.tch (Tch.nw (S := fun _ => False) k) (fun _ _ e => e)
theorem IS.nil (w : World) : IS w (.slice none 0 0) [] := World.ownsRow_nil _ _ _ _
theorem IS.nlen {w : World} {g cap n : Nat} {l : List Int} (h : IS w (.slice (some ⟨g, 0, none⟩) n cap) l) : n = l.length := by
  rcases h.2 with ⟨h', _⟩ | ⟨g', cap', cur, h', _⟩
  · simp at h'
  · simp only [Value.slice.injEq] at h'
    exact h'.2.1
theorem IS.cell {w : World} {g cap n : Nat} {l : List Int} (h : IS w (.slice (some ⟨g, 0, none⟩) n cap) l) (i : Nat) (hi : i < l.length) : w.cell? ⟨g, i, none⟩ = some (.int .i64 (l.getD i 0)) := by
  have e := h.nlen
  subst e
  exact (World.ownsRow.cellAt h i (by omega)).trans (by simp [List.getD, hi])
theorem IS.frozen {w : World} {g cap n : Nat} {l : List Int} (h : IS w (.slice (some ⟨g, 0, none⟩) n cap) l) (j : Nat) : w.frozen? ⟨g, j, none⟩ = false := by
  have e := h.nlen
  subst e
  exact World.ownsRow.frozenAt h j
theorem IS.lt {w : World} {v : Value} {l : List Int} (h : IS w v l) {k : Nat} (hk : v.ownBlock = some k) : k < w.heap.size := (World.ownsRow.lt h k hk).2
theorem IS.glt {w : World} {g cap n : Nat} {l : List Int} (h : IS w (.slice (some ⟨g, 0, none⟩) n cap) l) : g < w.heap.size := h.lt rfl
theorem IS.len {w : World} {v : Value} {l : List Int} (h : IS w v l) : l.length ≤ maxLen := by
  rcases h.2 with ⟨rfl, h0⟩ | ⟨g', cap', cur, h', _, _, h1, h2, _⟩
  · rw [h0]; exact Nat.zero_le _
  · exact Nat.le_trans h1 h2
theorem IS.set {w : World} {g cap n : Nat} {l : List Int} (h : IS w (.slice (some ⟨g, 0, none⟩) n cap) l) (i : Nat) (x : Int) : IS (w.setCell ⟨g, i, none⟩ (.int .i64 x)) (.slice (some ⟨g, 0, none⟩) n cap) (l.set i x) := by
  have e := h.nlen
  subst e
  have h1 := (World.ownsRow.stored h i (.int .i64 x)).1
  unfold IS
  rw [List.length_set, List.map_set]
  exact h1
theorem IS.box {w : World} {v : Value} {l : List Int} (h : IS w v l) : ∃ ao cap, v = .slice ao l.length cap ∧ (0 < l.length → ∃ g, ao = some ⟨g, 0, none⟩ ∧ v.ownBlock = some g) := by
  rcases h.form with ⟨rfl, rfl⟩ | ⟨g, cap, rfl⟩
  · exact ⟨none, 0, rfl, fun h => by simp at h⟩
  · exact ⟨_, cap, rfl, fun _ => ⟨g, rfl, rfl⟩⟩
theorem infoI : (Tryz.prog.info? 3).map (fun i => (i.zero, i.size, i.bytes)) = some (some (.int .i64 0), 1, 8) := by kernel_rfl
theorem IS.push (w : World) (v : Value) (l : List Int) (x : Int) (h : IS w v l) (hsm : l.length ≤ 100000) :
    ∃ v' w1, (Builtin.append_ #[60, 60] 60 #[v, .slice (some ⟨w.heap.size, 0, none⟩) 1 1]).run Tryz.prog (w.alloc (.cells #[.int .i64 x] 3)) = .ok v' w1 ∧ IS w1 v' (l ++ [x]) ∧ Tch (fun k => v.ownBlock = some k) w w1 ∧
      (∀ k, v'.ownBlock = some k → v.ownBlock = some k ∨ w.heap.size ≤ k) ∧ (∃ g cap, v' = .slice (some ⟨g, 0, none⟩) (l.length + 1) cap) := by
  obtain ⟨i0, hi, hz0, hz1, hz2⟩ := info_parts infoI
  have ha : IS (w.alloc (.cells #[.int .i64 x] 3)) v l := h.nw ((Nw.refl w).alloc _)
  have hc : (w.alloc (.cells #[.int .i64 x] 3)).cell? ⟨w.heap.size, 0, none⟩ = some (.int .i64 x) := by simp [go_sem]
  obtain ⟨v', w1, hrun, ho, hg, hp⟩ := run_append_fresh (P := Tryz.prog) (w.alloc (.cells #[.int .i64 x] 3)) 0 60 60 3 i0 _ 1 8 Tryz.underlying60 hi hz0 hz1 hz2 rfl (by decide) v l.length _ ha
    ⟨w.heap.size, 0, none⟩ 1 1 [.int .i64 x] rfl (by
      intro j u hu
      match j, hu with
      | 0, hu => simp at hu; subst hu; exact hc) (by simp [Value.oneCell']) (by unfold maxLen; omega) (by omega) (Nat.zero_le _)
  have hI : IS w1 v' (l ++ [x]) := by
    unfold IS
    rw [List.length_append, List.map_append]
    exact ho
  refine ⟨v', w1, hrun, hI, (Tch.alloc (Tch.refl _ w) _).grown hg (fun k e => .inl e), fun k e => ?_, ?_⟩
  · rcases hp with hp | hp
    · exact .inl (hp ▸ e)
    · rw [hp] at e
      simp at e
      exact .inr (by omega)
  · rcases hI.form with ⟨_, q⟩ | ⟨g, cap, rfl⟩
    · simp at q
    · exact ⟨g, cap, by simp⟩
end Go.Proofs.YtpffldfpabglbaaGreatDoor
end

/- Numbers in a row of the call's own, as a heap has them: Len, Less, Swap, and how they are reached through the interface value. -/
section
namespace Go.Proofs.YtpffldfpabglbaaGreatDoor
open Go.RowKit Go.Shelf

/-- The block g holds the numbers, with room for cap. -/
abbrev ITRow (w : World) (g cap : Nat) (l : List Int) : Prop := IS w (.slice (some ⟨g, 0, none⟩) l.length cap) l
theorem itcells {w : World} {g cap : Nat} {l : List Int} (h : ITRow w g cap l) (i : Nat) (hi : i < l.length) : w.cell? ⟨g, i, none⟩ = some (.int .i64 (iat l i)) := IS.cell h i hi
theorem itcap_le {w : World} {g cap : Nat} {l : List Int} (h : ITRow w g cap l) : l.length ≤ cap ∧ cap ≤ maxLen := by
  rcases h.2 with ⟨h', _⟩ | ⟨g', cap', cur, h', _, _, h1, h2, _⟩
  · simp at h'
  · simp only [Value.slice.injEq] at h'
    obtain ⟨_, _, rfl⟩ := h'
    exact ⟨h1, h2⟩
theorem itkept {w w' : World} {g cap : Nat} {l : List Int} (h : ITRow w g cap l) (e : w'.heap[g]? = w.heap[g]?) : ITRow w' g cap l := by
  refine ⟨h.1, ?_⟩
  rcases h.2 with ⟨h', _⟩ | ⟨g', cap', cur, h', hb, hg, rest⟩
  · simp at h'
  · have h2 := h'
    simp only [Value.slice.injEq, Option.some.injEq, Addr.mk.injEq, and_true, true_and] at h2
    obtain ⟨rfl, rfl⟩ := h2
    exact .inr ⟨g, cap, cur, h', hb, e.trans hg, rest⟩
theorem itset {w : World} {g cap : Nat} {l : List Int} (h : ITRow w g cap l) (i : Nat) (x : Int) : ITRow (w.setCell ⟨g, i, none⟩ (.int .i64 x)) g cap (l.set i x) := by
  have := IS.set h i x
  unfold ITRow
  rw [List.length_set]
  exact this
theorem ittch {S : Nat → Prop} {w w' : World} {g cap : Nat} {l : List Int} (h : ITRow w g cap l) (k : Tch S w w') (hn : ¬ S g) : ITRow w' g cap l := itkept h (k.block g (IS.glt h) hn)

theorem ilen_any (a : Option Addr) (n c : Nat) (w : World) : Calls Tryz.prog 124 #[.slice a n c] w fun e w' => e = .returned (.int .i64 n) ∧ w = w' := by
  go_enter Tryz.func124, Tryz.ntmps124
  go_wp2
  go_ret
  exact ⟨rfl, rfl⟩
theorem iless_any (g cap : Nat) (l : List Int) (i j : Nat) (hi : i < l.length) (hj : j < l.length) (w : World) (h : ITRow w g cap l) :
    Calls Tryz.prog 281 #[.slice (some ⟨g, 0, none⟩) l.length cap, .int .i64 i, .int .i64 j] w fun e w' => e = .returned (.bool (itlt (iat l i) (iat l j))) ∧ Nw w w' := by
  have hm := Nat.le_trans (itcap_le h).1 (itcap_le h).2
  unfold maxLen at hm
  have a0 := itcells h i hi
  have b0 := itcells h j hj
  generalize l.length = N at *
  unfold itlt
  generalize iat l i = A at *
  generalize iat l j = B at *
  clear h
  go_enter Tryz.func281, Tryz.ntmps281
  go_wp2
  go_quiet (fail)
  go_wp2
  go_ret
  exact ⟨rfl, (Nw.refl w).drewN _⟩
theorem itwo (w : World) (g a b : Nat) (va vb : Value) : Tch (fun k => k = g) w ((w.setCell ⟨g, a, none⟩ va).setCell ⟨g, b, none⟩ vb).drew :=
  Tch.drew (Tch.set (p := ⟨g, b, none⟩) (Tch.set (p := ⟨g, a, none⟩) (Tch.refl (fun k => k = g) w) (.inl rfl) va) (.inl rfl) vb)
set_option maxHeartbeats 1000000 in
theorem iswap_any (g cap : Nat) (l : List Int) (i j : Nat) (hi : i < l.length) (hj : j < l.length) (w : World) (h : ITRow w g cap l) :
    Calls Tryz.prog 283 #[.slice (some ⟨g, 0, none⟩) l.length cap, .int .i64 i, .int .i64 j] w fun e w' => e = .returned (.tuple #[]) ∧ ITRow w' g cap (iswp l i j) ∧ Tch (fun k => k = g) w w' := by
  have hm := Nat.le_trans (itcap_le h).1 (itcap_le h).2
  unfold maxLen at hm
  have a0 := itcells h i hi
  have b0 := itcells h j hj
  have hg := IS.glt h
  have fz := IS.frozen h
  have HR : Hid (ITRow ((w.setCell ⟨g, i, none⟩ (.int .i64 (iat l j))).setCell ⟨g, j, none⟩ (.int .i64 (iat l i))) g cap (iswp l i j)) := itset (itset h i (iat l j)) j (iat l i)
  generalize l.length = N at *
  generalize iat l i = A at *
  generalize iat l j = B at *
  clear h
  by_cases e : i = j
  · subst e
    obtain rfl : A = B := by rw [a0] at b0; simpa using b0
    go_enter Tryz.func283, Tryz.ntmps283
    go_wp2
    go_region
    go_wp2
    go_end0
    exact ⟨rfl, itkept HR.out rfl, itwo _ _ _ _ _ _⟩
  · have e' : ¬ j = i := fun q => e q.symm
    go_enter Tryz.func283, Tryz.ntmps283
    go_wp2
    go_region
    go_wp2
    go_end0
    exact ⟨rfl, itkept HR.out rfl, itwo _ _ _ _ _ _⟩

/-! ### The methods through the interface value -/
theorem imt_len : ((Tryz.prog.info? 133).map fun i => ((i.methods.find? (·.name == "Len")).map fun m => (m.path, m.func))) = some (some (#[⟨129, 0, true⟩], some (124, false))) := by kernel_rfl
theorem imt_less : ((Tryz.prog.info? 133).map fun i => ((i.methods.find? (·.name == "Less")).map fun m => (m.path, m.func))) = some (some (#[⟨129, 0, true⟩], some (281, false))) := by kernel_rfl
theorem imt_swap : ((Tryz.prog.info? 133).map fun i => ((i.methods.find? (·.name == "Swap")).map fun m => (m.path, m.func))) = some (some (#[⟨129, 0, true⟩], some (283, false))) := by kernel_rfl
theorem imt_push : ((Tryz.prog.info? 133).map fun i => ((i.methods.find? (·.name == "Push")).map fun m => (m.path, m.func))) = some (some (#[], some (285, true))) := by kernel_rfl
theorem imt_pop : ((Tryz.prog.info? 133).map fun i => ((i.methods.find? (·.name == "Pop")).map fun m => (m.path, m.func))) = some (some (#[], some (284, true))) := by kernel_rfl
theorem imeth_val (name : String) (f : Nat) (h : ((Tryz.prog.info? 133).map fun i => ((i.methods.find? (·.name == name)).map fun m => (m.path, m.func))) = some (some (#[⟨129, 0, true⟩], some (f, false))))
    (w : World) (b o : Nat) (v : Value) (hc : w.cell? ⟨b, o, none⟩ = some v) (n : Nat) : Sem.run Tryz.prog (method (n + 1) 133 (.pointer (some ⟨b, o, none⟩)) name) w = .ok (f, v) w := by
  obtain ⟨i, hi, h⟩ := Option.map_eq_some_iff.1 h
  obtain ⟨m, hm, h⟩ := Option.map_eq_some_iff.1 h
  simp only [Prod.mk.injEq] at h
  obtain ⟨hp, hf⟩ := h
  have hu := Tryz.underlying133
  have hu2 := Tryz.underlying129
  have hu3 := Tryz.underlying127
  simp [method, typeInfo, hi, hm, hp, hf, follow, receiverAt, Place.get, fieldPlace, go_sem, hc]
theorem imeth_ptr (name : String) (f : Nat) (h : ((Tryz.prog.info? 133).map fun i => ((i.methods.find? (·.name == name)).map fun m => (m.path, m.func))) = some (some (#[], some (f, true))))
    (w : World) (v : Value) (n : Nat) : Sem.run Tryz.prog (method (n + 1) 133 v name) w = .ok (f, v) w := by
  obtain ⟨i, hi, h⟩ := Option.map_eq_some_iff.1 h
  obtain ⟨m, hm, h⟩ := Option.map_eq_some_iff.1 h
  simp only [Prod.mk.injEq] at h
  obtain ⟨hp, hf⟩ := h
  have hu := Tryz.underlying133
  simp [method, typeInfo, hi, hm, hp, hf, follow, receiverAt, Place.get, go_sem]
theorem im_len (w : World) (b o : Nat) (v : Value) (hc : w.cell? ⟨b, o, none⟩ = some v) : ∀ n, Sem.run Tryz.prog (method (n + 1) 133 (.pointer (some ⟨b, o, none⟩)) "Len") w = .ok (124, v) w := imeth_val _ _ imt_len w b o v hc
theorem im_less (w : World) (b o : Nat) (v : Value) (hc : w.cell? ⟨b, o, none⟩ = some v) : ∀ n, Sem.run Tryz.prog (method (n + 1) 133 (.pointer (some ⟨b, o, none⟩)) "Less") w = .ok (281, v) w := imeth_val _ _ imt_less w b o v hc
theorem im_swap (w : World) (b o : Nat) (v : Value) (hc : w.cell? ⟨b, o, none⟩ = some v) : ∀ n, Sem.run Tryz.prog (method (n + 1) 133 (.pointer (some ⟨b, o, none⟩)) "Swap") w = .ok (283, v) w := imeth_val _ _ imt_swap w b o v hc
theorem im_push (w : World) (v : Value) : ∀ n, Sem.run Tryz.prog (method (n + 1) 133 v "Push") w = .ok (285, v) w := imeth_ptr _ _ imt_push w v
theorem im_pop (w : World) (v : Value) : ∀ n, Sem.run Tryz.prog (method (n + 1) 133 v "Pop") w = .ok (284, v) w := imeth_ptr _ _ imt_pop w v
theorem ie_len : ∀ args w, (callFunc 124 args).run Tryz.prog w = .ok (.enter 124 args) w := enters_of Tryz.func124 (by kernel_rfl) rfl
theorem ie_less : ∀ args w, (callFunc 281 args).run Tryz.prog w = .ok (.enter 281 args) w := enters_of Tryz.func281 (by kernel_rfl) rfl
theorem ie_swap : ∀ args w, (callFunc 283 args).run Tryz.prog w = .ok (.enter 283 args) w := enters_of Tryz.func283 (by kernel_rfl) rfl
theorem ie_push : ∀ args w, (callFunc 285 args).run Tryz.prog w = .ok (.enter 285 args) w := enters_of Tryz.func285 (by kernel_rfl) rfl
theorem ie_pop : ∀ args w, (callFunc 284 args).run Tryz.prog w = .ok (.enter 284 args) w := enters_of Tryz.func284 (by kernel_rfl) rfl
end Go.Proofs.YtpffldfpabglbaaGreatDoor
end

/- container/heap's up and down, on a row of numbers behind a header. -/
section
namespace Go.Proofs.YtpffldfpabglbaaGreatDoor
open Go.RowKit Go.Shelf

/-- A heap of numbers in memory: the header's cell, and the row that it leads to. -/
structure IHpAt (w : World) (hb ho g cap : Nat) (l : List Int) : Prop where
  hd : w.cell? ⟨hb, ho, none⟩ = some (.slice (some ⟨g, 0, none⟩) l.length cap)
  hf : w.frozen? ⟨hb, ho, none⟩ = false
  row : ITRow w g cap l
  ne : hb ≠ g
theorem IHpAt.lt {w : World} {hb ho g cap : Nat} {l : List Int} (h : IHpAt w hb ho g cap l) : hb < w.heap.size := World.block_lt_of_cell? _ ⟨hb, ho, none⟩ h.hd
theorem IHpAt.nw {w w' : World} {hb ho g cap : Nat} {l : List Int} (h : IHpAt w hb ho g cap l) (k : Nw w w') : IHpAt w' hb ho g cap l :=
  ⟨(k.cell h.lt).trans h.hd, (World.frozen?_of_block (k.block hb h.lt)).trans h.hf, itkept h.row (k.block g (IS.glt h.row)), h.ne⟩
theorem IHpAt.tch {S : Nat → Prop} {w w' : World} {hb ho g cap : Nat} {l : List Int} (h : IHpAt w hb ho g cap l) (k : Tch S w w') (h1 : ¬ S hb) (h2 : ¬ S g) : IHpAt w' hb ho g cap l :=
  ⟨(k.cell h.lt h1).trans h.hd, (k.froz h.lt h1).trans h.hf, ittch h.row k h2, h.ne⟩
theorem IHpAt.turned {w w' : World} {hb ho g cap : Nat} {l l' : List Int} (h : IHpAt w hb ho g cap l) (k : Tch (fun k => k = g) w w') (r : ITRow w' g cap l') (hl : l'.length = l.length) : IHpAt w' hb ho g cap l' :=
  ⟨by rw [hl]; exact (k.cell h.lt h.ne).trans h.hd, (k.froz h.lt h.ne).trans h.hf, r, h.ne⟩

/-- The other cells of the header's block. -/
def ISide (hb ho : Nat) (w w' : World) : Prop := ∀ o, o ≠ ho → w'.cell? ⟨hb, o, none⟩ = w.cell? ⟨hb, o, none⟩ ∧ w'.frozen? ⟨hb, o, none⟩ = w.frozen? ⟨hb, o, none⟩
theorem ISide.refl (hb ho : Nat) (w : World) : ISide hb ho w w := fun _ _ => ⟨rfl, rfl⟩
theorem ISide.trans {hb ho : Nat} {a b c : World} (h : ISide hb ho a b) (k : ISide hb ho b c) : ISide hb ho a c := fun o e => ⟨(k o e).1.trans (h o e).1, (k o e).2.trans (h o e).2⟩
theorem ISide.tch {hb ho : Nat} {S : Nat → Prop} {a b : World} (h : Tch S a b) (hl : hb < a.heap.size) (hn : ¬ S hb) : ISide hb ho a b := fun _ _ => ⟨h.cell hl hn, h.froz hl hn⟩
theorem ISide.set {hb ho : Nat} (a : World) (v : Value) : ISide hb ho a (a.setCell ⟨hb, ho, none⟩ v) := fun o e => ⟨World.cell?_setCell_other _ _ _ _ (fun q => e (by simpa using q.symm)), by rw [World.frozen?_setCell]⟩
def IUpPost (w : World) (hb ho g cap n : Nat) (l : List Int) (w' : World) : Prop :=
  ∃ l' : List Int, l'.Perm l ∧ (∀ k, n ≤ k → iat l' k = iat l k) ∧ IHp (iat l') n ∧ IHpAt w' hb ho g cap l' ∧ Tch (fun k => k = g) w w'

theorem iat_swp_o (l : List Int) {i j k : Nat} (hi : i < l.length) (hj : j < l.length) (h : k ≠ i) (h' : k ≠ j) : iat (iswp l i j) k = iat l k := by rw [iat_swp l hi hj, isw_o _ h h']

set_option maxHeartbeats 1000000 in
theorem iup_any (hb ho g cap : Nat) (l : List Int) (n j : Nat) (hjn : j < n) (hn : n ≤ l.length) (w : World) (h : IHpAt w hb ho g cap l) (hex : IEx (iat l) n j) (hgr : IGr (iat l) n j) (hch : ICh (iat l) n j) :
    Calls Tryz.prog 134 #[.iface 133 (.pointer (some ⟨hb, ho, none⟩)), .int .i64 j] w fun e w' => e = .returned (.tuple #[]) ∧ IUpPost w hb ho g cap n l w' := by
  have hm := Nat.le_trans (itcap_le h.row).1 (itcap_le h.row).2
  unfold maxLen at hm
  have H0 := Lib.hid (And.intro h (And.intro hex (And.intro hgr hch)))
  clear h hex hgr hch
  have el := ie_less
  have es := ie_swap
  go_enter Tryz.func134, Tryz.ntmps134
  go_wp2
  go_loopw [1] (fun vj wr => ∃ (k : Nat) (l' : List Int), vj = .int .i64 k ∧ k < n ∧ l'.length = l.length ∧ Hid (l'.Perm l ∧ (∀ x, n ≤ x → iat l' x = iat l x) ∧ IEx (iat l') n k ∧ IGr (iat l') n k ∧ ICh (iat l') n k ∧ IHpAt wr hb ho g cap l' ∧ Tch (fun x => x = g) w wr)) (fun vj _ => (intOf vj).toNat)
  case atStart => exact ⟨j, l, rfl, hjn, rfl, .refl _, fun _ _ => rfl, H0.out.2.1, H0.out.2.2.1, H0.out.2.2.2, H0.out.1, Tch.refl _ _⟩
  case round =>
    obtain ⟨k, l', rfl, hk, hl, HR⟩ := hrel
    have hc := HR.out.2.2.2.2.2.1.hd
    rw [hl] at hc
    have mL := im_less wr _ _ _ hc
    rcases Nat.eq_zero_or_pos k with rfl | hk0
    · go_wp2
      go_end0
      exact ⟨rfl, l', HR.out.1, HR.out.2.1, IHp.of HR.out.2.2.1 HR.out.2.2.2.2.1 (fun h => absurd h (by omega)), HR.out.2.2.2.2.2⟩
    · obtain ⟨i, hi⟩ : ∃ i, (k - 1) / 2 = i := ⟨_, rfl⟩
      have hi' : ((k : Int) - 1) / 2 = (i : Int) := by omega
      have hik : ¬ i = k := by omega
      have hik' : ((i : Int) == (k : Int)) = false := by simp; omega
      have HL := iless_any g cap l' k i (by omega) (by omega) wr HR.out.2.2.2.2.2.1.row
      rw [hl, ← hi'] at HL
      have Hi' := Lib.hid hi'
      have Hi := Lib.hid hi
      clear hi'
      cases hlt : itlt (iat l' k) (iat l' i) with
      | true =>
        rw [hlt] at HL
        have Hlt := Lib.hid hlt
        clear hlt
        go_wp2_with fail
        refine HL.mono ?_
        rintro e w1 ⟨rfl, hg1⟩
        have h1 := HR.out.2.2.2.2.2.1.nw hg1
        have hc1 := h1.hd
        rw [hl] at hc1
        have mS := im_swap w1 _ _ _ hc1
        have HS := iswap_any g cap l' i k (by omega) (by omega) w1 h1.row
        rw [hl, ← Hi'.out] at HS
        have H1 := Lib.hid h1
        clear h1 mL
        go_wp2_with fail
        refine HS.mono ?_
        rintro e w2 ⟨rfl, hr2, ht2⟩
        have H2 := Lib.hid (H1.out.turned ht2 hr2 (iswp_len _ _ _))
        have T2 := Lib.hid (HR.out.2.2.2.2.2.2.trans ((Tch.nw (S := fun x => x = g) hg1).trans ht2))
        have U := Lib.hid (iup_step Hi.out hk0 hk HR.out.2.2.1 HR.out.2.2.2.1 HR.out.2.2.2.2.1 Hlt.out)
        clear hr2 ht2 mS hc hc1
        go_wp2
        go_roundw
        case rel =>
          have hs := iat_swp l' (i := i) (j := k) (by omega) (by omega)
          refine ⟨i, iswp l' i k, by rw [Hi'.out], by omega, by rw [iswp_len]; exact hl, (iswp_perm l' (by omega) (by omega)).trans HR.out.1, fun x hx => ?_, ?_, ?_, ?_, H2.out, T2.out⟩
          · rw [iat_swp_o l' (by omega) (by omega) (by omega) (by omega)]; exact HR.out.2.1 x hx
          · rw [hs]; exact U.out.1
          · rw [hs]; exact U.out.2.1
          · rw [hs]; exact U.out.2.2
        case measure => simp [intOf]; omega
      | false =>
        rw [hlt] at HL
        have Hlt := Lib.hid hlt
        clear hlt
        go_wp2_with fail
        refine HL.mono ?_
        rintro e w1 ⟨rfl, hg1⟩
        have H1 := Lib.hid (HR.out.2.2.2.2.2.1.nw hg1)
        have T1 := Lib.hid (HR.out.2.2.2.2.2.2.trans (Tch.nw hg1))
        clear mL hc
        go_wp2
        go_end0
        exact ⟨rfl, l', HR.out.1, HR.out.2.1, IHp.of HR.out.2.2.1 HR.out.2.2.2.2.1 (fun _ => by rw [Hi.out]; exact Hlt.out), H1.out, T1.out⟩
end Go.Proofs.YtpffldfpabglbaaGreatDoor
end
