
/- Rows of structs in memory, of whatever program and type: read, of the call's own, made, appended to, changed. Of no program. -/
import Derived.Test.YtmciiobncfchlaaTch
import Derived.Laws.OwnMore
import Derived.Lib.Hide
namespace Go.Proofs.Ytmciiobncfchlaa
open Go.RowKit
set_option linter.unusedVariables false      -- a law need not use every name

theorem Nw.kp {a b : World} (g : Nw a b) {k o : Nat} {v : Value} (h : a.cell? ⟨k, o, none⟩ = some v) : b.cell? ⟨k, o, none⟩ = some v :=
  (g.cell (World.block_lt_of_cell? _ _ h)).trans h
theorem Nw.dr {a b : World} (h : Nw a b) : Nw a b.drew := h.drewN 1
theorem Nw.dl {a b : World} (h : Nw a b) : Nw a.drew b := ⟨h.os, h.tape, h.output, h.size, h.block⟩
theorem Nw.at' {a b : World} (g : Nw a b) {k : Nat} {o : Obj} (h : a.heap[k]? = some o) : b.heap[k]? = some o := (g.block k (Array.getElem?_eq_some_iff.1 h).1).trans h
theorem allocAt (w : World) (o : Obj) : (w.alloc o).heap[w.heap.size]? = some o := by
  show (w.heap.push o)[w.heap.size]? = some o
  simp
theorem hcell {w : World} {B j : Nat} {c : Array Value} {T : TypeId} {fr : Nat × Nat} (hb : w.heap[B]? = some (.cells c T fr)) : w.cell? ⟨B, j, none⟩ = c[j]? := by simp [World.cell?, hb]
theorem hfz {w : World} {B j : Nat} {c : Array Value} {T : TypeId} (hb : w.heap[B]? = some (.cells c T (0, 0))) : w.frozen? ⟨B, j, none⟩ = false := by simp [World.frozen?, hb]
theorem hlt {w : World} {B : Nat} {o : Obj} (hb : w.heap[B]? = some o) : B < w.heap.size := (Array.getElem?_eq_some_iff.1 hb).1
theorem hset {w : World} {B j : Nat} {c : Array Value} {T : TypeId} {fr : Nat × Nat} (u : Value) (hb : w.heap[B]? = some (.cells c T fr)) : (w.setCell ⟨B, j, none⟩ u).heap[B]? = some (.cells (c.setIfInBounds j u) T fr) := by
  simp [World.setCell, Array.getElem?_modify, hb]
theorem sgrown (w : World) (p : Addr) (u : Value) : w.grownBy (w.setCell p u) (some p.block) :=
  ⟨rfl, rfl, rfl, by simp [World.setCell], fun k _ hk => Below.heap_setCell _ _ _ _ (fun q => hk (by rw [q]))⟩
/-- A world that grew at a block that is new. -/
theorem Nw.gro {w a b : World} {row : Option Nat} (h : Nw w a) (g : a.grownBy b row) (hB : ∀ k, row = some k → w.heap.size ≤ k) : Nw w b :=
  ⟨g.os.trans h.os, g.tape.trans h.tape, g.output.trans h.output, Nat.le_trans h.size g.size, fun j hj => (g.block j (Nat.lt_of_lt_of_le hj h.size) (fun q => by have := hB j q.symm; omega)).trans (h.block j hj)⟩
section
variable {w w' : World} {g0 e size n : Nat} {v : Value} {xs : List Value}
theorem okeep {row : Option Nat} (ho : w.ownsRow g0 e size v n xs) (hg : w.grownBy w' row) (hne : ∀ g, v.ownBlock = some g → row ≠ some g) : w'.ownsRow g0 e size v n xs := by
  cases hv : v.ownBlock with
  | none => exact ho.kept hg (.inl hv)
  | some g => exact ho.kept hg (.inr fun q => hne g hv (q ▸ hv))
theorem onw (ho : w.ownsRow g0 e size v n xs) (hg : Nw w w') : w'.ownsRow g0 e size v n xs := okeep ho (hg.grownBy none) (fun _ _ => by simp)
theorem oheap (ho : w.ownsRow g0 e size v n xs) {g : Nat} (hv : v.ownBlock = some g) : ∃ c, w.heap[g]? = some (.cells c e (0, 0)) := by
  rcases ho.2 with ⟨rfl, _⟩ | ⟨g', cap, cur, rfl, _, hh, _⟩
  · simp [Value.ownBlock] at hv
  · simp only [Value.ownBlock, Option.some.injEq] at hv
    subst hv
    exact ⟨cur, hh⟩
theorem olt (ho : w.ownsRow g0 e size v n xs) {g : Nat} (hv : v.ownBlock = some g) : g < w.heap.size := (World.ownsRow.lt ho g hv).2
theorem oge (ho : w.ownsRow g0 e size v n xs) {g : Nat} (hv : v.ownBlock = some g) : g0 ≤ g := (World.ownsRow.lt ho g hv).1
theorem oform (h : w.ownsRow g0 e size v n xs) : (v = .slice none 0 0 ∧ n = 0) ∨ ∃ g cap, v = .slice (some ⟨g, 0, none⟩) n cap := by
  rcases h.2 with q | ⟨g, cap, cur, rfl, _⟩
  · exact .inl q
  · exact .inr ⟨g, cap, rfl⟩
theorem olow (ho : w.ownsRow g0 e size v n xs) {g1 : Nat} (h : ∀ g, v.ownBlock = some g → g1 ≤ g) : w.ownsRow g1 e size v n xs := by
  refine ⟨ho.1, ?_⟩
  rcases ho.2 with q | ⟨g, cap, cur, rfl, hb, rest⟩
  · exact .inl q
  · exact .inr ⟨g, cap, cur, rfl, h g rfl, rest⟩
end

theorem Nw.st {w a : World} {p : Addr} (h : Nw w a) (hB : w.heap.size ≤ p.block) (u : Value) : Nw w (a.setCell p u) := h.gro (sgrown a p u) (fun k hk => by have := Option.some.inj hk; omega)
theorem own_st {w : World} {g0 e size n : Nat} {v : Value} {xs : List Value} {p : Addr} (h : w.ownsRow g0 e size v n xs) (hp : p.block < g0) (u : Value) : (w.setCell p u).ownsRow g0 e size v n xs :=
  okeep h (sgrown w p u) (fun g hg q => by have := oge h hg; have := Option.some.inj q; omega)

/-- What is known of an element's type: cells, bytes, its slice; and of a reader's rows. -/
structure Elem {α : Type} (P : Program) (ST T : TypeId) (sz bytes : Nat) (row : α → List Value) : Prop where
  und : P.underlying ST = some (.slice T)
  inf : ∃ i z, P.info? T = some i ∧ i.zero = some z ∧ i.size = sz ∧ i.bytes = bytes ∧ z.cells.size = sz
  pos : 0 < sz
  byt : bytes ≤ 800
  len : ∀ a, (row a).length = sz
  one : ∀ a, ∀ u ∈ row a, u.oneCell' = true
def rowsOf {α : Type} (row : α → List Value) (l : List α) : List Value := l.flatMap row
abbrev Own {α : Type} (T : TypeId) (sz : Nat) (row : α → List Value) (w : World) (g0 : Nat) (v : Value) (l : List α) : Prop := w.ownsRow g0 T sz v l.length (rowsOf row l)
/-- A slice that reads as a list: the cells of its rows. -/
structure RdC {α : Type} (sz : Nat) (row : α → List Value) (w : World) (b o : Nat) (l : List α) : Prop where
  lt : b < w.heap.size
  cell : ∀ i (h : i < l.length) c u, (row l[i])[c]? = some u → w.cell? ⟨b, o + i * sz + c, none⟩ = some u
def Rd {α : Type} (sz : Nat) (row : α → List Value) (w : World) (v : Value) (l : List α) : Prop := ∃ a c, v = .slice a l.length c ∧ (l = [] ∧ (a = none → c = 0) ∨ ∃ b o, a = some ⟨b, o, none⟩ ∧ RdC sz row w b o l)
section
variable {α : Type} {sz : Nat} {row : α → List Value} {w w' : World} {b o : Nat} {l : List α} {v : Value}
theorem RdC.nw (h : RdC sz row w b o l) (g : Nw w w') : RdC sz row w' b o l := ⟨Nat.lt_of_lt_of_le h.lt g.sz, fun i hi c u hu => (g.cell h.lt).trans (h.cell i hi c u hu)⟩
theorem Rd.nw (h : Rd sz row w v l) (g : Nw w w') : Rd sz row w' v l := by
  obtain ⟨a, c, rfl, h | ⟨b, o, rfl, h⟩⟩ := h
  · exact ⟨a, c, rfl, .inl h⟩
  · exact ⟨_, c, rfl, .inr ⟨b, o, rfl, h.nw g⟩⟩
theorem Rd.nil (w : World) : Rd sz row w (.slice none 0 0) [] := ⟨none, 0, rfl, .inl ⟨rfl, fun _ => rfl⟩⟩
theorem Rd.form (h : Rd sz row w v l) : ∃ a c, v = .slice a l.length c := by
  obtain ⟨a, c, rfl, _⟩ := h
  exact ⟨a, c, rfl⟩
theorem rows_len (hl : ∀ a, (row a).length = sz) : ∀ l : List α, (rowsOf row l).length = l.length * sz
  | [] => by simp [rowsOf]
  | s :: r => by
    show (row s ++ rowsOf row r).length = _
    rw [List.length_append, rows_len hl r, hl, List.length_cons, Nat.add_mul, Nat.one_mul, Nat.add_comm]
theorem rows_at' (hl : ∀ a, (row a).length = sz) : ∀ (l : List α) (j c : Nat) (hj : j < l.length), c < sz → (rowsOf row l)[j * sz + c]? = (row l[j])[c]?
  | s :: r, 0, c, _, hc => by
    show (row s ++ rowsOf row r)[0 * sz + c]? = _
    rw [List.getElem?_append_left (by rw [hl]; simpa using hc)]
    simp
  | s :: r, j + 1, c, hj, hc => by
    have hj' : j < r.length := by simpa using hj
    show (row s ++ rowsOf row r)[(j + 1) * sz + c]? = _
    rw [Nat.add_mul, Nat.one_mul, List.getElem?_append_right (by rw [hl]; omega), hl, show j * sz + sz + c - sz = j * sz + c by omega, rows_at' hl r j c hj' hc]
    rfl
theorem rows_app (a b : List α) : rowsOf row (a ++ b) = rowsOf row a ++ rowsOf row b := by simp [rowsOf]
/-- A block of rows can be read. -/
theorem rd_block (hl : ∀ a, (row a).length = sz) {B : Nat} {T : TypeId} {fr : Nat × Nat} (h : w.heap[B]? = some (.cells ⟨rowsOf row l⟩ T fr)) (c : Nat) : Rd sz row w (.slice (some ⟨B, 0, none⟩) l.length c) l := by
  refine ⟨_, c, rfl, .inr ⟨B, 0, rfl, hlt h, fun i hi c u hu => ?_⟩⟩
  have hc : c < sz := by have := (List.getElem?_eq_some_iff.1 hu).1; rwa [hl] at this
  rw [Nat.zero_add, hcell h, ← Array.getElem?_toList]
  show (rowsOf row l)[i * sz + c]? = _
  rw [rows_at' hl l i c hi hc]; exact hu
theorem Own.rd {T g0 : Nat} (hl : ∀ a, (row a).length = sz) (h : Own T sz row w g0 v l) : Rd sz row w v l := by
  rcases oform h with ⟨rfl, q⟩ | ⟨g, cap, rfl⟩
  · exact ⟨none, 0, by rw [q], .inl ⟨List.length_eq_zero_iff.1 q, fun _ => rfl⟩⟩
  · refine ⟨_, cap, rfl, .inr ⟨g, 0, rfl, olt h rfl, fun i hi c u hu => ?_⟩⟩
    have hc : c < sz := by have := (List.getElem?_eq_some_iff.1 hu).1; rwa [hl] at this
    rw [Nat.zero_add]
    have hb : i * sz + c < l.length * sz := by
      have : (i + 1) * sz ≤ l.length * sz := Nat.mul_le_mul_right _ hi
      rw [Nat.add_mul, Nat.one_mul] at this
      omega
    refine (World.ownsRow.cellAt h (i * sz + c) hb).trans ?_
    rw [rows_at' hl l i c hi hc]; exact hu
/-- The cells behind an address, as an append reads them. -/
theorem RdC.flat (hl : ∀ a, (row a).length = sz) (hz : 0 < sz) (h : RdC sz row w b o l) : ∀ j u, (rowsOf row l)[j]? = some u → w.cell? ((⟨b, o, none⟩ : Addr).add j) = some u := by
  intro j u hu
  have hj := (List.getElem?_eq_some_iff.1 hu).1
  rw [rows_len hl] at hj
  have hq : j / sz < l.length := Nat.div_lt_of_lt_mul (by rwa [Nat.mul_comm])
  have hm : j % sz < sz := Nat.mod_lt _ hz
  have e : j = j / sz * sz + j % sz := by rw [Nat.mul_comm]; exact (Nat.div_add_mod j sz).symm
  rw [e, rows_at' hl _ _ _ hq hm] at hu
  have := h.cell _ hq _ u hu
  rw [Addr.add_lit]
  rwa [Nat.add_assoc, ← e] at this
/-- A part of a slice. -/
theorem RdC.part (h : RdC sz row w b o l) (i m : Nat) : RdC sz row w b (o + i * sz) ((l.drop i).take m) := ⟨h.lt, fun k hk c u hu => by
    simp only [List.length_take, List.length_drop] at hk
    simp only [List.getElem_take, List.getElem_drop] at hu
    have := h.cell (i + k) (by omega) c u hu
    rw [Nat.add_mul] at this
    rwa [show o + i * sz + k * sz + c = o + (i * sz + k * sz) + c by omega]⟩
end

section
variable {α : Type} {P : Program} {ST T : TypeId} {sz bytes : Nat} {row : α → List Value}
theorem Elem.oneAll (E : Elem P ST T sz bytes row) (l : List α) : ∀ u ∈ rowsOf row l, u.oneCell' = true := by
  intro u hu
  obtain ⟨a, _, hu⟩ := List.mem_flatMap.1 hu
  exact E.one a u hu
/-- Append of a slice that reads as a list, to a row of the call's own. -/
theorem Own.many (E : Elem P ST T sz bytes row) {w : World} {g0 : Nat} {v : Value} {l : List α} (h : Own T sz row w g0 v l) (sg : List α) (a : Addr) (c : Nat) (hc : ∀ j u, (rowsOf row sg)[j]? = some u → w.cell? (a.add j) = some u) (hsm : l.length + sg.length ≤ 100000) (hg0 : g0 ≤ w.heap.size) :
    ∃ v' w1, (Builtin.append_ #[ST, ST] ST #[v, .slice (some a) sg.length c]).run P w = .ok v' w1 ∧ Own T sz row w1 g0 v' (l ++ sg) ∧ w.grownBy w1 v.ownBlock ∧ (v'.ownBlock = v.ownBlock ∨ v'.ownBlock = some w.heap.size) := by
  obtain ⟨i0, z, hi, hz0, hz1, hz2, hz3⟩ := E.inf
  have hb := E.byt
  obtain ⟨v', w1, hrun, ho, hg, hp⟩ := run_append_fresh (P := P) w g0 ST ST T i0 z sz bytes E.und hi hz0 hz1 hz2 hz3 E.pos v l.length _ h
    a sg.length c (rowsOf row sg) (rows_len E.len sg) hc (E.oneAll sg) (by unfold maxLen; omega) (Nat.le_trans (Nat.mul_le_mul hsm hb) (by omega)) hg0
  refine ⟨v', w1, hrun, ?_, hg, hp⟩
  unfold Own
  rw [List.length_append, rows_app]
  exact ho
/-- Append of one that lies in a box. -/
theorem Own.push (E : Elem P ST T sz bytes row) {w : World} {g0 : Nat} {v : Value} {l : List α} (h : Own T sz row w g0 v l) (x : α) (b : Nat) (c : Nat) (hx : ∀ j u, (row x)[j]? = some u → w.cell? ⟨b, j, none⟩ = some u) (hsm : l.length < 100000) (hg0 : g0 ≤ w.heap.size) :
    ∃ v' w1, (Builtin.append_ #[ST, ST] ST #[v, .slice (some ⟨b, 0, none⟩) 1 c]).run P w = .ok v' w1 ∧ Own T sz row w1 g0 v' (l ++ [x]) ∧ w.grownBy w1 v.ownBlock ∧ (v'.ownBlock = v.ownBlock ∨ v'.ownBlock = some w.heap.size) ∧ ∃ g cap, v' = .slice (some ⟨g, 0, none⟩) (l.length + 1) cap := by
  obtain ⟨v', w1, h1, h2, h3, h4⟩ := Own.many E h [x] ⟨b, 0, none⟩ c (fun j u hu => by
    rw [Addr.add_lit, Nat.zero_add]
    exact hx j u (by simpa [rowsOf] using hu)) (by rw [List.length_singleton]; omega) hg0
  refine ⟨v', w1, h1, h2, h3, h4, ?_⟩
  rcases oform h2 with ⟨_, q⟩ | ⟨g, cap, rfl⟩
  · simp at q
  · exact ⟨g, cap, by simp⟩
/-- An empty row in a new block. -/
theorem own_empty (w : World) : (w.alloc (.cells #[] T)).ownsRow w.heap.size T sz (.slice (some ⟨w.heap.size, 0, none⟩) 0 0) 0 [] := World.ownsRow_lit w #[] 0 (Nat.le_refl _) (Nat.zero_le _) (by simp)
theorem own_lit (E : Elem P ST T sz bytes row) (w : World) (l : List α) (hl : l.length ≤ 100000) : Own T sz row (w.alloc (.cells ⟨rowsOf row l⟩ T)) w.heap.size (.slice (some ⟨w.heap.size, 0, none⟩) l.length l.length) l := by
  have := World.ownsRow_lit (base := w.heap.size) (size := sz) (e := T) w ⟨rowsOf row l⟩ l.length (Nat.le_refl _) (by unfold maxLen; omega) (by simpa using rows_len E.len l)
  simpa [Own] using this
/-- append([]T{}, l...): the empty row's append of a slice that reads as a list. -/
theorem own_clone (E : Elem P ST T sz bytes row) {w : World} {v : Value} {l : List α} (h : Rd sz row w v l) (hsm : l.length ≤ 100000) :
    ∃ v' w1, (Builtin.append_ #[ST, ST] ST #[.slice (some ⟨w.heap.size, 0, none⟩) 0 0, v]).run P (w.alloc (.cells #[] T)) = .ok v' w1 ∧ Own T sz row w1 w.heap.size v' l ∧ Nw w w1 := by
  have he := own_empty (T := T) (sz := sz) w
  have hN : Nw w (w.alloc (.cells #[] T)) := (Nw.refl w).alloc _
  have hE : Own T sz row (w.alloc (.cells #[] T)) w.heap.size (.slice (some ⟨w.heap.size, 0, none⟩) 0 0) ([] : List α) := he
  obtain ⟨a, c, rfl, ⟨rfl, h0⟩ | ⟨b, o, rfl, hc⟩⟩ := h
  · cases a with
    | none =>
      obtain rfl := h0 rfl
      obtain ⟨i0, z, hi, hz0, hz1, hz2, hz3⟩ := E.inf
      exact ⟨_, _, run_append_owned_none (P := P) (w.alloc (.cells #[] T)) w.heap.size ST ST T i0 sz E.und hi _ 0 [] he, hE, hN⟩
    | some ad =>
      obtain ⟨v', w1, h1, h2, h3, _⟩ := Own.many E hE [] ad c (fun j u hu => by simp [rowsOf] at hu) (by simp) hN.sz
      exact ⟨v', w1, h1, h2, hN.gro h3 (fun k hk => Nat.le_of_eq (Option.some.inj hk))⟩
  · obtain ⟨v', w1, h1, h2, h3, _⟩ := Own.many E hE l ⟨b, o, none⟩ c ((hc.nw hN).flat E.len E.pos) (by simpa using hsm) hN.sz
    exact ⟨v', w1, h1, by simpa using h2, hN.gro h3 (fun k hk => Nat.le_of_eq (Option.some.inj hk))⟩
end
/-- An append by the equation of its run: in a list of operations, and in a plan. -/
theorem wpl_app {P : Program} {w : World} {ops : Array Oper} {rest : List Oper} {o : Oper} {a : Act} {Q : Exit → Act → World → Prop}
    (hgd : Region.wanted o (yielded ops a.tmps) = true) (s x : Operand) (t : TypeId) (hop : o.op = Op.call { callee := Callee.builtin Builtin.append, args := #[s, x], argTypes := #[t, t] })
    (v u v' : Value) (w' : World) (hs : a.eval s = v) (hx : a.eval x = u) (hr : (Builtin.append_ #[t, t] o.type #[v, u]).run P w = .ok v' w') (h : wpList P ops Q rest (a.put o.dst v') w') : wpList P ops Q (o :: rest) a w := by
  refine wpList_step fun _ hK => ?_
  rw [if_pos hgd]
  unfold Oper.wp execOp
  simp only [hop, resolve, invoke, builtin, Sem.run_bind, Sem.run_pure, Result.andThen_ok, List.map_toArray, List.map_cons, List.map_nil, hs, hx, hr]
  exact hK _ _ h
theorem stp_app {P : Program} {ops : Array Oper} {o : Oper} {a : Act} {w : World} {K : Act → World → Prop} {Q : Exit → Act → World → Prop} {E : Prop} (hgd : Region.wanted o (yielded ops a.tmps) = true) (s x : Operand) (t : TypeId)
    (ho : o.op = .call { callee := .builtin .append, args := #[s, x], argTypes := #[t, t] }) (v u v' : Value) (w' : World) (hs : a.eval s = v) (hx : a.eval x = u) (hr : (Builtin.append_ #[t, t] o.type #[v, u]).run P w = .ok v' w')
    (h : K (a.put o.dst v') w') : if Region.wanted o (yielded ops a.tmps) = true then Oper.wp P o a w K Q else E := by
  rw [if_pos hgd]
  unfold Oper.wp execOp
  simp only [ho, resolve, invoke, builtin, Sem.run_bind, Sem.run_pure, Result.andThen_ok, List.map_toArray, List.map_cons, List.map_nil, hs, hx, hr]
  exact h
end Go.Proofs.Ytmciiobncfchlaa
