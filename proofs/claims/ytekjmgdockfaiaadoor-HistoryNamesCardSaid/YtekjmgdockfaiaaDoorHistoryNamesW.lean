
/- HistoryNames: the walk. -/
import Derived.Test.YtekjmgdockfaiaaDoorHsTI
import Derived.Test.YtekjmgdockfaiaaDoorOrdP
namespace Go.Proofs.YtekjmgdockfaiaaDoor.historyNames
open Go.ChangeShapes Go.WideShapes Go.ChangeAt Go.RowKit
set_option linter.unusedVariables false      -- a walk need not use every fact

theorem app_step {P : Program} {ops : Array Oper} {o : Oper} {a : Act} {w : World} {K : Act → World → Prop} {Q : Exit → Act → World → Prop} {E : Prop} (hgd : Region.wanted o (yielded ops a.tmps) = true) (s x : Operand) (t : TypeId)
    (ho : o.op = .call { callee := .builtin .append, args := #[s, x], argTypes := #[t, t] }) (v u v' : Value) (w' : World) (hs : a.eval s = v) (hx : a.eval x = u) (hr : (Builtin.append_ #[t, t] o.type #[v, u]).run P w = .ok v' w')
    (h : K (a.put o.dst v') w') : if Region.wanted o (yielded ops a.tmps) = true then Oper.wp P o a w K Q else E := by
  rw [if_pos hgd]
  unfold Oper.wp execOp
  simp only [ho, resolve, invoke, builtin, Sem.run_bind, Sem.run_pure, Result.andThen_ok, List.map_toArray, List.map_cons, List.map_nil, hs, hx, hr]
  exact h
theorem odd_app {W y : World} {g0 B nb : Nat} {e : Ev} {T : TypeId} {fr : Nat × Nat} (hW : Nw W y) (hg : W.heap.size ≤ g0) (hB : g0 ≤ B) (hr : ERow y g0 (.slice (some ⟨B, 0, none⟩) 3 3) threeL) (hn : y.heap[nb]? = some (.cells ⟨erow e⟩ T fr)) :
    ∃ v' y', (Builtin.append_ #[23, 23] 23 #[.slice (some ⟨B, 0, none⟩) 3 3, .slice (some ⟨nb, 0, none⟩) 1 1]).run Tryd.prog y = .ok v' y' ∧ EvAt y' v' (threeL ++ [e]) ∧ Nw W y' := by
  have hlt : B < y.heap.size := own_lt hr rfl
  obtain ⟨v', y', hrun, hR, hG⟩ := ERow.many hr [e] ⟨nb, 0, none⟩ 1 (fun j u hu => by
    rw [Addr.add_lit, Nat.zero_add, heap_cell hn, ← Array.getElem?_toList]
    simpa using hu) (by simp [threeL]) (by omega)
  exact ⟨v', y', hrun, hR.at, nw_grown hW hG (Nat.le_trans hg hB)⟩
theorem ints_two {w : World} {B : Nat} {a b : Int} {T : TypeId} {fr : Nat × Nat} (h : w.heap[B]? = some (.cells #[.int .i64 a, .int .i64 b] T fr)) : IntsAt w (.slice (some ⟨B, 0, none⟩) 2 2) [a, b] := by
  refine ⟨_, 2, rfl, .inr ⟨B, 0, rfl, heap_lt h, fun i hi => ?_⟩⟩
  rw [Nat.zero_add, heap_cell h]
  match i, hi with
  | 0, _ => rfl
  | 1, _ => rfl
theorem ints_one {w : World} {B : Nat} {a : Int} {T : TypeId} {fr : Nat × Nat} (h : w.heap[B]? = some (.cells #[.int .i64 a] T fr)) : IntsAt w (.slice (some ⟨B, 0, none⟩) 1 1) [a] := by
  refine ⟨_, 1, rfl, .inr ⟨B, 0, rfl, heap_lt h, fun i hi => ?_⟩⟩
  rw [Nat.zero_add, heap_cell h]
  match i, hi with
  | 0, _ => rfl
theorem is_one (w : World) (a : Int) : IS (w.alloc (.cells #[.int .i64 a] 3)) (.slice (some ⟨w.heap.size, 0, none⟩) 1 1) [a] := by
  have h := World.ownsRow_lit (base := 0) (size := 1) (e := 3) w #[.int .i64 a] 1 (Nat.zero_le _) (by unfold maxLen; omega) rfl
  exact h
theorem want_cell {w : World} {B : Nat} {T : TypeId} {fr : Nat × Nat} (h : w.heap[B]? = some (.cells #[.int .i64 2, .int .i64 2, .int .i64 2, .int .i64 2, .int .i64 2, .int .i64 4, .int .i64 7, .int .i64 5, .int .i64 5] T fr)) (k : Nat) (hk : k < 9) : w.cell? ⟨B, k, none⟩ = some (.int .i64 (want k)) := by
  rw [heap_cell h]
  unfold want
  rw [odd_why]
  match k, hk with
  | 0, _ => rfl
  | 1, _ => rfl
  | 2, _ => rfl
  | 3, _ => rfl
  | 4, _ => rfl
  | 5, _ => rfl
  | 6, _ => rfl
  | 7, _ => rfl
  | 8, _ => rfl
theorem odd_block (w : World) : (w.alloc (.cells #[.int .i64 (-1), .int .i64 0, .bool true, .int .i64 1, .int .i64 0, .int .i64 0, .int .i64 0, .int .i64 0, .int .i64 0, .int .i64 2, .int .i64 2, .bool true, .int .i64 0, .int .i64 0, .int .i64 0, .int .i64 0, .int .i64 0, .int .i64 0, .int .i64 2, .int .i64 2, .bool true, .int .i64 1, .int .i64 0, .int .i64 0, .int .i64 0, .int .i64 0, .int .i64 1, .int .i64 1, .int .i64 1, .bool false, .int .i64 0, .int .i64 0, .int .i64 0, .int .i64 0, .int .i64 0, .int .i64 7, .int .i64 1, .int .i64 1, .bool false, .int .i64 0, .int .i64 1, .int .i64 0, .int .i64 0, .int .i64 0, .int .i64 1, .int .i64 1, .int .i64 3, .bool true, .int .i64 1, .int .i64 0, .int .i64 0, .int .i64 0, .int .i64 0, .int .i64 0, .int .i64 2, .int .i64 1, .bool true, .int .i64 1, .int .i64 0, .int .i64 0, .int .i64 0, .int .i64 0, .int .i64 0, .int .i64 0, .int .i64 0, .bool false, .int .i64 0, .int .i64 0, .int .i64 0, .int .i64 0, .int .i64 0, .int .i64 1, .int .i64 1, .int .i64 0, .bool false, .int .i64 0, .int .i64 0, .int .i64 0, .int .i64 0, .int .i64 0, .int .i64 1] 31)).heap[w.heap.size]? = some (.cells ⟨oddL.flatMap erow⟩ 31 (0, 0)) := alloc_at w _ _
theorem ev_cells {w : World} {B n c : Nat} (h : EvAt w (.slice (some ⟨B, 0, none⟩) n c) threeL) : ∀ i (h : i < threeL.length) c u, (erow threeL[i])[c]? = some u → w.cell? ⟨B, 0 + i * 9 + c, none⟩ = some u := by
  obtain ⟨a, c', hv, q | ⟨b, o, rfl, hc⟩⟩ := h
  · cases q
  · simp only [Value.slice.injEq, Option.some.injEq, Addr.mk.injEq, and_true] at hv
    obtain ⟨⟨rfl, rfl⟩, _⟩ := hv
    exact hc.2
def Hd (S : World → Prop) (x : World) : Prop := S x
theorem nw_ad (w : World) (o : Obj) : Nw w.drew (w.alloc o).drew := ((Nw.refl w.drew).alloc o)
theorem nw_dl {w y : World} (h : Nw w y) : Nw w.drew y := ⟨h.os, h.tape, h.output, h.size, h.block⟩

theorem odd_rows {z y : World} {B : Nat} (hO : z.heap[B]? = some (.cells ⟨oddL.flatMap erow⟩ 31 (0, 0))) (h : Nw z y) (k : Nat) (hk : k < oddL.length) : ∀ c u, (erow oddL[k])[c]? = some u → y.cell? ⟨B, k * 9 + c, none⟩ = some u := by
  intro c u hu
  have hc : c < 9 := by have := (List.getElem?_eq_some_iff.1 hu).1; simpa [erow] using this
  refine h.keep' ?_
  rw [heap_cell hO, ← Array.getElem?_toList]
  show (oddL.flatMap erow)[k * 9 + c]? = _
  rw [erows_at oddL k c hk hc]; exact hu
set_option maxRecDepth 100000 in
set_option maxHeartbeats 8000000 in
theorem main (w : World) (ht : Lib.TabIs Tryd.prog w "internal/strconv.uint64pow10" .u64 Lib.pow10Tab) : Calls Tryd.prog 3 #[] w fun e w' => e = .returned (.bool true) ∧ Nw w w' := by
  have HT := Lib.hid ht
  clear ht
  go_enter Tryd.func3, Tryd.ntmps3
  go_wp2_with fail
  refine (lives_ok _).mono ?_
  rintro e w1 ⟨rfl, g1⟩
  go_wp2_with fail
  refine (three_own _).mono ?_
  rintro e w2 ⟨B, rfl, hB, hR, g2⟩
  have HL := Lib.hid hR.at
  have HG2 := Lib.hid (g1.trans g2)
  clear hR g1 g2 hB
  go_wp2
  obtain ⟨B2, hB2⟩ : ∃ B2, w2.heap.size = B2 := ⟨_, rfl⟩
  obtain ⟨B3, hB3⟩ : ∃ B3, w2.heap.size + 1 = B3 := ⟨_, rfl⟩
  obtain ⟨z, hz⟩ : ∃ z, (w2.alloc (.cells #[.int .i64 (-1), .int .i64 0, .bool true, .int .i64 1, .int .i64 0, .int .i64 0, .int .i64 0, .int .i64 0, .int .i64 0, .int .i64 2, .int .i64 2, .bool true, .int .i64 0, .int .i64 0, .int .i64 0, .int .i64 0, .int .i64 0, .int .i64 0, .int .i64 2, .int .i64 2, .bool true, .int .i64 1, .int .i64 0, .int .i64 0, .int .i64 0, .int .i64 0, .int .i64 1, .int .i64 1, .int .i64 1, .bool false, .int .i64 0, .int .i64 0, .int .i64 0, .int .i64 0, .int .i64 0, .int .i64 7, .int .i64 1, .int .i64 1, .bool false, .int .i64 0, .int .i64 1, .int .i64 0, .int .i64 0, .int .i64 0, .int .i64 1, .int .i64 1, .int .i64 3, .bool true, .int .i64 1, .int .i64 0, .int .i64 0, .int .i64 0, .int .i64 0, .int .i64 0, .int .i64 2, .int .i64 1, .bool true, .int .i64 1, .int .i64 0, .int .i64 0, .int .i64 0, .int .i64 0, .int .i64 0, .int .i64 0, .int .i64 0, .bool false, .int .i64 0, .int .i64 0, .int .i64 0, .int .i64 0, .int .i64 0, .int .i64 1, .int .i64 1, .int .i64 0, .bool false, .int .i64 0, .int .i64 0, .int .i64 0, .int .i64 0, .int .i64 0, .int .i64 1] 31)).alloc (.cells #[.int .i64 2, .int .i64 2, .int .i64 2, .int .i64 2, .int .i64 2, .int .i64 4, .int .i64 7, .int .i64 5, .int .i64 5] 32) = z := ⟨_, rfl⟩
  have hzN : Nw w2 z := by rw [← hz]; exact ((Nw.refl w2).alloc _).alloc _
  have hOz : z.heap[B2]? = some (.cells ⟨oddL.flatMap erow⟩ 31 (0, 0)) := by
    rw [← hz, ← hB2]
    exact (((Nw.refl _).alloc _).block _ (heap_lt (odd_block w2))).trans (odd_block w2)
  have hWz : z.heap[B3]? = some (.cells #[.int .i64 2, .int .i64 2, .int .i64 2, .int .i64 2, .int .i64 2, .int .i64 4, .int .i64 7, .int .i64 5, .int .i64 5] 32 (0, 0)) := by
    rw [← hz, ← hB3]
    have := alloc_at (w2.alloc (.cells #[.int .i64 (-1), .int .i64 0, .bool true, .int .i64 1, .int .i64 0, .int .i64 0, .int .i64 0, .int .i64 0, .int .i64 0, .int .i64 2, .int .i64 2, .bool true, .int .i64 0, .int .i64 0, .int .i64 0, .int .i64 0, .int .i64 0, .int .i64 0, .int .i64 2, .int .i64 2, .bool true, .int .i64 1, .int .i64 0, .int .i64 0, .int .i64 0, .int .i64 0, .int .i64 1, .int .i64 1, .int .i64 1, .bool false, .int .i64 0, .int .i64 0, .int .i64 0, .int .i64 0, .int .i64 0, .int .i64 7, .int .i64 1, .int .i64 1, .bool false, .int .i64 0, .int .i64 1, .int .i64 0, .int .i64 0, .int .i64 0, .int .i64 1, .int .i64 1, .int .i64 3, .bool true, .int .i64 1, .int .i64 0, .int .i64 0, .int .i64 0, .int .i64 0, .int .i64 0, .int .i64 2, .int .i64 1, .bool true, .int .i64 1, .int .i64 0, .int .i64 0, .int .i64 0, .int .i64 0, .int .i64 0, .int .i64 0, .int .i64 0, .bool false, .int .i64 0, .int .i64 0, .int .i64 0, .int .i64 0, .int .i64 0, .int .i64 1, .int .i64 1, .int .i64 0, .bool false, .int .i64 0, .int .i64 0, .int .i64 0, .int .i64 0, .int .i64 0, .int .i64 1] 31)) #[.int .i64 2, .int .i64 2, .int .i64 2, .int .i64 2, .int .i64 2, .int .i64 4, .int .i64 7, .int .i64 5, .int .i64 5] 32
    rwa [show (w2.alloc (.cells #[.int .i64 (-1), .int .i64 0, .bool true, .int .i64 1, .int .i64 0, .int .i64 0, .int .i64 0, .int .i64 0, .int .i64 0, .int .i64 2, .int .i64 2, .bool true, .int .i64 0, .int .i64 0, .int .i64 0, .int .i64 0, .int .i64 0, .int .i64 0, .int .i64 2, .int .i64 2, .bool true, .int .i64 1, .int .i64 0, .int .i64 0, .int .i64 0, .int .i64 0, .int .i64 1, .int .i64 1, .int .i64 1, .bool false, .int .i64 0, .int .i64 0, .int .i64 0, .int .i64 0, .int .i64 0, .int .i64 7, .int .i64 1, .int .i64 1, .bool false, .int .i64 0, .int .i64 1, .int .i64 0, .int .i64 0, .int .i64 0, .int .i64 1, .int .i64 1, .int .i64 3, .bool true, .int .i64 1, .int .i64 0, .int .i64 0, .int .i64 0, .int .i64 0, .int .i64 0, .int .i64 2, .int .i64 1, .bool true, .int .i64 1, .int .i64 0, .int .i64 0, .int .i64 0, .int .i64 0, .int .i64 0, .int .i64 0, .int .i64 0, .bool false, .int .i64 0, .int .i64 0, .int .i64 0, .int .i64 0, .int .i64 0, .int .i64 1, .int .i64 1, .int .i64 0, .bool false, .int .i64 0, .int .i64 0, .int .i64 0, .int .i64 0, .int .i64 0, .int .i64 1] 31)).heap.size = w2.heap.size + 1 by simp] at this
  rw [hz]
  rw [hB3, hB2]
  have HLz := Lib.hid (HL.out.nw hzN)
  have HGz := Lib.hid (HG2.out.trans hzN)
  have HO := Lib.hid (fun (k : Nat) (hk : k < oddL.length) (y : World) (h : Nw z y) => (odd_rows hOz h k hk))
  have HW := Lib.hid (fun (k : Nat) (hk : k < 9) (y : World) (h : Nw z y) => h.keep' (want_cell hWz k hk))
  clear hz hB2 hB3 hzN hOz hWz HL HG2
  clear w1 w2
  go_loopw [4] (fun i wr => ∃ k : Nat, k ≤ 9 ∧ i = .int .i64 k ∧ Nw z wr) (fun i _ => 9 - (intOf i).toNat)
  case atStart => exact ⟨0, Nat.zero_le _, rfl, Nw.refl _⟩
  case round =>
    obtain ⟨k, hk, rfl, hG⟩ := hrel
    by_cases hlt : k < 9
    · have hki : k < oddL.length := hlt
      have HC := Lib.hid (fun v w hv => check_odd k hki v w hv)
      have HS := Lib.hid (fun v w hv => spans_odd k hki v w hv)
      have HOk := Lib.hid (fun (y : World) (h : Nw z y) => HO.out k hki y h)
      have HWk := Lib.hid (fun (y : World) (h : Nw z y) => HW.out k hlt y h)
      have hap : ∀ (W y : World) (g0 b nb : Nat) (T : TypeId) (fr : Nat × Nat) (c : Array Value), c = ⟨erow oddL[k]⟩ → Nw W y → W.heap.size ≤ g0 → g0 ≤ b → ERow y g0 (.slice (some ⟨b, 0, none⟩) 3 3) threeL → y.heap[nb]? = some (.cells c T fr) → ∃ v' y', (Builtin.append_ #[23, 23] 23 #[.slice (some ⟨b, 0, none⟩) 3 3, .slice (some ⟨nb, 0, none⟩) 1 1]).run Tryd.prog y = .ok v' y' ∧ EvAt y' v' (threeL ++ [oddL[k]]) ∧ Nw W y' := by
        intro W y g0 b nb T fr c hc h1 h2 h3 h4 h5
        subst hc
        exact odd_app h1 h2 h3 h4 h5
      have HA := Lib.hid hap
      clear hap
      generalize want k = wk at *
      generalize oddL[k] = e0 at *
      obtain ⟨ec, et, ei, ⟨k1, k2, k3, k4, k5, k6⟩⟩ := e0
      have i0 : (0 : Int) ≤ (k : Int) := by omega
      have i1 : (k : Int) < 9 := by omega
      go_wp2_with fail
      obtain ⟨S, hSe⟩ : ∃ S, S = Nw wr := ⟨_, rfl⟩
      have hS0 : Hd S wr.drew := by subst hSe; exact (Nw.refl _).drew1
      have q0 : ∀ y, Hd S y → y.cell? ⟨B2, k * 9, none⟩ = some (.int .i64 ec) := fun y h => by subst hSe; exact HOk.out y (hG.trans h) 0 _ rfl
      have q1 : ∀ y, Hd S y → y.cell? ⟨B2, k * 9 + 1, none⟩ = some (.int .i64 et) := fun y h => by subst hSe; exact HOk.out y (hG.trans h) 1 _ rfl
      have q2 : ∀ y, Hd S y → y.cell? ⟨B2, k * 9 + 2, none⟩ = some (.bool ei) := fun y h => by subst hSe; exact HOk.out y (hG.trans h) 2 _ rfl
      have q3 : ∀ y, Hd S y → y.cell? ⟨B2, k * 9 + 3, none⟩ = some (.int .i64 k1) := fun y h => by subst hSe; exact HOk.out y (hG.trans h) 3 _ rfl
      have q4 : ∀ y, Hd S y → y.cell? ⟨B2, k * 9 + 4, none⟩ = some (.int .i64 k2) := fun y h => by subst hSe; exact HOk.out y (hG.trans h) 4 _ rfl
      have q5 : ∀ y, Hd S y → y.cell? ⟨B2, k * 9 + 5, none⟩ = some (.int .i64 k3) := fun y h => by subst hSe; exact HOk.out y (hG.trans h) 5 _ rfl
      have q6 : ∀ y, Hd S y → y.cell? ⟨B2, k * 9 + 6, none⟩ = some (.int .i64 k4) := fun y h => by subst hSe; exact HOk.out y (hG.trans h) 6 _ rfl
      have q7 : ∀ y, Hd S y → y.cell? ⟨B2, k * 9 + 7, none⟩ = some (.int .i64 k5) := fun y h => by subst hSe; exact HOk.out y (hG.trans h) 7 _ rfl
      have q8 : ∀ y, Hd S y → y.cell? ⟨B2, k * 9 + 8, none⟩ = some (.int .i64 k6) := fun y h => by subst hSe; exact HOk.out y (hG.trans h) 8 _ rfl
      have HN := Lib.hid (show ∀ a b, Hd S a → Nw a b → Hd S b from fun a b h g => by subst hSe; exact Nw.trans h g)
      have HV := Lib.hid (show ∀ a, Hd S a → Nw wr a from fun a h => by subst hSe; exact h)
      clear hSe
      refine region_plan (.off (.take (.take (.take (.take (.off (.go2 (.go1 (.off (.go1 (.off (.go1 (.take (.take (.take (.take (.take .fin)))))))))) (.go1 (.off (.go1 (.off (.go1 (.take (.take (.take (.take (.take .fin))))))))))))))))) (Hd S) (by kernel_rfl) (by kernel_rfl) (by kernel_rfl) hS0 ?_
      refine HP.off ?_
      iterate 4 (refine HP.take' ?_; apply Exists.intro; refine ⟨Or.inl ⟨by rfl, ?_⟩, ?_⟩; (intro x hx'; go_simp; first | done | with_reducible rfl); (try simp only [Act.put, List.setIfInBounds_toArray, List.set_cons_zero, List.set_cons_succ]))
      refine HP.off ?_
      refine HP.go2 (fun KK hKK => ?_) (fun KK hKK => ?_)
      · go_simp
        refine (three_own _).mono ?_
        rintro e y1 ⟨b1, rfl, hb1, hr1, g1⟩
        have hS1 := HN.out _ _ hS0 g1
        refine hKK.out _ _ hS1 ?_
        intro _
        clear hKK KK
        (try simp only [Act.put, List.setIfInBounds_toArray, List.set_cons_zero, List.set_cons_succ])
        refine HP.go1 (fun KK hKK => ?_)
        go_simp
        have g2 := (Nw.refl y1).alloc (.cells #[.int .i64 ec, .int .i64 et, .bool ei, .int .i64 k1, .int .i64 k2, .int .i64 k3, .int .i64 k4, .int .i64 k5, .int .i64 k6] 31)
        have hr2 := own_keep hr1 (g2.grownBy none) (fun _ _ => by simp)
        have hn2 := alloc_at y1 #[.int .i64 ec, .int .i64 et, .bool ei, .int .i64 k1, .int .i64 k2, .int .i64 k3, .int .i64 k4, .int .i64 k5, .int .i64 k6] 31
        have hS2 := HN.out _ _ hS1 g2
        have hz2 : Nw wr (y1.alloc (.cells #[.int .i64 ec, .int .i64 et, .bool ei, .int .i64 k1, .int .i64 k2, .int .i64 k3, .int .i64 k4, .int .i64 k5, .int .i64 k6] 31)) := HV.out _ hS2
        have hB0 : wr.heap.size ≤ wr.drew.heap.size := Nat.le_refl _
        refine hKK.out _ _ hS2 ?_
        intro _
        clear hKK KK
        (try simp only [Act.put, List.setIfInBounds_toArray, List.set_cons_zero, List.set_cons_succ])
        obtain ⟨nb, hnb⟩ : ∃ nb, y1.heap.size = nb := ⟨_, rfl⟩
        rw [hnb] at hn2
        try rw [hnb]
        generalize y1.alloc (.cells #[.int .i64 ec, .int .i64 et, .bool ei, .int .i64 k1, .int .i64 k2, .int .i64 k3, .int .i64 k4, .int .i64 k5, .int .i64 k6] 31) = y2 at *
        obtain ⟨vv, y3, hrun, hE3, hN3⟩ := HA.out wr y2 _ b1 nb 31 (0, 0) _ rfl hz2 hB0 hb1 hr2 hn2
        have hS3 : Hd S y3 := HN.out _ _ hS0 (nw_dl hN3)
        refine HP.off ?_
        refine HP.go1 (fun KK hKK => ?_)
        refine app_step (by rfl) (.tmp 39) (.tmp 44) 23 rfl _ _ _ _ rfl rfl hrun ?_
        refine hKK.out _ _ hS3 ?_
        intro _
        clear hKK KK
        (try simp only [Act.put, List.setIfInBounds_toArray, List.set_cons_zero, List.set_cons_succ])
        refine HP.off ?_
        refine HP.go1 (fun KK hKK => ?_)
        go_simp
        refine (HC.out vv _ hE3).mono ?_
        rintro e y4 ⟨rfl, g4⟩
        have hS4 := HN.out _ _ hS3 g4
        refine hKK.out _ _ hS4 ?_
        intro _
        clear hKK KK
        (try simp only [Act.put, List.setIfInBounds_toArray, List.set_cons_zero, List.set_cons_succ])
        iterate 5 (refine HP.take' ?_; apply Exists.intro; refine ⟨Or.inl ⟨by rfl, ?_⟩, ?_⟩; (intro x hx'; go_simp; first | done | with_reducible rfl); (try simp only [Act.put, List.setIfInBounds_toArray, List.set_cons_zero, List.set_cons_succ]))
        refine HP.end_ ?_
        refine NoPanic.normal ?_
        have hG4 := hG.trans (HV.out _ hS4)
        clear hS0 hS1 hS2 hS3 hS4 q0 q1 q2 q3 q4 q5 q6 q7 q8 HN HV hE3 hN3 hrun hz2 hr2 hn2 hB0 hb1 g4
        go_wp2_with fail
        generalize y4 = x0 at *
        obtain ⟨S, hSe⟩ : ∃ S, S = Nw x0 := ⟨_, rfl⟩
        have hS0 : Hd S x0.drew := by subst hSe; exact (Nw.refl _).drew1
        have q0 : ∀ y, Hd S y → y.cell? ⟨B2, k * 9, none⟩ = some (.int .i64 ec) := fun y h => by subst hSe; exact HOk.out y (hG4.trans h) 0 _ rfl
        have q1 : ∀ y, Hd S y → y.cell? ⟨B2, k * 9 + 1, none⟩ = some (.int .i64 et) := fun y h => by subst hSe; exact HOk.out y (hG4.trans h) 1 _ rfl
        have q2 : ∀ y, Hd S y → y.cell? ⟨B2, k * 9 + 2, none⟩ = some (.bool ei) := fun y h => by subst hSe; exact HOk.out y (hG4.trans h) 2 _ rfl
        have q3 : ∀ y, Hd S y → y.cell? ⟨B2, k * 9 + 3, none⟩ = some (.int .i64 k1) := fun y h => by subst hSe; exact HOk.out y (hG4.trans h) 3 _ rfl
        have q4 : ∀ y, Hd S y → y.cell? ⟨B2, k * 9 + 4, none⟩ = some (.int .i64 k2) := fun y h => by subst hSe; exact HOk.out y (hG4.trans h) 4 _ rfl
        have q5 : ∀ y, Hd S y → y.cell? ⟨B2, k * 9 + 5, none⟩ = some (.int .i64 k3) := fun y h => by subst hSe; exact HOk.out y (hG4.trans h) 5 _ rfl
        have q6 : ∀ y, Hd S y → y.cell? ⟨B2, k * 9 + 6, none⟩ = some (.int .i64 k4) := fun y h => by subst hSe; exact HOk.out y (hG4.trans h) 6 _ rfl
        have q7 : ∀ y, Hd S y → y.cell? ⟨B2, k * 9 + 7, none⟩ = some (.int .i64 k5) := fun y h => by subst hSe; exact HOk.out y (hG4.trans h) 7 _ rfl
        have q8 : ∀ y, Hd S y → y.cell? ⟨B2, k * 9 + 8, none⟩ = some (.int .i64 k6) := fun y h => by subst hSe; exact HOk.out y (hG4.trans h) 8 _ rfl
        have q9 : ∀ y, Hd S y → y.cell? ⟨B3, k, none⟩ = some (.int .i64 wk) := fun y h => by subst hSe; exact HWk.out y (hG4.trans h)
        have HN := Lib.hid (show ∀ a b, Hd S a → Nw a b → Hd S b from fun a b h g => by subst hSe; exact Nw.trans h g)
        have HV := Lib.hid (show ∀ a, Hd S a → Nw x0 a from fun a h => by subst hSe; exact h)
        clear hSe
        refine region_plan (.take (.take (.take (.take (.take (.take (.take (.take (.take (.take (.take (.off (.take (.take (.take (.take (.off (.go2 (.go1 (.off (.go1 (.off (.go1 (.take (.take (.take .fin)))))))) (.go1 (.off (.go1 (.off (.go1 (.take (.take (.take .fin)))))))))))))))))))))))))) (Hd S) (by kernel_rfl) (by kernel_rfl) (by kernel_rfl) hS0 ?_
        iterate 11 (refine HP.take' ?_; apply Exists.intro; refine ⟨Or.inl ⟨by rfl, ?_⟩, ?_⟩; (intro x hx'; go_simp; first | done | with_reducible rfl); (try simp only [Act.put, List.setIfInBounds_toArray, List.set_cons_zero, List.set_cons_succ]))
        refine HP.off ?_
        iterate 4 (refine HP.take' ?_; apply Exists.intro; refine ⟨Or.inl ⟨by rfl, ?_⟩, ?_⟩; (intro x hx'; go_simp; first | done | with_reducible rfl); (try simp only [Act.put, List.setIfInBounds_toArray, List.set_cons_zero, List.set_cons_succ]))
        refine HP.off ?_
        refine HP.go2 (fun KK hKK => ?_) (fun KK hKK => ?_)
        · go_simp
          refine (three_own _).mono ?_
          rintro e y1 ⟨b1, rfl, hb1, hr1, g1⟩
          have hS1 := HN.out _ _ hS0 g1
          refine hKK.out _ _ hS1 ?_
          intro _
          clear hKK KK
          (try simp only [Act.put, List.setIfInBounds_toArray, List.set_cons_zero, List.set_cons_succ])
          refine HP.go1 (fun KK hKK => ?_)
          go_simp
          have g2 := (Nw.refl y1).alloc (.cells #[.int .i64 ec, .int .i64 et, .bool ei, .int .i64 k1, .int .i64 k2, .int .i64 k3, .int .i64 k4, .int .i64 k5, .int .i64 k6] 31)
          have hr2 := own_keep hr1 (g2.grownBy none) (fun _ _ => by simp)
          have hn2 := alloc_at y1 #[.int .i64 ec, .int .i64 et, .bool ei, .int .i64 k1, .int .i64 k2, .int .i64 k3, .int .i64 k4, .int .i64 k5, .int .i64 k6] 31
          have hS2 := HN.out _ _ hS1 g2
          have hz2 : Nw x0 (y1.alloc (.cells #[.int .i64 ec, .int .i64 et, .bool ei, .int .i64 k1, .int .i64 k2, .int .i64 k3, .int .i64 k4, .int .i64 k5, .int .i64 k6] 31)) := HV.out _ hS2
          have hB0 : x0.heap.size ≤ x0.drew.heap.size := Nat.le_refl _
          refine hKK.out _ _ hS2 ?_
          intro _
          clear hKK KK
          (try simp only [Act.put, List.setIfInBounds_toArray, List.set_cons_zero, List.set_cons_succ])
          obtain ⟨nb, hnb⟩ : ∃ nb, y1.heap.size = nb := ⟨_, rfl⟩
          rw [hnb] at hn2
          try rw [hnb]
          generalize y1.alloc (.cells #[.int .i64 ec, .int .i64 et, .bool ei, .int .i64 k1, .int .i64 k2, .int .i64 k3, .int .i64 k4, .int .i64 k5, .int .i64 k6] 31) = y2 at *
          obtain ⟨vv, y3, hrun, hE3, hN3⟩ := HA.out x0 y2 _ b1 nb 31 (0, 0) _ rfl hz2 hB0 hb1 hr2 hn2
          have hS3 : Hd S y3 := HN.out _ _ hS0 (nw_dl hN3)
          refine HP.off ?_
          refine HP.go1 (fun KK hKK => ?_)
          refine app_step (by rfl) (.tmp 60) (.tmp 65) 23 rfl _ _ _ _ rfl rfl hrun ?_
          refine hKK.out _ _ hS3 ?_
          intro _
          clear hKK KK
          (try simp only [Act.put, List.setIfInBounds_toArray, List.set_cons_zero, List.set_cons_succ])
          refine HP.off ?_
          refine HP.go1 (fun KK hKK => ?_)
          go_simp
          refine (HS.out vv _ hE3).mono ?_
          rintro e y4 ⟨⟨sa, sc, rfl⟩, g4⟩
          have hS4 := HN.out _ _ hS3 g4
          refine hKK.out _ _ hS4 ?_
          intro _
          clear hKK KK
          (try simp only [Act.put, List.setIfInBounds_toArray, List.set_cons_zero, List.set_cons_succ])
          iterate 3 (refine HP.take' ?_; apply Exists.intro; refine ⟨Or.inl ⟨by rfl, ?_⟩, ?_⟩; (intro x hx'; go_simp; first | done | with_reducible rfl); (try simp only [Act.put, List.setIfInBounds_toArray, List.set_cons_zero, List.set_cons_succ]))
          refine HP.end_ ?_
          refine NoPanic.normal ?_
          have hG9 := hG4.trans (HV.out _ hS4)
          clear hS0 hS1 hS2 hS3 hS4 q0 q1 q2 q3 q4 q5 q6 q7 q8 q9 HN HV hE3 hN3 hrun hz2 hr2 hn2 hB0 hb1 g4
          go_wp2
          go_roundw
          case rel => exact ⟨k + 1, by omega, by go_num, hG9⟩
          case measure => simp [intOf]; omega
        · go_simp
          have g1 := nw_ad x0 (.cells #[.int .i64 ec, .int .i64 et, .bool ei, .int .i64 k1, .int .i64 k2, .int .i64 k3, .int .i64 k4, .int .i64 k5, .int .i64 k6] 31)
          have hn1 : (x0.alloc (.cells #[.int .i64 ec, .int .i64 et, .bool ei, .int .i64 k1, .int .i64 k2, .int .i64 k3, .int .i64 k4, .int .i64 k5, .int .i64 k6] 31)).drew.heap[x0.heap.size]? = some (.cells #[.int .i64 ec, .int .i64 et, .bool ei, .int .i64 k1, .int .i64 k2, .int .i64 k3, .int .i64 k4, .int .i64 k5, .int .i64 k6] 31 (0, 0)) := alloc_at x0 #[.int .i64 ec, .int .i64 et, .bool ei, .int .i64 k1, .int .i64 k2, .int .i64 k3, .int .i64 k4, .int .i64 k5, .int .i64 k6] 31
          have hS1 := HN.out _ _ hS0 g1
          have hB0 : x0.heap.size ≤ (x0.alloc (.cells #[.int .i64 ec, .int .i64 et, .bool ei, .int .i64 k1, .int .i64 k2, .int .i64 k3, .int .i64 k4, .int .i64 k5, .int .i64 k6] 31)).drew.heap.size := g1.sz
          refine hKK.out _ _ hS1 ?_
          intro _
          clear hKK KK
          (try simp only [Act.put, List.setIfInBounds_toArray, List.set_cons_zero, List.set_cons_succ])
          obtain ⟨nb, hnb⟩ : ∃ nb, x0.heap.size = nb := ⟨_, rfl⟩
          rw [hnb] at hn1
          try rw [hnb]
          generalize (x0.alloc (.cells #[.int .i64 ec, .int .i64 et, .bool ei, .int .i64 k1, .int .i64 k2, .int .i64 k3, .int .i64 k4, .int .i64 k5, .int .i64 k6] 31)).drew = y1 at *
          refine HP.go1 (fun KK hKK => ?_)
          go_simp
          refine (three_own _).mono ?_
          rintro e y2 ⟨b1, rfl, hb1, hr2, g2⟩
          have hS2 := HN.out _ _ hS1 g2
          have hn2 := (g2.block _ (heap_lt hn1)).trans hn1
          have hz2 := HV.out _ hS2
          refine hKK.out _ _ hS2 ?_
          intro _
          clear hKK KK
          (try simp only [Act.put, List.setIfInBounds_toArray, List.set_cons_zero, List.set_cons_succ])
          obtain ⟨vv, y3, hrun, hE3, hN3⟩ := HA.out x0 y2 _ b1 nb 31 (0, 0) _ rfl hz2 hB0 hb1 hr2 hn2
          have hS3 : Hd S y3 := HN.out _ _ hS0 (nw_dl hN3)
          refine HP.off ?_
          refine HP.go1 (fun KK hKK => ?_)
          refine app_step (by rfl) (.tmp 60) (.tmp 65) 23 rfl _ _ _ _ rfl rfl hrun ?_
          refine hKK.out _ _ hS3 ?_
          intro _
          clear hKK KK
          (try simp only [Act.put, List.setIfInBounds_toArray, List.set_cons_zero, List.set_cons_succ])
          refine HP.off ?_
          refine HP.go1 (fun KK hKK => ?_)
          go_simp
          refine (HS.out vv _ hE3).mono ?_
          rintro e y4 ⟨⟨sa, sc, rfl⟩, g4⟩
          have hS4 := HN.out _ _ hS3 g4
          refine hKK.out _ _ hS4 ?_
          intro _
          clear hKK KK
          (try simp only [Act.put, List.setIfInBounds_toArray, List.set_cons_zero, List.set_cons_succ])
          iterate 3 (refine HP.take' ?_; apply Exists.intro; refine ⟨Or.inl ⟨by rfl, ?_⟩, ?_⟩; (intro x hx'; go_simp; first | done | with_reducible rfl); (try simp only [Act.put, List.setIfInBounds_toArray, List.set_cons_zero, List.set_cons_succ]))
          refine HP.end_ ?_
          refine NoPanic.normal ?_
          have hG9 := hG4.trans (HV.out _ hS4)
          clear hS0 hS1 hS2 hS3 hS4 q0 q1 q2 q3 q4 q5 q6 q7 q8 q9 HN HV hE3 hN3 hrun hz2 hr2 hn2 hB0 hb1 g4
          go_wp2
          go_roundw
          case rel => exact ⟨k + 1, by omega, by go_num, hG9⟩
          case measure => simp [intOf]; omega
      · go_simp
        have g1 := nw_ad wr (.cells #[.int .i64 ec, .int .i64 et, .bool ei, .int .i64 k1, .int .i64 k2, .int .i64 k3, .int .i64 k4, .int .i64 k5, .int .i64 k6] 31)
        have hn1 : (wr.alloc (.cells #[.int .i64 ec, .int .i64 et, .bool ei, .int .i64 k1, .int .i64 k2, .int .i64 k3, .int .i64 k4, .int .i64 k5, .int .i64 k6] 31)).drew.heap[wr.heap.size]? = some (.cells #[.int .i64 ec, .int .i64 et, .bool ei, .int .i64 k1, .int .i64 k2, .int .i64 k3, .int .i64 k4, .int .i64 k5, .int .i64 k6] 31 (0, 0)) := alloc_at wr #[.int .i64 ec, .int .i64 et, .bool ei, .int .i64 k1, .int .i64 k2, .int .i64 k3, .int .i64 k4, .int .i64 k5, .int .i64 k6] 31
        have hS1 := HN.out _ _ hS0 g1
        have hB0 : wr.heap.size ≤ (wr.alloc (.cells #[.int .i64 ec, .int .i64 et, .bool ei, .int .i64 k1, .int .i64 k2, .int .i64 k3, .int .i64 k4, .int .i64 k5, .int .i64 k6] 31)).drew.heap.size := g1.sz
        refine hKK.out _ _ hS1 ?_
        intro _
        clear hKK KK
        (try simp only [Act.put, List.setIfInBounds_toArray, List.set_cons_zero, List.set_cons_succ])
        obtain ⟨nb, hnb⟩ : ∃ nb, wr.heap.size = nb := ⟨_, rfl⟩
        rw [hnb] at hn1
        try rw [hnb]
        generalize (wr.alloc (.cells #[.int .i64 ec, .int .i64 et, .bool ei, .int .i64 k1, .int .i64 k2, .int .i64 k3, .int .i64 k4, .int .i64 k5, .int .i64 k6] 31)).drew = y1 at *
        refine HP.go1 (fun KK hKK => ?_)
        go_simp
        refine (three_own _).mono ?_
        rintro e y2 ⟨b1, rfl, hb1, hr2, g2⟩
        have hS2 := HN.out _ _ hS1 g2
        have hn2 := (g2.block _ (heap_lt hn1)).trans hn1
        have hz2 := HV.out _ hS2
        refine hKK.out _ _ hS2 ?_
        intro _
        clear hKK KK
        (try simp only [Act.put, List.setIfInBounds_toArray, List.set_cons_zero, List.set_cons_succ])
        obtain ⟨vv, y3, hrun, hE3, hN3⟩ := HA.out wr y2 _ b1 nb 31 (0, 0) _ rfl hz2 hB0 hb1 hr2 hn2
        have hS3 : Hd S y3 := HN.out _ _ hS0 (nw_dl hN3)
        refine HP.off ?_
        refine HP.go1 (fun KK hKK => ?_)
        refine app_step (by rfl) (.tmp 39) (.tmp 44) 23 rfl _ _ _ _ rfl rfl hrun ?_
        refine hKK.out _ _ hS3 ?_
        intro _
        clear hKK KK
        (try simp only [Act.put, List.setIfInBounds_toArray, List.set_cons_zero, List.set_cons_succ])
        refine HP.off ?_
        refine HP.go1 (fun KK hKK => ?_)
        go_simp
        refine (HC.out vv _ hE3).mono ?_
        rintro e y4 ⟨rfl, g4⟩
        have hS4 := HN.out _ _ hS3 g4
        refine hKK.out _ _ hS4 ?_
        intro _
        clear hKK KK
        (try simp only [Act.put, List.setIfInBounds_toArray, List.set_cons_zero, List.set_cons_succ])
        iterate 5 (refine HP.take' ?_; apply Exists.intro; refine ⟨Or.inl ⟨by rfl, ?_⟩, ?_⟩; (intro x hx'; go_simp; first | done | with_reducible rfl); (try simp only [Act.put, List.setIfInBounds_toArray, List.set_cons_zero, List.set_cons_succ]))
        refine HP.end_ ?_
        refine NoPanic.normal ?_
        have hG4 := hG.trans (HV.out _ hS4)
        clear hS0 hS1 hS2 hS3 hS4 q0 q1 q2 q3 q4 q5 q6 q7 q8 HN HV hE3 hN3 hrun hz2 hr2 hn2 hB0 hb1 g4
        go_wp2_with fail
        generalize y4 = x0 at *
        obtain ⟨S, hSe⟩ : ∃ S, S = Nw x0 := ⟨_, rfl⟩
        have hS0 : Hd S x0.drew := by subst hSe; exact (Nw.refl _).drew1
        have q0 : ∀ y, Hd S y → y.cell? ⟨B2, k * 9, none⟩ = some (.int .i64 ec) := fun y h => by subst hSe; exact HOk.out y (hG4.trans h) 0 _ rfl
        have q1 : ∀ y, Hd S y → y.cell? ⟨B2, k * 9 + 1, none⟩ = some (.int .i64 et) := fun y h => by subst hSe; exact HOk.out y (hG4.trans h) 1 _ rfl
        have q2 : ∀ y, Hd S y → y.cell? ⟨B2, k * 9 + 2, none⟩ = some (.bool ei) := fun y h => by subst hSe; exact HOk.out y (hG4.trans h) 2 _ rfl
        have q3 : ∀ y, Hd S y → y.cell? ⟨B2, k * 9 + 3, none⟩ = some (.int .i64 k1) := fun y h => by subst hSe; exact HOk.out y (hG4.trans h) 3 _ rfl
        have q4 : ∀ y, Hd S y → y.cell? ⟨B2, k * 9 + 4, none⟩ = some (.int .i64 k2) := fun y h => by subst hSe; exact HOk.out y (hG4.trans h) 4 _ rfl
        have q5 : ∀ y, Hd S y → y.cell? ⟨B2, k * 9 + 5, none⟩ = some (.int .i64 k3) := fun y h => by subst hSe; exact HOk.out y (hG4.trans h) 5 _ rfl
        have q6 : ∀ y, Hd S y → y.cell? ⟨B2, k * 9 + 6, none⟩ = some (.int .i64 k4) := fun y h => by subst hSe; exact HOk.out y (hG4.trans h) 6 _ rfl
        have q7 : ∀ y, Hd S y → y.cell? ⟨B2, k * 9 + 7, none⟩ = some (.int .i64 k5) := fun y h => by subst hSe; exact HOk.out y (hG4.trans h) 7 _ rfl
        have q8 : ∀ y, Hd S y → y.cell? ⟨B2, k * 9 + 8, none⟩ = some (.int .i64 k6) := fun y h => by subst hSe; exact HOk.out y (hG4.trans h) 8 _ rfl
        have q9 : ∀ y, Hd S y → y.cell? ⟨B3, k, none⟩ = some (.int .i64 wk) := fun y h => by subst hSe; exact HWk.out y (hG4.trans h)
        have HN := Lib.hid (show ∀ a b, Hd S a → Nw a b → Hd S b from fun a b h g => by subst hSe; exact Nw.trans h g)
        have HV := Lib.hid (show ∀ a, Hd S a → Nw x0 a from fun a h => by subst hSe; exact h)
        clear hSe
        refine region_plan (.take (.take (.take (.take (.take (.take (.take (.take (.take (.take (.take (.off (.take (.take (.take (.take (.off (.go2 (.go1 (.off (.go1 (.off (.go1 (.take (.take (.take .fin)))))))) (.go1 (.off (.go1 (.off (.go1 (.take (.take (.take .fin)))))))))))))))))))))))))) (Hd S) (by kernel_rfl) (by kernel_rfl) (by kernel_rfl) hS0 ?_
        iterate 11 (refine HP.take' ?_; apply Exists.intro; refine ⟨Or.inl ⟨by rfl, ?_⟩, ?_⟩; (intro x hx'; go_simp; first | done | with_reducible rfl); (try simp only [Act.put, List.setIfInBounds_toArray, List.set_cons_zero, List.set_cons_succ]))
        refine HP.off ?_
        iterate 4 (refine HP.take' ?_; apply Exists.intro; refine ⟨Or.inl ⟨by rfl, ?_⟩, ?_⟩; (intro x hx'; go_simp; first | done | with_reducible rfl); (try simp only [Act.put, List.setIfInBounds_toArray, List.set_cons_zero, List.set_cons_succ]))
        refine HP.off ?_
        refine HP.go2 (fun KK hKK => ?_) (fun KK hKK => ?_)
        · go_simp
          refine (three_own _).mono ?_
          rintro e y1 ⟨b1, rfl, hb1, hr1, g1⟩
          have hS1 := HN.out _ _ hS0 g1
          refine hKK.out _ _ hS1 ?_
          intro _
          clear hKK KK
          (try simp only [Act.put, List.setIfInBounds_toArray, List.set_cons_zero, List.set_cons_succ])
          refine HP.go1 (fun KK hKK => ?_)
          go_simp
          have g2 := (Nw.refl y1).alloc (.cells #[.int .i64 ec, .int .i64 et, .bool ei, .int .i64 k1, .int .i64 k2, .int .i64 k3, .int .i64 k4, .int .i64 k5, .int .i64 k6] 31)
          have hr2 := own_keep hr1 (g2.grownBy none) (fun _ _ => by simp)
          have hn2 := alloc_at y1 #[.int .i64 ec, .int .i64 et, .bool ei, .int .i64 k1, .int .i64 k2, .int .i64 k3, .int .i64 k4, .int .i64 k5, .int .i64 k6] 31
          have hS2 := HN.out _ _ hS1 g2
          have hz2 : Nw x0 (y1.alloc (.cells #[.int .i64 ec, .int .i64 et, .bool ei, .int .i64 k1, .int .i64 k2, .int .i64 k3, .int .i64 k4, .int .i64 k5, .int .i64 k6] 31)) := HV.out _ hS2
          have hB0 : x0.heap.size ≤ x0.drew.heap.size := Nat.le_refl _
          refine hKK.out _ _ hS2 ?_
          intro _
          clear hKK KK
          (try simp only [Act.put, List.setIfInBounds_toArray, List.set_cons_zero, List.set_cons_succ])
          obtain ⟨nb, hnb⟩ : ∃ nb, y1.heap.size = nb := ⟨_, rfl⟩
          rw [hnb] at hn2
          try rw [hnb]
          generalize y1.alloc (.cells #[.int .i64 ec, .int .i64 et, .bool ei, .int .i64 k1, .int .i64 k2, .int .i64 k3, .int .i64 k4, .int .i64 k5, .int .i64 k6] 31) = y2 at *
          obtain ⟨vv, y3, hrun, hE3, hN3⟩ := HA.out x0 y2 _ b1 nb 31 (0, 0) _ rfl hz2 hB0 hb1 hr2 hn2
          have hS3 : Hd S y3 := HN.out _ _ hS0 (nw_dl hN3)
          refine HP.off ?_
          refine HP.go1 (fun KK hKK => ?_)
          refine app_step (by rfl) (.tmp 60) (.tmp 65) 23 rfl _ _ _ _ rfl rfl hrun ?_
          refine hKK.out _ _ hS3 ?_
          intro _
          clear hKK KK
          (try simp only [Act.put, List.setIfInBounds_toArray, List.set_cons_zero, List.set_cons_succ])
          refine HP.off ?_
          refine HP.go1 (fun KK hKK => ?_)
          go_simp
          refine (HS.out vv _ hE3).mono ?_
          rintro e y4 ⟨⟨sa, sc, rfl⟩, g4⟩
          have hS4 := HN.out _ _ hS3 g4
          refine hKK.out _ _ hS4 ?_
          intro _
          clear hKK KK
          (try simp only [Act.put, List.setIfInBounds_toArray, List.set_cons_zero, List.set_cons_succ])
          iterate 3 (refine HP.take' ?_; apply Exists.intro; refine ⟨Or.inl ⟨by rfl, ?_⟩, ?_⟩; (intro x hx'; go_simp; first | done | with_reducible rfl); (try simp only [Act.put, List.setIfInBounds_toArray, List.set_cons_zero, List.set_cons_succ]))
          refine HP.end_ ?_
          refine NoPanic.normal ?_
          have hG9 := hG4.trans (HV.out _ hS4)
          clear hS0 hS1 hS2 hS3 hS4 q0 q1 q2 q3 q4 q5 q6 q7 q8 q9 HN HV hE3 hN3 hrun hz2 hr2 hn2 hB0 hb1 g4
          go_wp2
          go_roundw
          case rel => exact ⟨k + 1, by omega, by go_num, hG9⟩
          case measure => simp [intOf]; omega
        · go_simp
          have g1 := nw_ad x0 (.cells #[.int .i64 ec, .int .i64 et, .bool ei, .int .i64 k1, .int .i64 k2, .int .i64 k3, .int .i64 k4, .int .i64 k5, .int .i64 k6] 31)
          have hn1 : (x0.alloc (.cells #[.int .i64 ec, .int .i64 et, .bool ei, .int .i64 k1, .int .i64 k2, .int .i64 k3, .int .i64 k4, .int .i64 k5, .int .i64 k6] 31)).drew.heap[x0.heap.size]? = some (.cells #[.int .i64 ec, .int .i64 et, .bool ei, .int .i64 k1, .int .i64 k2, .int .i64 k3, .int .i64 k4, .int .i64 k5, .int .i64 k6] 31 (0, 0)) := alloc_at x0 #[.int .i64 ec, .int .i64 et, .bool ei, .int .i64 k1, .int .i64 k2, .int .i64 k3, .int .i64 k4, .int .i64 k5, .int .i64 k6] 31
          have hS1 := HN.out _ _ hS0 g1
          have hB0 : x0.heap.size ≤ (x0.alloc (.cells #[.int .i64 ec, .int .i64 et, .bool ei, .int .i64 k1, .int .i64 k2, .int .i64 k3, .int .i64 k4, .int .i64 k5, .int .i64 k6] 31)).drew.heap.size := g1.sz
          refine hKK.out _ _ hS1 ?_
          intro _
          clear hKK KK
          (try simp only [Act.put, List.setIfInBounds_toArray, List.set_cons_zero, List.set_cons_succ])
          obtain ⟨nb, hnb⟩ : ∃ nb, x0.heap.size = nb := ⟨_, rfl⟩
          rw [hnb] at hn1
          try rw [hnb]
          generalize (x0.alloc (.cells #[.int .i64 ec, .int .i64 et, .bool ei, .int .i64 k1, .int .i64 k2, .int .i64 k3, .int .i64 k4, .int .i64 k5, .int .i64 k6] 31)).drew = y1 at *
          refine HP.go1 (fun KK hKK => ?_)
          go_simp
          refine (three_own _).mono ?_
          rintro e y2 ⟨b1, rfl, hb1, hr2, g2⟩
          have hS2 := HN.out _ _ hS1 g2
          have hn2 := (g2.block _ (heap_lt hn1)).trans hn1
          have hz2 := HV.out _ hS2
          refine hKK.out _ _ hS2 ?_
          intro _
          clear hKK KK
          (try simp only [Act.put, List.setIfInBounds_toArray, List.set_cons_zero, List.set_cons_succ])
          obtain ⟨vv, y3, hrun, hE3, hN3⟩ := HA.out x0 y2 _ b1 nb 31 (0, 0) _ rfl hz2 hB0 hb1 hr2 hn2
          have hS3 : Hd S y3 := HN.out _ _ hS0 (nw_dl hN3)
          refine HP.off ?_
          refine HP.go1 (fun KK hKK => ?_)
          refine app_step (by rfl) (.tmp 60) (.tmp 65) 23 rfl _ _ _ _ rfl rfl hrun ?_
          refine hKK.out _ _ hS3 ?_
          intro _
          clear hKK KK
          (try simp only [Act.put, List.setIfInBounds_toArray, List.set_cons_zero, List.set_cons_succ])
          refine HP.off ?_
          refine HP.go1 (fun KK hKK => ?_)
          go_simp
          refine (HS.out vv _ hE3).mono ?_
          rintro e y4 ⟨⟨sa, sc, rfl⟩, g4⟩
          have hS4 := HN.out _ _ hS3 g4
          refine hKK.out _ _ hS4 ?_
          intro _
          clear hKK KK
          (try simp only [Act.put, List.setIfInBounds_toArray, List.set_cons_zero, List.set_cons_succ])
          iterate 3 (refine HP.take' ?_; apply Exists.intro; refine ⟨Or.inl ⟨by rfl, ?_⟩, ?_⟩; (intro x hx'; go_simp; first | done | with_reducible rfl); (try simp only [Act.put, List.setIfInBounds_toArray, List.set_cons_zero, List.set_cons_succ]))
          refine HP.end_ ?_
          refine NoPanic.normal ?_
          have hG9 := hG4.trans (HV.out _ hS4)
          clear hS0 hS1 hS2 hS3 hS4 q0 q1 q2 q3 q4 q5 q6 q7 q8 q9 HN HV hE3 hN3 hrun hz2 hr2 hn2 hB0 hb1 g4
          go_wp2
          go_roundw
          case rel => exact ⟨k + 1, by omega, by go_num, hG9⟩
          case measure => simp [intOf]; omega
    · obtain rfl : k = 9 := by omega
      go_wp2_with fail
      refine (check_three _ _ (HLz.out.nw hG)).mono ?_
      rintro e w7 ⟨rfl, g7⟩
      go_wp2_with fail
      refine (spans_three _ _ (HLz.out.nw (hG.trans g7))).mono ?_
      rintro e w8 ⟨v8, rfl, g8, hs⟩
      rcases own_form hs with ⟨_, q⟩ | ⟨g, cap, rfl⟩
      · simp [threeS] at q
      rw [show threeS.length = 2 from rfl] at *
      go_wp2_with fail
      dsimp only [List.append]
      have hN8 : Nw w w8 := HGz.out.trans (hG.trans (g7.trans g8))
      have hE8 := HLz.out.nw (hG.trans (g7.trans g8))
      have hP8 := hs.at
      have hT8 := tab_nw hN8 HT.out
      have hC8 := ev_cells hE8
      obtain ⟨S, hSe⟩ : ∃ S, S = Nw w8 := ⟨_, rfl⟩
      have hS0 : Hd S w8.drew := by subst hSe; exact (Nw.refl _).drew1
      have c0 : ∀ y, Hd S y → y.cell? ⟨B, 0, none⟩ = some (.int .i64 0) := fun y h => by subst hSe; exact h.keep' (hC8 0 (by decide) 0 _ rfl)
      have c1 : ∀ y, Hd S y → y.cell? ⟨B, 1, none⟩ = some (.int .i64 0) := fun y h => by subst hSe; exact h.keep' (hC8 0 (by decide) 1 _ rfl)
      have c2 : ∀ y, Hd S y → y.cell? ⟨B, 2, none⟩ = some (.bool true) := fun y h => by subst hSe; exact h.keep' (hC8 0 (by decide) 2 _ rfl)
      have c3 : ∀ y, Hd S y → y.cell? ⟨B, 3, none⟩ = some (.int .i64 1) := fun y h => by subst hSe; exact h.keep' (hC8 0 (by decide) 3 _ rfl)
      have c4 : ∀ y, Hd S y → y.cell? ⟨B, 4, none⟩ = some (.int .i64 4) := fun y h => by subst hSe; exact h.keep' (hC8 0 (by decide) 4 _ rfl)
      have c5 : ∀ y, Hd S y → y.cell? ⟨B, 5, none⟩ = some (.int .i64 1) := fun y h => by subst hSe; exact h.keep' (hC8 0 (by decide) 5 _ rfl)
      have c6 : ∀ y, Hd S y → y.cell? ⟨B, 6, none⟩ = some (.int .i64 (-1)) := fun y h => by subst hSe; exact h.keep' (hC8 0 (by decide) 6 _ rfl)
      have c7 : ∀ y, Hd S y → y.cell? ⟨B, 7, none⟩ = some (.int .i64 3) := fun y h => by subst hSe; exact h.keep' (hC8 0 (by decide) 7 _ rfl)
      have c8 : ∀ y, Hd S y → y.cell? ⟨B, 8, none⟩ = some (.int .i64 0) := fun y h => by subst hSe; exact h.keep' (hC8 0 (by decide) 8 _ rfl)
      have c18 : ∀ y, Hd S y → y.cell? ⟨B, 18, none⟩ = some (.int .i64 0) := fun y h => by subst hSe; exact h.keep' (hC8 2 (by decide) 0 _ rfl)
      have c19 : ∀ y, Hd S y → y.cell? ⟨B, 19, none⟩ = some (.int .i64 0) := fun y h => by subst hSe; exact h.keep' (hC8 2 (by decide) 1 _ rfl)
      have c20 : ∀ y, Hd S y → y.cell? ⟨B, 20, none⟩ = some (.bool false) := fun y h => by subst hSe; exact h.keep' (hC8 2 (by decide) 2 _ rfl)
      have c21 : ∀ y, Hd S y → y.cell? ⟨B, 21, none⟩ = some (.int .i64 0) := fun y h => by subst hSe; exact h.keep' (hC8 2 (by decide) 3 _ rfl)
      have c22 : ∀ y, Hd S y → y.cell? ⟨B, 22, none⟩ = some (.int .i64 0) := fun y h => by subst hSe; exact h.keep' (hC8 2 (by decide) 4 _ rfl)
      have c23 : ∀ y, Hd S y → y.cell? ⟨B, 23, none⟩ = some (.int .i64 0) := fun y h => by subst hSe; exact h.keep' (hC8 2 (by decide) 5 _ rfl)
      have c24 : ∀ y, Hd S y → y.cell? ⟨B, 24, none⟩ = some (.int .i64 0) := fun y h => by subst hSe; exact h.keep' (hC8 2 (by decide) 6 _ rfl)
      have c25 : ∀ y, Hd S y → y.cell? ⟨B, 25, none⟩ = some (.int .i64 0) := fun y h => by subst hSe; exact h.keep' (hC8 2 (by decide) 7 _ rfl)
      have c26 : ∀ y, Hd S y → y.cell? ⟨B, 26, none⟩ = some (.int .i64 1) := fun y h => by subst hSe; exact h.keep' (hC8 2 (by decide) 8 _ rfl)
      have d0 : ∀ y, Hd S y → y.cell? ⟨g, 0, none⟩ = some (.int .i64 0) := fun y h => by subst hSe; exact h.keep' (hs.cell (j := 0) (c := 0) (by decide) (by decide) rfl)
      have d1 : ∀ y, Hd S y → y.cell? ⟨g, 1, none⟩ = some (.int .i64 0) := fun y h => by subst hSe; exact h.keep' (hs.cell (j := 0) (c := 1) (by decide) (by decide) rfl)
      have d2 : ∀ y, Hd S y → y.cell? ⟨g, 2, none⟩ = some (.int .i64 0) := fun y h => by subst hSe; exact h.keep' (hs.cell (j := 0) (c := 2) (by decide) (by decide) rfl)
      have d3 : ∀ y, Hd S y → y.cell? ⟨g, 3, none⟩ = some (.int .i64 2) := fun y h => by subst hSe; exact h.keep' (hs.cell (j := 0) (c := 3) (by decide) (by decide) rfl)
      have d4 : ∀ y, Hd S y → y.cell? ⟨g, 4, none⟩ = some (.int .i64 1) := fun y h => by subst hSe; exact h.keep' (hs.cell (j := 0) (c := 4) (by decide) (by decide) rfl)
      have d5 : ∀ y, Hd S y → y.cell? ⟨g, 5, none⟩ = some (.int .i64 4) := fun y h => by subst hSe; exact h.keep' (hs.cell (j := 0) (c := 5) (by decide) (by decide) rfl)
      have d6 : ∀ y, Hd S y → y.cell? ⟨g, 6, none⟩ = some (.int .i64 1) := fun y h => by subst hSe; exact h.keep' (hs.cell (j := 0) (c := 6) (by decide) (by decide) rfl)
      have d7 : ∀ y, Hd S y → y.cell? ⟨g, 7, none⟩ = some (.int .i64 (-1)) := fun y h => by subst hSe; exact h.keep' (hs.cell (j := 0) (c := 7) (by decide) (by decide) rfl)
      have d8 : ∀ y, Hd S y → y.cell? ⟨g, 8, none⟩ = some (.int .i64 3) := fun y h => by subst hSe; exact h.keep' (hs.cell (j := 0) (c := 8) (by decide) (by decide) rfl)
      have d9 : ∀ y, Hd S y → y.cell? ⟨g, 9, none⟩ = some (.int .i64 1) := fun y h => by subst hSe; exact h.keep' (hs.cell (j := 0) (c := 9) (by decide) (by decide) rfl)
      have d10 : ∀ y, Hd S y → y.cell? ⟨g, 10, none⟩ = some (.int .i64 1) := fun y h => by subst hSe; exact h.keep' (hs.cell (j := 1) (c := 0) (by decide) (by decide) rfl)
      have d11 : ∀ y, Hd S y → y.cell? ⟨g, 11, none⟩ = some (.int .i64 1) := fun y h => by subst hSe; exact h.keep' (hs.cell (j := 1) (c := 1) (by decide) (by decide) rfl)
      have d12 : ∀ y, Hd S y → y.cell? ⟨g, 12, none⟩ = some (.int .i64 1) := fun y h => by subst hSe; exact h.keep' (hs.cell (j := 1) (c := 2) (by decide) (by decide) rfl)
      have d13 : ∀ y, Hd S y → y.cell? ⟨g, 13, none⟩ = some (.int .i64 (-1)) := fun y h => by subst hSe; exact h.keep' (hs.cell (j := 1) (c := 3) (by decide) (by decide) rfl)
      have d14 : ∀ y, Hd S y → y.cell? ⟨g, 14, none⟩ = some (.int .i64 2) := fun y h => by subst hSe; exact h.keep' (hs.cell (j := 1) (c := 4) (by decide) (by decide) rfl)
      have d15 : ∀ y, Hd S y → y.cell? ⟨g, 15, none⟩ = some (.int .i64 0) := fun y h => by subst hSe; exact h.keep' (hs.cell (j := 1) (c := 5) (by decide) (by decide) rfl)
      have d16 : ∀ y, Hd S y → y.cell? ⟨g, 16, none⟩ = some (.int .i64 1) := fun y h => by subst hSe; exact h.keep' (hs.cell (j := 1) (c := 6) (by decide) (by decide) rfl)
      have d17 : ∀ y, Hd S y → y.cell? ⟨g, 17, none⟩ = some (.int .i64 (-1)) := fun y h => by subst hSe; exact h.keep' (hs.cell (j := 1) (c := 7) (by decide) (by decide) rfl)
      have d18 : ∀ y, Hd S y → y.cell? ⟨g, 18, none⟩ = some (.int .i64 0) := fun y h => by subst hSe; exact h.keep' (hs.cell (j := 1) (c := 8) (by decide) (by decide) rfl)
      have d19 : ∀ y, Hd S y → y.cell? ⟨g, 19, none⟩ = some (.int .i64 0) := fun y h => by subst hSe; exact h.keep' (hs.cell (j := 1) (c := 9) (by decide) (by decide) rfl)
      have HN := Lib.hid (show ∀ a b, Hd S a → Nw a b → Hd S b from fun a b h g => by subst hSe; exact Nw.trans h g)
      have HV := Lib.hid (show ∀ a, Hd S a → Nw w a from fun a h => by subst hSe; exact hN8.trans h)
      have HE := Lib.hid (show ∀ a, Hd S a → EvAt a (.slice (some ⟨B, 0, none⟩) 3 3) threeL from fun a h => by subst hSe; exact hE8.nw h)
      have HPs := Lib.hid (show ∀ a, Hd S a → SpAt a (.slice (some ⟨g, 0, none⟩) 2 cap) threeS from fun a h => by subst hSe; exact hP8.nw h)
      have HTb := Lib.hid (show ∀ a, Hd S a → Lib.TabIs Tryd.prog a "internal/strconv.uint64pow10" .u64 Lib.pow10Tab from fun a h => by subst hSe; exact tab_nw h hT8)
      have HB1 := Lib.hid (show ∀ W, Calls Tryd.prog 13 #[.agg #[.int .i64 0, .int .i64 0, .int .i64 0, .int .i64 2, .int .i64 1, .int .i64 4, .int .i64 1, .int .i64 (-1), .int .i64 3, .int .i64 1], .agg #[.int .i64 1, .int .i64 1, .int .i64 1, .int .i64 (-1), .int .i64 2, .int .i64 0, .int .i64 1, .int .i64 (-1), .int .i64 0, .int .i64 0]] W fun x w' => x = .returned (.bool false) ∧ Nw W w' from fun W => by have := before_any ⟨0, 0, 0, 2, ⟨1, 4, 1, -1, 3, 1⟩⟩ ⟨1, 1, 1, -1, ⟨2, 0, 1, -1, 0, 0⟩⟩ W; rw [bef_01] at this; exact this)
      have HB2 := Lib.hid (show ∀ W, Calls Tryd.prog 13 #[.agg #[.int .i64 0, .int .i64 0, .int .i64 0, .int .i64 2, .int .i64 1, .int .i64 4, .int .i64 1, .int .i64 (-1), .int .i64 3, .int .i64 1], .agg #[.int .i64 0, .int .i64 0, .int .i64 3, .int .i64 0, .int .i64 0, .int .i64 0, .int .i64 0, .int .i64 0, .int .i64 0, .int .i64 0]] W fun x w' => x = .returned (.bool true) ∧ Nw W w' from fun W => by have := before_any ⟨0, 0, 0, 2, ⟨1, 4, 1, -1, 3, 1⟩⟩ ⟨0, 0, 3, 0, ⟨0, 0, 0, 0, 0, 0⟩⟩ W; rw [bef_3] at this; exact this)
      have HR1 := Lib.hid (show ∀ a vo, Hd S a → IntsAt a vo [1, 0] → Calls Tryd.prog 14 #[.slice (some ⟨g, 0, none⟩) 2 cap, vo] a fun x w' => x = .returned (.bool true) ∧ Nw a w' from fun a vo h ho => by have := respects_any _ vo threeS [1, 0] a (by decide) (HPs.out a h) ho; rw [resp_10] at this; exact this)
      have HR2 := Lib.hid (show ∀ a vo, Hd S a → IntsAt a vo [0, 0] → Calls Tryd.prog 14 #[.slice (some ⟨g, 0, none⟩) 2 cap, vo] a fun x w' => x = .returned (.bool false) ∧ Nw a w' from fun a vo h ho => by have := respects_any _ vo threeS [0, 0] a (by decide) (HPs.out a h) ho; rw [resp_00] at this; exact this)
      have HR3 := Lib.hid (show ∀ a vo, Hd S a → IntsAt a vo [0] → Calls Tryd.prog 14 #[.slice (some ⟨g, 0, none⟩) 2 cap, vo] a fun x w' => x = .returned (.bool false) ∧ Nw a w' from fun a vo h ho => by have := respects_any _ vo threeS [0] a (by decide) (HPs.out a h) ho; rw [resp_0] at this; exact this)
      have HTx := Lib.hid (show ∀ a, Hd S a → Calls Tryd.prog 15 #[.agg #[.int .i64 (-3), .int .i64 0, .bool true, .int .i64 9, .int .i64 0, .int .i64 (-1), .int .i64 (-1), .int .i64 0, .int .i64 0]] a _ from fun a h => text_none a (HTb.out a h))
      clear hSe hN8 hE8 hP8 hT8 hC8 hs g7 g8 HLz HGz HO HW HT hG hk hlt
      refine region_plan (.take (.take (.take (.take (.off (.off (.go2 (.go1 (.off (.go1 (.take (.take (.take (.off (.take (.take (.take (.take (.take (.take (.off (.go2 (.go1 (.off (.go1 (.take (.take (.take (.off (.take (.take (.take (.take (.take (.take (.off (.go2 (.go1 (.off (.go1 (.take (.take (.take (.take (.take (.take (.take (.take (.take (.take (.take (.take (.take (.take (.take (.take (.take (.take (.take (.take (.take (.take (.take (.take (.off (.go1 (.take (.take (.take (.take (.take (.take (.take (.off (.go1 (.take (.take (.take (.off (.go1 (.off (.go1 (.take (.take (.take (.off (.go1 (.off (.go1 (.take (.take (.take (.take (.off (.go1 (.off (.go1 (.take (.take (.take (.take (.take (.take (.off (.go1 (.take (.take (.take (.take (.take (.take (.off (.go1 (.take (.take (.take (.take (.take (.off (.go1 (.take (.take (.take (.off (.go1 (.take (.take (.off (.go1 (.take (.take (.take .fin))))))))))))))))))))))))))))))))))))))))))))))))))))))))))))))))))))))))))))))))))))))))))))))) (.go1 (.off (.go1 (.take (.take (.take (.take (.take (.take (.take (.take (.take (.take (.take (.take (.take (.take (.take (.take (.take (.take (.take (.take (.take (.take (.take (.take (.off (.go1 (.take (.take (.take (.take (.take (.take (.take (.off (.go1 (.take (.take (.take (.off (.go1 (.off (.go1 (.take (.take (.take (.off (.go1 (.off (.go1 (.take (.take (.take (.take (.off (.go1 (.off (.go1 (.take (.take (.take (.take (.take (.take (.off (.go1 (.take (.take (.take (.take (.take (.take (.off (.go1 (.take (.take (.take (.take (.take (.off (.go1 (.take (.take (.take (.off (.go1 (.take (.take (.off (.go1 (.take (.take (.take .fin)))))))))))))))))))))))))))))))))))))))))))))))))))))))))))))))))))))))))))))))))))))))))))))))))))))))))))))) (.go1 (.off (.go1 (.take (.take (.take (.off (.take (.take (.take (.take (.take (.take (.off (.go2 (.go1 (.off (.go1 (.take (.take (.take (.take (.take (.take (.take (.take (.take (.take (.take (.take (.take (.take (.take (.take (.take (.take (.take (.take (.take (.take (.take (.take (.off (.go1 (.take (.take (.take (.take (.take (.take (.take (.off (.go1 (.take (.take (.take (.off (.go1 (.off (.go1 (.take (.take (.take (.off (.go1 (.off (.go1 (.take (.take (.take (.take (.off (.go1 (.off (.go1 (.take (.take (.take (.take (.take (.take (.off (.go1 (.take (.take (.take (.take (.take (.take (.off (.go1 (.take (.take (.take (.take (.take (.off (.go1 (.take (.take (.take (.off (.go1 (.take (.take (.off (.go1 (.take (.take (.take .fin))))))))))))))))))))))))))))))))))))))))))))))))))))))))))))))))))))))))))))))))))))))))))))))) (.go1 (.off (.go1 (.take (.take (.take (.take (.take (.take (.take (.take (.take (.take (.take (.take (.take (.take (.take (.take (.take (.take (.take (.take (.take (.take (.take (.take (.off (.go1 (.take (.take (.take (.take (.take (.take (.take (.off (.go1 (.take (.take (.take (.off (.go1 (.off (.go1 (.take (.take (.take (.off (.go1 (.off (.go1 (.take (.take (.take (.take (.off (.go1 (.off (.go1 (.take (.take (.take (.take (.take (.take (.off (.go1 (.take (.take (.take (.take (.take (.take (.off (.go1 (.take (.take (.take (.take (.take (.off (.go1 (.take (.take (.take (.off (.go1 (.take (.take (.off (.go1 (.take (.take (.take .fin))))))))))))))))))))))))))))))))))))))))))))))))))))))))))))))))))))))))))))))))))))))))))))))))))))))))))))))))))))))))))))) (.go1 (.off (.go1 (.take (.take (.take (.off (.take (.take (.take (.take (.take (.take (.off (.go2 (.go1 (.off (.go1 (.take (.take (.take (.off (.take (.take (.take (.take (.take (.take (.off (.go2 (.go1 (.off (.go1 (.take (.take (.take (.take (.take (.take (.take (.take (.take (.take (.take (.take (.take (.take (.take (.take (.take (.take (.take (.take (.take (.take (.take (.take (.off (.go1 (.take (.take (.take (.take (.take (.take (.take (.off (.go1 (.take (.take (.take (.off (.go1 (.off (.go1 (.take (.take (.take (.off (.go1 (.off (.go1 (.take (.take (.take (.take (.off (.go1 (.off (.go1 (.take (.take (.take (.take (.take (.take (.off (.go1 (.take (.take (.take (.take (.take (.take (.off (.go1 (.take (.take (.take (.take (.take (.off (.go1 (.take (.take (.take (.off (.go1 (.take (.take (.off (.go1 (.take (.take (.take .fin))))))))))))))))))))))))))))))))))))))))))))))))))))))))))))))))))))))))))))))))))))))))))))))) (.go1 (.off (.go1 (.take (.take (.take (.take (.take (.take (.take (.take (.take (.take (.take (.take (.take (.take (.take (.take (.take (.take (.take (.take (.take (.take (.take (.take (.off (.go1 (.take (.take (.take (.take (.take (.take (.take (.off (.go1 (.take (.take (.take (.off (.go1 (.off (.go1 (.take (.take (.take (.off (.go1 (.off (.go1 (.take (.take (.take (.take (.off (.go1 (.off (.go1 (.take (.take (.take (.take (.take (.take (.off (.go1 (.take (.take (.take (.take (.take (.take (.off (.go1 (.take (.take (.take (.take (.take (.off (.go1 (.take (.take (.take (.off (.go1 (.take (.take (.off (.go1 (.take (.take (.take .fin)))))))))))))))))))))))))))))))))))))))))))))))))))))))))))))))))))))))))))))))))))))))))))))))))))))))))))))) (.go1 (.off (.go1 (.take (.take (.take (.off (.take (.take (.take (.take (.take (.take (.off (.go2 (.go1 (.off (.go1 (.take (.take (.take (.take (.take (.take (.take (.take (.take (.take (.take (.take (.take (.take (.take (.take (.take (.take (.take (.take (.take (.take (.take (.take (.off (.go1 (.take (.take (.take (.take (.take (.take (.take (.off (.go1 (.take (.take (.take (.off (.go1 (.off (.go1 (.take (.take (.take (.off (.go1 (.off (.go1 (.take (.take (.take (.take (.off (.go1 (.off (.go1 (.take (.take (.take (.take (.take (.take (.off (.go1 (.take (.take (.take (.take (.take (.take (.off (.go1 (.take (.take (.take (.take (.take (.off (.go1 (.take (.take (.take (.off (.go1 (.take (.take (.off (.go1 (.take (.take (.take .fin))))))))))))))))))))))))))))))))))))))))))))))))))))))))))))))))))))))))))))))))))))))))))))))) (.go1 (.off (.go1 (.take (.take (.take (.take (.take (.take (.take (.take (.take (.take (.take (.take (.take (.take (.take (.take (.take (.take (.take (.take (.take (.take (.take (.take (.off (.go1 (.take (.take (.take (.take (.take (.take (.take (.off (.go1 (.take (.take (.take (.off (.go1 (.off (.go1 (.take (.take (.take (.off (.go1 (.off (.go1 (.take (.take (.take (.take (.off (.go1 (.off (.go1 (.take (.take (.take (.take (.take (.take (.off (.go1 (.take (.take (.take (.take (.take (.take (.off (.go1 (.take (.take (.take (.take (.take (.off (.go1 (.take (.take (.take (.off (.go1 (.take (.take (.off (.go1 (.take (.take (.take .fin)))))))))))))))))))))))))))))))))))))))))))))))))))))))))))))))))))))))))))))))))))))))))))))))))))))))))))))))))))))))))))))))))))) (Hd S) (by kernel_rfl) (by kernel_rfl) (by kernel_rfl) hS0 ?_
      generalize w8.drew = y0 at *
      iterate 4 (refine HP.take' ?_; apply Exists.intro; refine ⟨Or.inl ⟨by rfl, ?_⟩, ?_⟩; (intro x hx'; go_simp; first | done | with_reducible rfl); (try simp only [Act.put, List.setIfInBounds_toArray, List.set_cons_zero, List.set_cons_succ]))
      refine HP.off ?_
      refine HP.off ?_
      refine HP.both 82 83 rfl rfl (by decide) (fun v y => IS y v [1]) (fun v y => ∃ nb, v = .slice (some ⟨nb, 0, none⟩) 1 1 ∧ IS y (.slice (some ⟨nb, 0, none⟩) 1 1) [1]) (fun v y1 y2 h g => h.nw g) (fun v y1 y2 h g => by obtain ⟨nb, q, h⟩ := h; exact ⟨nb, q, h.nw g⟩) hS0 ?_ ?_ ?_ ?_ HN.out ?_
      · intro y t KK hKK
        (try simp only [Act.put, List.setIfInBounds_toArray, List.set_cons_zero, List.set_cons_succ] at hKK)
        (try simp only [Act.put, List.setIfInBounds_toArray, List.set_cons_zero, List.set_cons_succ])
        go_simp
        refine (pending_three _ _ (HE.out y t)).mono ?_
        rintro e yy ⟨pv, rfl, hg, hp⟩
        exact hKK _ _ hg hp
      · intro u y t KK hKK
        (try simp only [Act.put, List.setIfInBounds_toArray, List.set_cons_zero, List.set_cons_succ] at hKK)
        (try simp only [Act.put, List.setIfInBounds_toArray, List.set_cons_zero, List.set_cons_succ])
        go_simp
        refine (pending_three _ _ (HE.out y t)).mono ?_
        rintro e yy ⟨pv, rfl, hg, hp⟩
        exact hKK _ _ hg hp
      · intro y t KK hKK
        (try simp only [Act.put, List.setIfInBounds_toArray, List.set_cons_zero, List.set_cons_succ] at hKK)
        (try simp only [Act.put, List.setIfInBounds_toArray, List.set_cons_zero, List.set_cons_succ])
        go_simp
        exact hKK _ _ ((Nw.refl y).alloc (.cells #[.int .i64 1] 3)) ⟨_, rfl, is_one y 1⟩
      · intro u y t KK hKK
        (try simp only [Act.put, List.setIfInBounds_toArray, List.set_cons_zero, List.set_cons_succ] at hKK)
        (try simp only [Act.put, List.setIfInBounds_toArray, List.set_cons_zero, List.set_cons_succ])
        go_simp
        exact hKK _ _ ((Nw.refl y).alloc (.cells #[.int .i64 1] 3)) ⟨_, rfl, is_one y 1⟩
      intro pv nbv y1 hS1 hp hb
      obtain ⟨nb, rfl, hb⟩ := hb
      (try simp only [Act.put, List.setIfInBounds_toArray, List.set_cons_zero, List.set_cons_succ])
      clear hS0
      refine HP.off ?_
      refine HP.go1 (fun KK hKK => ?_)
      go_simp
      refine (same_any y1 _ _ [1] hp hb).mono ?_
      rintro e y2 ⟨rfl, hg⟩
      have hS2 := HN.out _ _ hS1 hg
      refine hKK.out _ _ hS2 ?_
      intro _
      clear hKK KK
      (try simp only [Act.put, List.setIfInBounds_toArray, List.set_cons_zero, List.set_cons_succ])
      clear hg hS1
      clear hp hb
      iterate 3 (refine HP.take' ?_; apply Exists.intro; refine ⟨Or.inl ⟨by rfl, ?_⟩, ?_⟩; (intro x hx'; go_simp; first | done | with_reducible rfl); (try simp only [Act.put, List.setIfInBounds_toArray, List.set_cons_zero, List.set_cons_succ]))
      refine HP.off ?_
      iterate 6 (refine HP.take' ?_; apply Exists.intro; refine ⟨Or.inl ⟨by rfl, ?_⟩, ?_⟩; (intro x hx'; go_simp; first | done | with_reducible rfl); (try simp only [Act.put, List.setIfInBounds_toArray, List.set_cons_zero, List.set_cons_succ]))
      refine HP.off ?_
      refine HP.both 88 95 rfl rfl (by decide) (fun v y => EvAt y v firstThird) (fun v y => ∃ nb, v = .slice (some ⟨nb, 0, none⟩) 2 2 ∧ EvAt y (.slice (some ⟨nb, 0, none⟩) 2 2) firstThird) (fun v y1 y2 h g => h.nw g) (fun v y1 y2 h g => by obtain ⟨nb, q, h⟩ := h; exact ⟨nb, q, h.nw g⟩) hS2 ?_ ?_ ?_ ?_ HN.out ?_
      · intro y t KK hKK
        (try simp only [Act.put, List.setIfInBounds_toArray, List.set_cons_zero, List.set_cons_succ] at hKK)
        (try simp only [Act.put, List.setIfInBounds_toArray, List.set_cons_zero, List.set_cons_succ])
        go_simp
        refine (complete_three _ _ _ (by decide) (HE.out y t)).mono ?_
        rintro e yy ⟨pv, rfl, hg, hp⟩
        exact hKK _ _ hg hp
      · intro u y t KK hKK
        (try simp only [Act.put, List.setIfInBounds_toArray, List.set_cons_zero, List.set_cons_succ] at hKK)
        (try simp only [Act.put, List.setIfInBounds_toArray, List.set_cons_zero, List.set_cons_succ])
        go_simp
        refine (complete_three _ _ _ (by decide) (HE.out y t)).mono ?_
        rintro e yy ⟨pv, rfl, hg, hp⟩
        exact hKK _ _ hg hp
      · intro y t KK hKK
        (try simp only [Act.put, List.setIfInBounds_toArray, List.set_cons_zero, List.set_cons_succ] at hKK)
        (try simp only [Act.put, List.setIfInBounds_toArray, List.set_cons_zero, List.set_cons_succ])
        go_simp
        exact hKK _ _ ((Nw.refl y).alloc (.cells #[.int .i64 0, .int .i64 0, .bool true, .int .i64 1, .int .i64 4, .int .i64 1, .int .i64 (-1), .int .i64 3, .int .i64 0, .int .i64 0, .int .i64 0, .bool false, .int .i64 0, .int .i64 0, .int .i64 0, .int .i64 0, .int .i64 0, .int .i64 1] 31)) ⟨_, rfl, evs_at (l := firstThird) (alloc_at y _ _) 2⟩
      · intro u y t KK hKK
        (try simp only [Act.put, List.setIfInBounds_toArray, List.set_cons_zero, List.set_cons_succ] at hKK)
        (try simp only [Act.put, List.setIfInBounds_toArray, List.set_cons_zero, List.set_cons_succ])
        go_simp
        exact hKK _ _ ((Nw.refl y).alloc (.cells #[.int .i64 0, .int .i64 0, .bool true, .int .i64 1, .int .i64 4, .int .i64 1, .int .i64 (-1), .int .i64 3, .int .i64 0, .int .i64 0, .int .i64 0, .bool false, .int .i64 0, .int .i64 0, .int .i64 0, .int .i64 0, .int .i64 0, .int .i64 1] 31)) ⟨_, rfl, evs_at (l := firstThird) (alloc_at y _ _) 2⟩
      intro pv nbv y3 hS3 hp hb
      obtain ⟨nb, rfl, hb⟩ := hb
      (try simp only [Act.put, List.setIfInBounds_toArray, List.set_cons_zero, List.set_cons_succ])
      clear hS2
      refine HP.off ?_
      refine HP.go1 (fun KK hKK => ?_)
      go_simp
      refine (sameE_any _ _ firstThird y3 (by decide) hp hb).mono ?_
      rintro e y4 ⟨rfl, hg⟩
      have hS4 := HN.out _ _ hS3 hg
      refine hKK.out _ _ hS4 ?_
      intro _
      clear hKK KK
      (try simp only [Act.put, List.setIfInBounds_toArray, List.set_cons_zero, List.set_cons_succ])
      clear hg hS3
      clear hp hb
      iterate 3 (refine HP.take' ?_; apply Exists.intro; refine ⟨Or.inl ⟨by rfl, ?_⟩, ?_⟩; (intro x hx'; go_simp; first | done | with_reducible rfl); (try simp only [Act.put, List.setIfInBounds_toArray, List.set_cons_zero, List.set_cons_succ]))
      refine HP.off ?_
      iterate 6 (refine HP.take' ?_; apply Exists.intro; refine ⟨Or.inl ⟨by rfl, ?_⟩, ?_⟩; (intro x hx'; go_simp; first | done | with_reducible rfl); (try simp only [Act.put, List.setIfInBounds_toArray, List.set_cons_zero, List.set_cons_succ]))
      refine HP.off ?_
      refine HP.both 100 107 rfl rfl (by decide) (fun v y => EvAt y v firstThird) (fun v y => ∃ nb, v = .slice (some ⟨nb, 0, none⟩) 2 2 ∧ EvAt y (.slice (some ⟨nb, 0, none⟩) 2 2) firstThird) (fun v y1 y2 h g => h.nw g) (fun v y1 y2 h g => by obtain ⟨nb, q, h⟩ := h; exact ⟨nb, q, h.nw g⟩) hS4 ?_ ?_ ?_ ?_ HN.out ?_
      · intro y t KK hKK
        (try simp only [Act.put, List.setIfInBounds_toArray, List.set_cons_zero, List.set_cons_succ] at hKK)
        (try simp only [Act.put, List.setIfInBounds_toArray, List.set_cons_zero, List.set_cons_succ])
        go_simp
        refine (of_three _ _ (HE.out y t)).mono ?_
        rintro e yy ⟨pv, rfl, hg, hp⟩
        exact hKK _ _ hg hp
      · intro u y t KK hKK
        (try simp only [Act.put, List.setIfInBounds_toArray, List.set_cons_zero, List.set_cons_succ] at hKK)
        (try simp only [Act.put, List.setIfInBounds_toArray, List.set_cons_zero, List.set_cons_succ])
        go_simp
        refine (of_three _ _ (HE.out y t)).mono ?_
        rintro e yy ⟨pv, rfl, hg, hp⟩
        exact hKK _ _ hg hp
      · intro y t KK hKK
        (try simp only [Act.put, List.setIfInBounds_toArray, List.set_cons_zero, List.set_cons_succ] at hKK)
        (try simp only [Act.put, List.setIfInBounds_toArray, List.set_cons_zero, List.set_cons_succ])
        go_simp
        exact hKK _ _ ((Nw.refl y).alloc (.cells #[.int .i64 0, .int .i64 0, .bool true, .int .i64 1, .int .i64 4, .int .i64 1, .int .i64 (-1), .int .i64 3, .int .i64 0, .int .i64 0, .int .i64 0, .bool false, .int .i64 0, .int .i64 0, .int .i64 0, .int .i64 0, .int .i64 0, .int .i64 1] 31)) ⟨_, rfl, evs_at (l := firstThird) (alloc_at y _ _) 2⟩
      · intro u y t KK hKK
        (try simp only [Act.put, List.setIfInBounds_toArray, List.set_cons_zero, List.set_cons_succ] at hKK)
        (try simp only [Act.put, List.setIfInBounds_toArray, List.set_cons_zero, List.set_cons_succ])
        go_simp
        exact hKK _ _ ((Nw.refl y).alloc (.cells #[.int .i64 0, .int .i64 0, .bool true, .int .i64 1, .int .i64 4, .int .i64 1, .int .i64 (-1), .int .i64 3, .int .i64 0, .int .i64 0, .int .i64 0, .bool false, .int .i64 0, .int .i64 0, .int .i64 0, .int .i64 0, .int .i64 0, .int .i64 1] 31)) ⟨_, rfl, evs_at (l := firstThird) (alloc_at y _ _) 2⟩
      intro pv nbv y5 hS5 hp hb
      obtain ⟨nb, rfl, hb⟩ := hb
      (try simp only [Act.put, List.setIfInBounds_toArray, List.set_cons_zero, List.set_cons_succ])
      clear hS4
      refine HP.off ?_
      refine HP.go1 (fun KK hKK => ?_)
      go_simp
      refine (sameE_any _ _ firstThird y5 (by decide) hp hb).mono ?_
      rintro e y6 ⟨rfl, hg⟩
      have hS6 := HN.out _ _ hS5 hg
      refine hKK.out _ _ hS6 ?_
      intro _
      clear hKK KK
      (try simp only [Act.put, List.setIfInBounds_toArray, List.set_cons_zero, List.set_cons_succ])
      clear hg hS5
      clear hp hb
      iterate 24 (refine HP.take' ?_; apply Exists.intro; refine ⟨Or.inl ⟨by rfl, ?_⟩, ?_⟩; (intro x hx'; go_simp; first | done | with_reducible rfl); (try simp only [Act.put, List.setIfInBounds_toArray, List.set_cons_zero, List.set_cons_succ]))
      refine HP.off ?_
      refine HP.go1 (fun KK hKK => ?_)
      go_simp
      refine (HB1.out y6).mono ?_
      rintro e y7 ⟨rfl, hg⟩
      have hS7 := HN.out _ _ hS6 hg
      refine hKK.out _ _ hS7 ?_
      intro _
      clear hKK KK
      (try simp only [Act.put, List.setIfInBounds_toArray, List.set_cons_zero, List.set_cons_succ])
      clear hg hS6
      iterate 7 (refine HP.take' ?_; apply Exists.intro; refine ⟨Or.inl ⟨by rfl, ?_⟩, ?_⟩; (intro x hx'; go_simp; first | done | with_reducible rfl); (try simp only [Act.put, List.setIfInBounds_toArray, List.set_cons_zero, List.set_cons_succ]))
      refine HP.off ?_
      refine HP.go1 (fun KK hKK => ?_)
      go_simp
      refine (HB2.out y7).mono ?_
      rintro e y8 ⟨rfl, hg⟩
      have hS8 := HN.out _ _ hS7 hg
      refine hKK.out _ _ hS8 ?_
      intro _
      clear hKK KK
      (try simp only [Act.put, List.setIfInBounds_toArray, List.set_cons_zero, List.set_cons_succ])
      clear hg hS7
      iterate 3 (refine HP.take' ?_; apply Exists.intro; refine ⟨Or.inl ⟨by rfl, ?_⟩, ?_⟩; (intro x hx'; go_simp; first | done | with_reducible rfl); (try simp only [Act.put, List.setIfInBounds_toArray, List.set_cons_zero, List.set_cons_succ]))
      refine HP.off ?_
      refine HP.go1 (fun KK hKK => ?_)
      go_simp
      have hg := (Nw.refl y8).alloc (.cells #[.int .i64 1, .int .i64 0] 3)
      have hb : IntsAt (y8.alloc (.cells #[.int .i64 1, .int .i64 0] 3)) (.slice (some ⟨y8.heap.size, 0, none⟩) 2 2) [1, 0] := ints_two (alloc_at y8 #[.int .i64 1, .int .i64 0] 3)
      have hS9 := HN.out _ _ hS8 hg
      refine hKK.out _ _ hS9 ?_
      intro _
      clear hKK KK
      (try simp only [Act.put, List.setIfInBounds_toArray, List.set_cons_zero, List.set_cons_succ])
      obtain ⟨nb, hnb⟩ : ∃ nb, y8.heap.size = nb := ⟨_, rfl⟩
      rw [hnb] at hb
      try rw [hnb]
      generalize y8.alloc (.cells #[.int .i64 1, .int .i64 0] 3) = y9 at *
      clear hg hnb hS8
      refine HP.off ?_
      refine HP.go1 (fun KK hKK => ?_)
      go_simp
      refine (HR1.out y9 _ hS9 hb).mono ?_
      rintro e y10 ⟨rfl, hg⟩
      have hS10 := HN.out _ _ hS9 hg
      refine hKK.out _ _ hS10 ?_
      intro _
      clear hKK KK
      (try simp only [Act.put, List.setIfInBounds_toArray, List.set_cons_zero, List.set_cons_succ])
      clear hg hS9
      clear hb
      iterate 3 (refine HP.take' ?_; apply Exists.intro; refine ⟨Or.inl ⟨by rfl, ?_⟩, ?_⟩; (intro x hx'; go_simp; first | done | with_reducible rfl); (try simp only [Act.put, List.setIfInBounds_toArray, List.set_cons_zero, List.set_cons_succ]))
      refine HP.off ?_
      refine HP.go1 (fun KK hKK => ?_)
      go_simp
      have hg := (Nw.refl y10).alloc (.cells #[.int .i64 0, .int .i64 0] 3)
      have hb : IntsAt (y10.alloc (.cells #[.int .i64 0, .int .i64 0] 3)) (.slice (some ⟨y10.heap.size, 0, none⟩) 2 2) [0, 0] := ints_two (alloc_at y10 #[.int .i64 0, .int .i64 0] 3)
      have hS11 := HN.out _ _ hS10 hg
      refine hKK.out _ _ hS11 ?_
      intro _
      clear hKK KK
      (try simp only [Act.put, List.setIfInBounds_toArray, List.set_cons_zero, List.set_cons_succ])
      obtain ⟨nb, hnb⟩ : ∃ nb, y10.heap.size = nb := ⟨_, rfl⟩
      rw [hnb] at hb
      try rw [hnb]
      generalize y10.alloc (.cells #[.int .i64 0, .int .i64 0] 3) = y11 at *
      clear hg hnb hS10
      refine HP.off ?_
      refine HP.go1 (fun KK hKK => ?_)
      go_simp
      refine (HR2.out y11 _ hS11 hb).mono ?_
      rintro e y12 ⟨rfl, hg⟩
      have hS12 := HN.out _ _ hS11 hg
      refine hKK.out _ _ hS12 ?_
      intro _
      clear hKK KK
      (try simp only [Act.put, List.setIfInBounds_toArray, List.set_cons_zero, List.set_cons_succ])
      clear hg hS11
      clear hb
      iterate 4 (refine HP.take' ?_; apply Exists.intro; refine ⟨Or.inl ⟨by rfl, ?_⟩, ?_⟩; (intro x hx'; go_simp; first | done | with_reducible rfl); (try simp only [Act.put, List.setIfInBounds_toArray, List.set_cons_zero, List.set_cons_succ]))
      refine HP.off ?_
      refine HP.go1 (fun KK hKK => ?_)
      go_simp
      have hg := (Nw.refl y12).alloc (.cells #[.int .i64 0] 3)
      have hb : IntsAt (y12.alloc (.cells #[.int .i64 0] 3)) (.slice (some ⟨y12.heap.size, 0, none⟩) 1 1) [0] := ints_one (alloc_at y12 #[.int .i64 0] 3)
      have hS13 := HN.out _ _ hS12 hg
      refine hKK.out _ _ hS13 ?_
      intro _
      clear hKK KK
      (try simp only [Act.put, List.setIfInBounds_toArray, List.set_cons_zero, List.set_cons_succ])
      obtain ⟨nb, hnb⟩ : ∃ nb, y12.heap.size = nb := ⟨_, rfl⟩
      rw [hnb] at hb
      try rw [hnb]
      generalize y12.alloc (.cells #[.int .i64 0] 3) = y13 at *
      clear hg hnb hS12
      refine HP.off ?_
      refine HP.go1 (fun KK hKK => ?_)
      go_simp
      refine (HR3.out y13 _ hS13 hb).mono ?_
      rintro e y14 ⟨rfl, hg⟩
      have hS14 := HN.out _ _ hS13 hg
      refine hKK.out _ _ hS14 ?_
      intro _
      clear hKK KK
      (try simp only [Act.put, List.setIfInBounds_toArray, List.set_cons_zero, List.set_cons_succ])
      clear hg hS13
      clear hb
      iterate 6 (refine HP.take' ?_; apply Exists.intro; refine ⟨Or.inl ⟨by rfl, ?_⟩, ?_⟩; (intro x hx'; go_simp; first | done | with_reducible rfl); (try simp only [Act.put, List.setIfInBounds_toArray, List.set_cons_zero, List.set_cons_succ]))
      refine HP.off ?_
      refine HP.go1 (fun KK hKK => ?_)
      go_simp
      refine (text_begin y14).mono ?_
      rintro e y15 ⟨rfl, hg⟩
      have hS15 := HN.out _ _ hS14 hg
      refine hKK.out _ _ hS15 ?_
      intro _
      clear hKK KK
      (try simp only [Act.put, List.setIfInBounds_toArray, List.set_cons_zero, List.set_cons_succ])
      clear hg hS14
      iterate 6 (refine HP.take' ?_; apply Exists.intro; refine ⟨Or.inl ⟨by rfl, ?_⟩, ?_⟩; (intro x hx'; go_simp; first | done | with_reducible rfl); (try simp only [Act.put, List.setIfInBounds_toArray, List.set_cons_zero, List.set_cons_succ]))
      refine HP.off ?_
      refine HP.go1 (fun KK hKK => ?_)
      go_simp
      refine (text_reply1 y15).mono ?_
      rintro e y16 ⟨rfl, hg⟩
      have hS16 := HN.out _ _ hS15 hg
      refine hKK.out _ _ hS16 ?_
      intro _
      clear hKK KK
      (try simp only [Act.put, List.setIfInBounds_toArray, List.set_cons_zero, List.set_cons_succ])
      clear hg hS15
      iterate 5 (refine HP.take' ?_; apply Exists.intro; refine ⟨Or.inl ⟨by rfl, ?_⟩, ?_⟩; (intro x hx'; go_simp; first | done | with_reducible rfl); (try simp only [Act.put, List.setIfInBounds_toArray, List.set_cons_zero, List.set_cons_succ]))
      refine HP.off ?_
      refine HP.go1 (fun KK hKK => ?_)
      go_simp
      refine (text_reply9 y16).mono ?_
      rintro e y17 ⟨rfl, hg⟩
      have hS17 := HN.out _ _ hS16 hg
      refine hKK.out _ _ hS17 ?_
      intro _
      clear hKK KK
      (try simp only [Act.put, List.setIfInBounds_toArray, List.set_cons_zero, List.set_cons_succ])
      clear hg hS16
      iterate 3 (refine HP.take' ?_; apply Exists.intro; refine ⟨Or.inl ⟨by rfl, ?_⟩, ?_⟩; (intro x hx'; go_simp; first | done | with_reducible rfl); (try simp only [Act.put, List.setIfInBounds_toArray, List.set_cons_zero, List.set_cons_succ]))
      refine HP.off ?_
      refine HP.go1 (fun KK hKK => ?_)
      go_simp
      refine (kitDB_val y17).mono ?_
      rintro e y18 ⟨rfl, hg⟩
      have hS18 := HN.out _ _ hS17 hg
      refine hKK.out _ _ hS18 ?_
      intro _
      clear hKK KK
      (try simp only [Act.put, List.setIfInBounds_toArray, List.set_cons_zero, List.set_cons_succ])
      clear hg hS17
      iterate 2 (refine HP.take' ?_; apply Exists.intro; refine ⟨Or.inl ⟨by rfl, ?_⟩, ?_⟩; (intro x hx'; go_simp; first | done | with_reducible rfl); (try simp only [Act.put, List.setIfInBounds_toArray, List.set_cons_zero, List.set_cons_succ]))
      refine HP.off ?_
      refine HP.go1 (fun KK hKK => ?_)
      go_simp
      refine (HTx.out y18 hS18).mono ?_
      rintro e y19 ⟨rfl, hg⟩
      have hS19 := HN.out _ _ hS18 hg
      refine hKK.out _ _ hS19 ?_
      intro _
      clear hKK KK
      (try simp only [Act.put, List.setIfInBounds_toArray, List.set_cons_zero, List.set_cons_succ])
      clear hg hS18
      iterate 3 (refine HP.take' ?_; apply Exists.intro; refine ⟨Or.inl ⟨by rfl, ?_⟩, ?_⟩; (intro x hx'; go_simp; first | done | with_reducible rfl); (try simp only [Act.put, List.setIfInBounds_toArray, List.set_cons_zero, List.set_cons_succ]))
      refine HP.end_ ?_
      refine NoPanic.normal ?_
      have hZ := HV.out _ hS19
      go_wp2
      go_ret
      exact ⟨rfl, hZ⟩

end Go.Proofs.YtekjmgdockfaiaaDoor.historyNames
