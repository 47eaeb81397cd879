/- Texts merged: QvL, QvV, QvW, QvY, QwA, QvP, QvQ, QvR, QwB, QwC, QwD, QwE, QwF, QwG, TbK -/
import Derived.Test.YtpffldfpabglbaaGreatDoorTableApartB13
import Derived.StillTailTactics
import Derived.Deep.QuietTactic
import Derived.BigQuiet
import Derived.Sort.OwnSortedInts
import Derived.Lib.RowBridge
import Derived.Shelf.Abstract
import Derived.Maps.OwnSet

/- The developers' package queue: without, Leave, Find, Mode. -/
section
namespace Go.Proofs.YtpffldfpabglbaaGreatDoor
open Go.RowKit
set_option linter.unusedVariables false      -- a contract need not use every name

end Go.Proofs.YtpffldfpabglbaaGreatDoor
end

/- The developers' package queue: Abandon, Hand. -/
section
namespace Go.Proofs.YtpffldfpabglbaaGreatDoor
open Go.RowKit
set_option linter.unusedVariables false      -- a contract need not use every name

end Go.Proofs.YtpffldfpabglbaaGreatDoor
end

/- The developers' package queue: Upgrade. -/
section
namespace Go.Proofs.YtpffldfpabglbaaGreatDoor
open Go.RowKit
set_option linter.unusedVariables false      -- a contract need not use every name

end Go.Proofs.YtpffldfpabglbaaGreatDoor
end

/- The developers' package queue: Group, Same. -/
section
namespace Go.Proofs.YtpffldfpabglbaaGreatDoor
open Go.RowKit
set_option linter.unusedVariables false      -- a contract need not use every name

end Go.Proofs.YtpffldfpabglbaaGreatDoor
end

/- The library's Sort and Compact at rows of ints that the call owns; plain facts of sorted lists. -/
section
namespace Go.Proofs.YtpffldfpabglbaaGreatDoor
open Go.RowKit Go.Sort
set_option linter.unusedVariables false

end Go.Proofs.YtpffldfpabglbaaGreatDoor
end

/- Plain facts: granting in the order of turns. -/
section
namespace Go.Proofs.YtpffldfpabglbaaGreatDoor
set_option linter.unusedVariables false

theorem steps_pre {W : Int} {q q' : List Rq} {ids : List Int} (h : Steps q ids q') (h0 : Ok W q) : ids <+: (scanQ q).1 := by
  have hw := h.wtg h0
  have := h.scn h0 (wtg q')
  unfold scanQ
  rw [← hw, Nat.add_comm, this]
  exact List.prefix_append _ _
theorem steps_len {W : Int} {q q' : List Rq} {ids : List Int} (h : Steps q ids q') (h0 : Ok W q) : q'.length = q.length := by
  rw [(h.form h0).1]; simp
/-- What holds between two grants. -/
structure TInv (q q' : List Rq) (T : List Int) (i : Nat) : Prop where
  same : ∀ x ∈ T.drop i, rqAt q' x = rqAt q x
  rest : ∀ k : Nat, k < q.length → (k : Int) ∉ T.drop i → ¬ 0 < (rqAt q' k).sn
structure TOk (q : List Rq) (T : List Int) : Prop where
  sorted : T.Pairwise (fun x y => tC q x y < 0)
  mem : ∀ x, x ∈ T ↔ ∃ k : Nat, k < q.length ∧ x = k ∧ 0 < (rqAt q x).sn
  nodup : T.Nodup
theorem ti_start {q : List Rq} {T : List Int} (h : TOk q T) : TInv q q T 0 := ⟨fun _ _ => rfl, fun k hk hn hs => hn (by rw [List.drop_zero]; exact (h.mem _).2 ⟨k, hk, rfl, hs⟩)⟩
theorem tC_tr {W : Int} {q : List Rq} (h : Ok W q) (x y z : Int) (h1 : tC q x y < 0) (h2 : tC q y z < 0) : tC q x z < 0 := by
  unfold tC at *
  rw [ahead_iff] at *
  generalize rqAt q x = a at *
  generalize rqAt q y = b at *
  generalize rqAt q z = c at *
  by_cases za : a.md = 0 <;> by_cases zb : b.md = 0 <;> by_cases zc : c.md = 0 <;> simp [za, zb, zc] at h1 h2 ⊢ <;> omega
theorem tC_tot {W : Int} {q : List Rq} (h : Ok W q) (x y : Int) (hx : ∃ k : Nat, k < q.length ∧ x = k ∧ 0 < (rqAt q x).sn) (hy : ∃ k : Nat, k < q.length ∧ y = k ∧ 0 < (rqAt q y).sn) (ne : x ≠ y) : tC q x y < 0 ∨ tC q y x < 0 := by
  obtain ⟨i, hi, rfl, si⟩ := hx
  obtain ⟨j, hj, rfl, sj⟩ := hy
  unfold tC
  rw [ahead_iff, ahead_iff]
  rw [rqAt_nat q i hi] at *
  rw [rqAt_nat q j hj] at *
  have hs : q[i].sn ≠ q[j].sn := by
    intro e
    have := h.injS _ (List.getElem_mem hi) _ (List.getElem_mem hj) si e
    have hid := List.pairwise_iff_getElem.1 h.pr
    rcases Nat.lt_trichotomy i j with g | g | g
    · exact (hid i j hi hj g).id (by rw [this])
    · exact ne (by rw [g])
    · exact (hid j i hj hi g).id (by rw [this])
  by_cases za : q[i].md = 0 <;> by_cases zb : q[j].md = 0 <;> simp [za, zb] <;> omega
theorem at_drop {T : List Int} {i : Nat} (hi : i < T.length) : T.drop i = T[i] :: T.drop (i + 1) := List.drop_eq_getElem_cons hi
/-- Who is next in turn. -/
theorem turn_next {W : Int} {q q' : List Rq} {ids : List Int} {T : List Int} {i : Nat} (h : Ok W q) (hs : Steps q ids q') (hT : TOk q T) (hI : TInv q q' T i) (hi : i < T.length) :
    ∃ k : Nat, T[i] = k ∧ ∃ hk : k < q'.length, q'[k] = rqAt q k ∧ 0 < q'[k].sn ∧ (fitB (cntQ q') q'[k].md q'[k].wt = true → canG q' q'[k] = true) ∧ (fitB (cntQ q') q'[k].md q'[k].wt = false → Done q') := by
  have hm : T[i] ∈ T := List.getElem_mem hi
  obtain ⟨k, hk, e, hsn⟩ := (hT.mem _).1 hm
  have ok := hs.ok h
  have hl := steps_len hs h
  have hk' : k < q'.length := by omega
  have hd := at_drop hi
  have hsm : rqAt q' k = rqAt q k := by rw [← e]; exact hI.same _ (by rw [hd]; exact List.mem_cons_self)
  have hq' : q'[k] = rqAt q k := by rw [← rqAt_nat q' k hk']; exact hsm
  have hsn' : 0 < q'[k].sn := by rw [hq', ← e]; exact hsn
  -- all others that wait come later
  have hlate : ∀ j (hj : j < q'.length), j ≠ k → 0 < q'[j].sn → toI q'[k] q'[j] < 0 := by
    intro j hj ne hsj
    have hjm : (j : Int) ∈ T.drop i := by
      refine Classical.byContradiction fun hn => hI.rest j (by omega) hn ?_
      rw [rqAt_nat q' j hj]; exact hsj
    rw [hd] at hjm
    rcases List.mem_cons.1 hjm with q1 | q1
    · rw [e] at q1; omega
    · have hp := hT.sorted
      rw [List.pairwise_iff_getElem] at hp
      obtain ⟨m, hm1, hm2⟩ := List.getElem_of_mem q1
      simp at hm1 hm2
      have := hp i (i + 1 + m) hi (by omega) (by omega)
      rw [hm2, e] at this
      unfold tC at this
      have h2 : rqAt q' j = rqAt q j := hI.same _ (by rw [hd]; exact List.mem_cons_of_mem _ q1)
      rw [rqAt_nat q' j hj] at h2
      rw [hq', h2]
      exact this
  have hfit : fitB (cntQ q') q'[k].md q'[k].wt = true ↔ ∀ o ∈ q', o.id ≠ q'[k].id → cpI o.md q'[k].wt = true := by
    rw [fit_all q' k hk' _ (fun R hR => (ok.rt R hR).md), List.all_eq_true]
    obtain ⟨hq, hl1, hl2⟩ := ok.nth k hk'
    constructor
    · intro hf o ho ne
      rw [hq] at ho
      rcases List.mem_append.1 ho with g | g
      · exact hf o (List.mem_append_left _ g)
      · rcases List.mem_cons.1 g with rfl | g
        · exact absurd rfl ne
        · exact hf o (List.mem_append_right _ g)
    · intro hf o ho
      rcases List.mem_append.1 ho with g | g
      · exact hf o (List.mem_of_mem_take g) (hl1 o g)
      · exact hf o (List.mem_of_mem_drop g) (hl2 o g)
  have hex : fitB (cntQ q') q'[k].md q'[k].wt = false → ∃ o ∈ q', o.id ≠ q'[k].id ∧ o.md ≠ 0 ∧ cpI o.md q'[k].wt = false := by
    intro hf
    refine Classical.byContradiction fun hn => ?_
    have : fitB (cntQ q') q'[k].md q'[k].wt = true := hfit.2 fun o ho ne => by
      cases hc : cpI o.md q'[k].wt with
      | true => rfl
      | false =>
        refine absurd ⟨o, ho, ne, fun z => ?_, hc⟩ hn
        rw [z, cp_zero _ (ok.rt _ (List.getElem_mem hk')).wt] at hc
        cases hc
    rw [this] at hf; cases hf
  refine ⟨k, e, hk', hq', hsn', fun hf => ?_, fun hf => ?_⟩
  · have hf' := hfit.1 hf
    by_cases z : q'[k].md = 0
    · refine cand_wa ok hk' z (fun a ha za => ?_) (fun a ha hu => ?_) (fun o ho ne _ => hf' o ho ne)
      · obtain ⟨j, hj, rfl⟩ := List.getElem_of_mem ha
        simp at hj za
        have hp := List.pairwise_iff_getElem.1 ok.pr j k (by omega) hk' (by omega)
        have hlt := hlate j (by omega) (by omega) ((ok.rt _ (List.getElem_mem (by omega))).w' za)
        rw [ahead_iff] at hlt
        have := (hp.ord za).2
        simp [z, za] at hlt
        omega
      · obtain ⟨j, hj, rfl⟩ := List.getElem_of_mem ha
        by_cases ne : j = k
        · subst ne; exact hu.1 z
        · have hlt := hlate j hj ne hu.2
          rw [ahead_iff] at hlt
          simp [z, hu.1] at hlt
    · refine cand_up ok (List.getElem_mem hk') ⟨z, hsn'⟩ (fun a ha hu => ?_) (fun o ho ne _ => hf' o ho ne)
      obtain ⟨j, hj, rfl⟩ := List.getElem_of_mem ha
      by_cases ne : j = k
      · subst ne; exact Int.le_refl _
      · have hlt := hlate j hj ne hu.2
        rw [ahead_iff] at hlt
        simp [z, hu.1] at hlt
        omega
  · have hf' := hex hf
    by_cases z : q'[k].md = 0
    · refine done_wa ok hk' z (fun a ha za => ?_) (fun a ha hu => ?_) hf'
      · obtain ⟨j, hj, rfl⟩ := List.getElem_of_mem ha
        simp at hj za
        have hp := List.pairwise_iff_getElem.1 ok.pr j k (by omega) hk' (by omega)
        have hlt := hlate j (by omega) (by omega) ((ok.rt _ (List.getElem_mem (by omega))).w' za)
        rw [ahead_iff] at hlt
        have := (hp.ord za).2
        simp [z, za] at hlt
        omega
      · obtain ⟨j, hj, rfl⟩ := List.getElem_of_mem ha
        by_cases ne : j = k
        · subst ne; exact hu.1 z
        · have hlt := hlate j hj ne hu.2
          rw [ahead_iff] at hlt
          simp [z, hu.1] at hlt
    · refine done_up ok (List.getElem_mem hk') ⟨z, hsn'⟩ (fun a ha hu => ?_) hf'
      obtain ⟨j, hj, rfl⟩ := List.getElem_of_mem ha
      by_cases ne : j = k
      · subst ne; exact Int.le_refl _
      · have hlt := hlate j hj ne hu.2
        rw [ahead_iff] at hlt
        simp [z, hu.1] at hlt
        omega
theorem turn_step {W : Int} {q q' : List Rq} {ids : List Int} {T : List Int} {i k : Nat} (h : Ok W q) (hs : Steps q ids q') (hT : TOk q T) (hI : TInv q q' T i) (hi : i < T.length) (e : T[i] = k) (hk : k < q'.length) (hc : canG q' q'[k] = true) :
    Steps q (ids ++ [q'[k].id]) (q'.set k (grtR q'[k])) ∧ TInv q (q'.set k (grtR q'[k])) T (i + 1) := by
  have ok := hs.ok h
  have hl := steps_len hs h
  have hd := at_drop hi
  have hnd := hT.nodup
  have hnk : (k : Int) ∉ T.drop (i + 1) := by
    have : (T.drop i).Nodup := List.Sublist.nodup (List.drop_sublist _ _) hnd
    rw [hd, e] at this
    exact (List.nodup_cons.1 this).1
  have hst := hs.snoc (List.getElem_mem hk) hc
  rw [chg_set ok grtR k hk] at hst
  have hat : ∀ j : Nat, j ≠ k → rqAt (q'.set k (grtR q'[k])) j = rqAt q' j := by
    intro j ne
    unfold rqAt
    simp only [Int.toNat_natCast, List.getD]
    rw [List.getElem?_set_ne (by omega)]
  refine ⟨hst, fun x hx => ?_, fun j hj hn => ?_⟩
  · obtain ⟨j, hj, rfl, _⟩ := (hT.mem x).1 (List.mem_of_mem_drop hx)
    have ne : j ≠ k := fun q1 => hnk (by rw [← q1]; exact hx)
    rw [hat j ne]
    exact hI.same _ (by rw [hd]; exact List.mem_cons_of_mem _ hx)
  · by_cases ne : j = k
    · subst ne
      rw [rqAt_nat _ j (by simpa using hk)]
      simp [grtR]
    · rw [hat j ne]
      refine hI.rest j hj fun q1 => ?_
      rw [hd] at q1
      rcases List.mem_cons.1 q1 with q2 | q2
      · rw [e] at q2; omega
      · exact hn q2
theorem turn_end {W : Int} {q q' : List Rq} {ids : List Int} {T : List Int} {i : Nat} (h : Ok W q) (hs : Steps q ids q') (hI : TInv q q' T i) (hi : ¬ i < T.length) : Done q' := by
  have hl := steps_len hs h
  intro s hsm
  cases c : canG q' s with
  | false => rfl
  | true =>
    obtain ⟨j, hj, rfl⟩ := List.getElem_of_mem hsm
    refine absurd (can_sn c) ?_
    have := hI.rest j (by omega) (by rw [List.drop_of_length_le (by omega)]; simp)
    rwa [rqAt_nat q' j hj] at this
end Go.Proofs.YtpffldfpabglbaaGreatDoor
end

/- AppendSeq, Collect of ints. -/
section
namespace Go.Proofs.YtpffldfpabglbaaGreatDoor
open Go.RowKit Go.Shelf
attribute [local go_sem] Oper.semAt_some

theorem cell_isCells {w : World} {a : Addr} {v : Value} (h : w.cell? a = some v) : ∃ o : Obj, w.heap[a.block]? = some o ∧ o.isCells = true := by
  unfold World.cell? at h
  cases ho : w.heap[a.block]? with
  | none => simp [ho] at h
  | some o => exact ⟨o, rfl, by cases o <;> simp_all [Obj.isCells]⟩
theorem Ch'.same {n₀ : Nat} {S : Nat → Prop} {A B : World} {a : Addr} {v : Value} (h : Ch' n₀ S A B) (hc : A.cell? a = some v) (hn : ¬ S a.block) : B.heap[a.block]? = A.heap[a.block]? := by
  obtain ⟨o, ho, hco⟩ := cell_isCells hc
  rcases h.block a.block (Array.getElem?_eq_some_iff.1 ho).1 hn with e | ⟨_, o', ho', hc'⟩
  · exact e
  · rw [ho] at ho'; cases ho'; rw [hco] at hc'; cases hc'
theorem SeqH.later {F : Fence} {n : Nat} {P : Program} {g : Nat} {fa lb : Array Value} {xs : List Int} {S0 : Nat → Prop} {End : World → Prop} {w w' : World} (h : SeqH F n P g fa lb xs S0 End w) (k : Nw w w') : SeqH F n P g fa lb xs S0 End w' :=
  fun l J Jx W hW => h l J Jx W (k.trans hW)
theorem wpListIn_append_run {F : Fence} {n : Nat} {P : Program} {w : World} {ops : Array Oper} {rest : List Oper} {o : Oper} {a : Act} {Q : Exit → Act → World → Prop}
    (hg : o.guard = none) (s x : Operand) (t : TypeId) (hop : o.op = Op.call { callee := Callee.builtin Builtin.append, args := #[s, x], argTypes := #[t, t] })
    (v u v' : Value) (w' : World) (hs : a.eval s = v) (hx : a.eval x = u) (hr : (Builtin.append_ #[t, t] o.type #[v, u]).run P w = .ok v' w') (h : wpListIn F n P ops Q rest (a.put o.dst v') w') : wpListIn F n P ops Q (o :: rest) a w := by
  refine wpListIn_plain hg fun K hK' => ?_
  unfold Oper.wpIn
  refine ⟨?_, ?_⟩
  · simp [Oper.about, hop, resolve, Target.leads, Sem.run_pure]
  · rw [Oper.semAt_plain F _ _ (by rw [hop]; intro c hc'; cases hc')]
    simp [execOp, hop, resolve, invoke, builtin, hs, hx, hr, Result.andThen]
    exact hK' _ _ h
theorem keepsD {a n₀ : Nat} {A B : World} (h : KeepsFrom a A B) (k : a ≤ n₀) (hn : ∀ k, (k = n₀ ∨ k = n₀ + 1) → ∃ o, A.heap[k]? = some o ∧ o.isCells = false) : KpD n₀ A B := fun i hi => by
  obtain ⟨o, ho, hc⟩ := hn i hi
  exact (h.same i o (by omega) ho hc).trans ho.symm
/-- What AppendSeq holds between two rounds. -/
def AsI (w : World) (S0 : Nat → Prop) (S : Nat → Prop) (pre : List Int) (A : World) : Prop :=
  ∃ v, A.cell? ⟨w.heap.size, 0, none⟩ = some v ∧ A.frozen? ⟨w.heap.size, 0, none⟩ = false ∧ IS A v pre ∧ (∀ k, v.ownBlock = some k → w.heap.size < k ∧ ¬ S k) ∧ ¬ S w.heap.size ∧ (∀ k, S k → S0 k ∨ w.heap.size ≤ k) ∧ Tch S0 w A
theorem AsI.step {w : World} {n₀ : Nat} {S0 S S' : Nat → Prop} {pre : List Int} {A B : World} (hn : w.heap.size ≤ n₀) (h : AsI w S0 S pre A) (k : Ch' n₀ S A B) (_h1 : ∀ k, S k → S' k) (h2 : ∀ k, S' k → S k ∨ A.heap.size ≤ k) : AsI w S0 S' pre B := by
  obtain ⟨v, a0, af, a1, a2, a3, a4, a5⟩ := h
  have e := k.same a0 a3
  refine ⟨v, (World.cell?_of_block e).trans a0, (World.frozen?_of_block e).trans af, k.row a1 (fun g e => (a2 g e).2), fun g e => ⟨(a2 g e).1, fun hs => ?_⟩, fun hs => ?_, fun i hs => ?_, k.tch a5 hn (fun i hi hs => (a4 i hs).resolve_right (by omega))⟩
  · rcases h2 g hs with h | h
    · exact (a2 g e).2 h
    · have := a1.lt e; omega
  · rcases h2 _ hs with h | h
    · exact a3 h
    · have := World.block_lt_of_cell? _ _ a0; simp only at this; omega
  · rcases h2 i hs with h | h
    · exact a4 i h
    · exact .inr (Nat.le_trans a5.size h)
/-- An append in a round. -/
theorem AsI.push {w : World} {S0 S : Nat → Prop} {pre : List Int} {x : Int} {A w1 : World} {v v' : Value} (a0 : A.cell? ⟨w.heap.size, 0, none⟩ = some v) (af : A.frozen? ⟨w.heap.size, 0, none⟩ = false) (a1 : IS A v pre) (a2 : ∀ k, v.ownBlock = some k → w.heap.size < k ∧ ¬ S k) (a3 : ¬ S w.heap.size) (a4 : ∀ k, S k → S0 k ∨ w.heap.size ≤ k) (a5 : Tch S0 w A)
    (hex : ∀ k, S k → k < A.heap.size) (p1 : IS w1 v' (pre ++ [x])) (p2 : Tch (fun k => v.ownBlock = some k) A w1) (p3 : ∀ k, v'.ownBlock = some k → v.ownBlock = some k ∨ A.heap.size ≤ k) :
    w1.cell? ⟨w.heap.size, 0, none⟩ = some v ∧ w1.frozen? ⟨w.heap.size, 0, none⟩ = false ∧ AsI w S0 S (pre ++ [x]) (w1.setCell ⟨w.heap.size, 0, none⟩ v') ∧ KpS S A (w1.setCell ⟨w.heap.size, 0, none⟩ v') ∧ KeepsFrom w.heap.size A (w1.setCell ⟨w.heap.size, 0, none⟩ v') := by
  have hbl := World.block_lt_of_cell? _ _ a0
  simp only at hbl
  have hnv : v.ownBlock ≠ some w.heap.size := fun e => by have := (a2 _ e).1; omega
  have c1 : w1.cell? ⟨w.heap.size, 0, none⟩ = some v := (p2.cell hbl hnv).trans a0
  have f1 : w1.frozen? ⟨w.heap.size, 0, none⟩ = false := (p2.froz hbl hnv).trans af
  have p4 : Tch (fun k => v.ownBlock = some k ∨ k = w.heap.size) A (w1.setCell ⟨w.heap.size, 0, none⟩ v') := (p2.mono (fun _ _ e => .inl e)).set (p := ⟨w.heap.size, 0, none⟩) (.inl (.inr rfl)) v'
  have hne : ∀ k, v'.ownBlock = some k → k ≠ w.heap.size := fun k e q => by
    rcases p3 k e with h | h
    · have := (a2 k h).1; omega
    · omega
  have hI : IS (w1.setCell ⟨w.heap.size, 0, none⟩ v') v' (pre ++ [x]) := p1.tch (setCell_at w1 ⟨w.heap.size, 0, none⟩ v') (fun g e q => hne g e q)
  refine ⟨c1, f1, ⟨v', ?_, ?_, hI, fun k e => ?_, a3, a4, a5.trans' p4 fun i hi e => ?_⟩, KpS.tch p4 fun k e => ⟨hex k e, fun q => ?_⟩, ⟨p4.size, fun k o hk h0 ho => ?_⟩⟩
  · exact World.cell?_setCell_same _ _ _ c1
  · rw [World.frozen?_setCell]; exact f1
  · rcases p3 k e with h | h
    · exact a2 k h
    · exact ⟨by omega, fun q => by have := hex k q; omega⟩
  · rcases e with e | rfl
    · have := (a2 i e).1; omega
    · omega
  · rcases q with q | rfl
    · exact (a2 k q).2 e
    · exact a3 e
  · refine (p4.block k (Array.getElem?_eq_some_iff.1 h0).1 ?_).trans h0
    rintro (e | rfl)
    · rcases a1.form with ⟨rfl, _⟩ | ⟨g, cap, rfl⟩
      · simp [Value.ownBlock] at e
      · rcases a1.2 with ⟨h', _⟩ | ⟨g2, cap2, cur, h', _, hg, _⟩
        · simp at h'
        · simp only [Value.slice.injEq, Option.some.injEq, Addr.mk.injEq, and_true, true_and] at h'
          obtain ⟨rfl, rfl⟩ := h'
          simp [Value.ownBlock] at e
          subst e
          rw [h0] at hg; cases hg; cases ho
    · obtain ⟨o', ho', hc'⟩ := cell_isCells a0
      rw [h0] at ho'; cases ho'; rw [ho] at hc'; cases hc'
def AsPost (w : World) (S0 : Nat → Prop) (End : World → Prop) (xs : List Int) (e : Ending) (W : World) : Prop :=
  ∃ v, e = .returned v ∧ IS W v xs ∧ (∀ k, v.ownBlock = some k → w.heap.size ≤ k) ∧ End W ∧ Tch S0 w W
set_option maxRecDepth 100000 in
set_option maxHeartbeats 4000000 in
theorem appendSeq_in (n : Nat) (hn : 3 ≤ n) (gf : Nat) (fa lb : Array Value) (eg : ∀ args w, (callFunc gf args).run Tryz.prog w = .ok (.enter gf args) w) (xs : List Int) (S0 : Nat → Prop) (End : World → Prop) (w : World) (hsm : xs.length ≤ 100000)
    (hS0 : ∀ k, S0 k → k < w.heap.size) (hseq : SeqH Fence.wide (n - 1) Tryz.prog gf fa lb xs S0 End w) (hEnd : ∀ (A : World) (l : Nat) (o o' : Obj), w.heap.size ≤ l → A.heap[l]? = some o → o.isCells = false → End A → End (A.putObj l o')) :
    CallsIn Fence.wide n Tryz.prog 229 #[.slice none 0 0, .func (.func gf) fa lb] w (AsPost w S0 End xs) := by
  have h1 : 1 ≤ n := by omega
  refine callsIn_of_wp_marks Tryz.func229 rfl trivial ?_ rfl
  simp only [Tryz.ntmps229, List.size_toArray, List.length_cons, List.length_nil, Nat.reduceAdd, Nat.reduceSub, Array.replicate_succ, Array.replicate_zero, List.push_toArray, List.append_toArray, List.nil_append, List.cons_append]
  gi_wp2
  have hA0 : AsI w S0 S0 [] (w.alloc (.cells #[.slice none 0 0] 60)) :=
    ⟨.slice none 0 0, by simp [go_sem], by simp [go_sem], World.ownsRow_nil _ _ _ _, fun k e => by simp [Value.ownBlock] at e, fun e => by have := hS0 _ e; omega, fun k e => .inl e, (Tch.refl _ _).alloc _⟩
  have hsz : (w.alloc (.cells #[.slice none 0 0] 60)).heap.size = w.heap.size + 1 := by simp
  have hnw : Nw w (w.alloc (.cells #[.slice none 0 0] 60)) := (Nw.refl w).alloc _
  obtain ⟨W0, hW0⟩ : ∃ W0, w.alloc (.cells #[.slice none 0 0] 60) = W0 := ⟨_, rfl⟩
  rw [hW0] at hA0 hsz hnw ⊢
  clear hW0
  refine rf_law rfl h1 (gf := gf) (fa := fa) (lb := lb) rfl trivial eg (S0 := S0) (End := End) (xs := xs) (fun k e => by have := hS0 k e; omega) (hseq.later hnw) rfl (fun A l o o' hl => hEnd A l o o' (by omega))
    (AsI w S0) (fun _ _ _ _ => False) (fun S S' pre A B hi hc e1 e2 _ => hi.step (by omega) hc e1 e2) (fun _ _ _ _ _ _ h _ _ _ _ => h) hA0
    (fun x => { tmps := #[.slice none 0 0, .func (.func gf) fa lb, .pointer (some ⟨w.heap.size, 0, none⟩), undef, .slice none 0 0, .int .i64 x, .func (.func gf) fa lb, .int .i64 x, undef, undef, undef, undef, undef], defers := [] }) ?assign ?body ?done ?stop
  case assign =>
    intro l x A K hK
    gi_wp2
    exact hK
  case body =>
    intro l S pre x A hi hsub hex hnc hpre
    obtain ⟨v, a0, af, a1, a2, a3, a4, a5⟩ := hi
    have hln : pre.length + 1 ≤ xs.length := by have := hpre.length_le; simpa using this
    obtain ⟨v', w1, hr, q1, q2, q3, ⟨g', cap', hv'⟩⟩ := IS.push A v pre x a1 (by omega)
    have HR := Lib.hid hr
    have HE0 := AsI.push a0 af a1 a2 a3 a4 a5 hex q1 q2 q3
    have hlt := World.block_lt_of_cell? _ _ a0
    have hf := a1.form
    have HN := Lib.hid hnc
    have c1 := HE0.1
    have f1 := HE0.2.1
    have HE := Lib.hid HE0.2.2
    have hlt1 := World.block_lt_of_cell? _ _ c1
    subst hv'
    clear hr q1 q2 q3 af a1 a2 a3 a4 a5 hex hsub hnc hpre hseq hEnd hA0 HE0
    have HSZ := Lib.hid hsz
    clear hsz
    rcases hf with ⟨rfl, hp0⟩ | ⟨g, cap, rfl⟩
    all_goals
      try clear hp0
      gi_wp2_with (gi_at_builtin; refine wpListIn_append_run rfl (.tmp 8) (.tmp 10) 60 rfl _ _ _ _ rfl rfl HR.out ?_)
      exact ⟨keepsD HE.out.2.2 (by have := HSZ.out; omega) (fun k e => (HN.out k e).2), HE.out.2.1, HE.out.1⟩
  case done =>
    intro D S W hD _ hi hE hK
    obtain ⟨v, a0, af, a1, a2, a3, a4, a5⟩ := hi
    have hlt := World.block_lt_of_cell? _ _ a0
    have HE : Hid (AsPost w S0 End xs (.returned v) (W.putObj D (.deferred none))) := by
      have hc : Ch' D (fun _ => False) W (W.putObj D (.deferred none)) := Ch'.put _ (.inl rfl) hK rfl
      exact ⟨v, rfl, hc.row a1 (fun _ _ e => e), fun k e => Nat.le_of_lt (a2 k e).1, hEnd W D _ _ (by omega) hK rfl hE, hc.tch a5 (by omega) (fun _ _ e => e.elim)⟩
    have hf := a1.form
    clear hseq hEnd hA0 a1 a2 a3 a4 a5 hE hS0 hD
    have HSZ := Lib.hid hsz
    clear hsz
    rcases hf with ⟨rfl, hp0⟩ | ⟨g, cap, rfl⟩
    all_goals
      try clear hp0
      gi_wp2
      refine ⟨by simp, .inl ⟨_, _, rfl, run_takeDeferred hK, ?_⟩⟩
      exact ⟨_, results_tmp (t := 4) rfl _ _ _, HE.out⟩
  case stop =>
    intro D c S pre W _ _ h _
    exact h.elim
theorem collect_any (gf : Nat) (fa lb : Array Value) (eg : ∀ args w, (callFunc gf args).run Tryz.prog w = .ok (.enter gf args) w) (xs : List Int) (S0 : Nat → Prop) (End : World → Prop) (w : World) (hsm : xs.length ≤ 100000)
    (hS0 : ∀ k, S0 k → k < w.heap.size) (hseq : SeqH Fence.wide 4 Tryz.prog gf fa lb xs S0 End w) (hEnd : ∀ (A : World) (l : Nat) (o o' : Obj), w.heap.size ≤ l → A.heap[l]? = some o → o.isCells = false → End A → End (A.putObj l o')) :
    Calls Tryz.prog 215 #[.func (.func gf) fa lb] w (AsPost w S0 End xs) := by
  have H := Lib.hid (callsIn_wide.1 (appendSeq_in 5 (by omega) gf fa lb eg xs S0 End w hsm hS0 hseq hEnd))
  clear hseq hEnd hS0
  go_enter Tryz.func215, Tryz.ntmps215
  go_wp2_with fail
  refine H.out.mono ?_
  rintro e w1 h
  obtain ⟨v, rfl, h⟩ := h
  have HP := Lib.hid h
  clear h
  go_wp2
  go_ret
  exact ⟨v, rfl, HP.out⟩
end Go.Proofs.YtpffldfpabglbaaGreatDoor
end

/- The developers' package queue: grants, an iterator; Scan. -/
section
namespace Go.Proofs.YtpffldfpabglbaaGreatDoor
open Go.RowKit Go.Shelf Go.Maps Go.ChangeMaps
attribute [local go_sem] Oper.semAt_some
set_option linter.unusedVariables false

theorem e_grants : ∀ args w, (callFunc 216 args).run Tryz.prog w = .ok (.enter 216 args) w := enters_of Tryz.func216 (by kernel_rfl) rfl
theorem rq_int_ne : 50 ≠ 3 := by decide
def SL (p b : Nat) (v : Value) : Nat → Prop := fun k => k = p ∨ k = b ∨ v.ownBlock = some k
theorem Ln.bound {w : World} {g0 p : Nat} {t r W : Int} {v : Value} {b n : Nat} {q : List Rq} {c : Int → Int} (h : Ln w g0 p t r W v b n q c) : ∀ k, SL p b v k → k < w.heap.size := by
  rintro k (rfl | rfl | e)
  · exact hlt h.obj
  · exact h.map.lt
  · exact olt h.own e
theorem Ln.kps {S : Nat → Prop} {A B : World} {g0 p : Nat} {t r W : Int} {v : Value} {b n : Nat} {q : List Rq} {c : Int → Int} (h : Ln A g0 p t r W v b n q c) (k : KpS S A B) (hS : ∀ i, SL p b v i → S i) : Ln B g0 p t r W v b n q c := by
  refine ⟨(k.same p (hS p (.inl rfl))).trans h.obj, ?_, ?_, h.gp, h.gb⟩
  · refine ⟨h.own.1, ?_⟩
    rcases h.own.2 with e | ⟨g, cap, cur, rfl, hb, hg, rest⟩
    · exact .inl e
    · exact .inr ⟨g, cap, cur, rfl, hb, (k.same g (hS g (.inr (.inr rfl)))).trans hg, rest⟩
  · obtain ⟨D, ⟨es, cl, hb, F, hs, hD⟩, h2, h3⟩ := h.map
    exact ⟨D, ⟨es, cl, (k.same b (hS b (.inr (.inl rfl)))).trans hb, F, hs, hD⟩, h2, h3⟩
theorem IS.kps {S : Nat → Prop} {A B : World} {v : Value} {l : List Int} (h : IS A v l) (k : KpS S A B) (hS : ∀ g, v.ownBlock = some g → S g) : IS B v l := by
  refine ⟨h.1, ?_⟩
  rcases h.2 with e | ⟨g, cap, cur, rfl, hb, hg, rest⟩
  · exact .inl e
  · exact .inr ⟨g, cap, cur, rfl, hb, (k.same g (hS g rfl)).trans hg, rest⟩
/-- What holds between two grants. -/
structure GrI (J : (Nat → Prop) → List Int → World → Prop) (S : Nat → Prop) (g0 p : Nat) (t r W : Int) (v : Value) (b n : Nat) (q : List Rq) (T : List Int) (vt : Value) (i : Nat) (pre : List Int) (q' : List Rq) (wr : World) : Prop where
  j : J S pre wr
  bd : ∀ k, S k → k < wr.heap.size
  row : IS wr vt T
  st : Steps q pre q'
  ti : TInv q q' T i
  ln : ∃ n', n' ≤ n + 2 * i ∧ Ln wr g0 p t r W v b n' q' (cntQ q')
def EndL (g0 p : Nat) (t r W : Int) (v : Value) (b : Nat) (q : List Rq) (w : World) : Prop := ∃ n', Ln w g0 p t r W v b n' q (cntQ q)
theorem is_fill {w : World} {v : Value} {l : List Int} {rb : Nat} (h : IS w v l) (hb : ∀ g, v.ownBlock = some g → g ≠ rb) (u0 u1 u2 u3 : Value) : IS ((((w.setCell ⟨rb, 0, none⟩ u0).setCell ⟨rb, 1, none⟩ u1).setCell ⟨rb, 2, none⟩ u2).setCell ⟨rb, 3, none⟩ u3) v l :=
  (((h.tch (setCell_at w ⟨rb, 0, none⟩ u0) hb).tch (setCell_at _ ⟨rb, 1, none⟩ u1) hb).tch (setCell_at _ ⟨rb, 2, none⟩ u2) hb).tch (setCell_at _ ⟨rb, 3, none⟩ u3) hb
theorem endl_put {g0 p : Nat} {t r W : Int} {v : Value} {b : Nat} {q : List Rq} {m : Nat} (hb : ∀ k, SL p b v k → k < m) (A : World) (l : Nat) (o o' : Obj) (hl : m ≤ l) (h : EndL g0 p t r W v b q A) : EndL g0 p t r W v b q (A.putObj l o') := by
  obtain ⟨n', h⟩ := h
  refine ⟨n', h.kps (S := SL p b v) ⟨by simp, fun k e => ?_⟩ (fun _ e => e)⟩
  exact World.putObj_heap_other (fun e2 => by have := hb k e; omega)
end Go.Proofs.YtpffldfpabglbaaGreatDoor
end

/- The developers' package queue: Blockers. -/
section
namespace Go.Proofs.YtpffldfpabglbaaGreatDoor
open Go.RowKit
set_option linter.unusedVariables false      -- a contract need not use every name

end Go.Proofs.YtpffldfpabglbaaGreatDoor
end

/- The developers' package queue: what a request of a valid head is. -/
section
namespace Go.Proofs.YtpffldfpabglbaaGreatDoor
open Go.RowKit
set_option linter.unusedVariables false      -- a contract need not use every name

end Go.Proofs.YtpffldfpabglbaaGreatDoor
end

/- The developers' package queue: the functions of a request that Check hands on. -/
section
namespace Go.Proofs.YtpffldfpabglbaaGreatDoor
open Go.RowKit
set_option linter.unusedVariables false      -- a contract need not use every name

end Go.Proofs.YtpffldfpabglbaaGreatDoor
end

/- The library's IsSortedFunc at requests. -/
section
namespace Go.Proofs.YtpffldfpabglbaaGreatDoor
open Go.RowKit
set_option linter.unusedVariables false      -- a contract need not use every name

end Go.Proofs.YtpffldfpabglbaaGreatDoor
end

/- The developers' package queue: whether what all hold agrees. -/
section
namespace Go.Proofs.YtpffldfpabglbaaGreatDoor
open Go.RowKit Go.Maps Go.ChangeMaps
set_option linter.unusedVariables false      -- a contract need not use every name

end Go.Proofs.YtpffldfpabglbaaGreatDoor
end

/- The developers' package queue: whether numbers are distinct: a map of keys. -/
section
namespace Go.Proofs.YtpffldfpabglbaaGreatDoor
open Go.RowKit Go.Maps Go.ChangeMaps
set_option linter.unusedVariables false      -- a contract need not use every name

theorem lawK : Keyed Tryz.prog 3 := int_keyed Tryz.underlying3
/-- A number that an int holds. -/
def Fit (k : Int) : Prop := -9223372036854775808 ≤ k ∧ k ≤ 9223372036854775807
theorem keyK {k : Int} (h : Fit k) : keyOf Tryz.prog 3 (.int .i64 k) = some (.int .i64 k) := keyOf_int_mk Tryz.underlying3 (wfM h.1 h.2)
theorem isKeyK {k : Int} (h : Fit k) : WideAt.IsKeyLit (.int .i64 k) := lawK.key (keyK h)
/-- The map in block b has these keys. -/
def KeyS (w : World) (b n : Nat) (l : List Int) : Prop :=
  ∃ D : DataW Unit, w.ownsMap Tryz.prog 3 (fun _ => some (.lit (.int .i64 0), [])) b n D ∧ (∀ k, Maps.has D (.int .i64 k) = decide (k ∈ l)) ∧ Maps.size D ≤ l.length ∧ (Maps.size D = l.length ↔ l.Nodup)
theorem KeyS.kept {w w' : World} {b n : Nat} {l : List Int} {row : Option Nat} (h : KeyS w b n l) (hg : w.grownBy w' row) (hne : some b ≠ row) : KeyS w' b n l := by
  obtain ⟨D, h1, h2⟩ := h
  exact ⟨D, h1.kept hg hne, h2⟩
theorem KeyS.nw {w w' : World} {b n : Nat} {l : List Int} (h : KeyS w b n l) (g : Nw w w') : KeyS w' b n l := h.kept (g.grownBy none) (by simp)
theorem KeyS.made (w : World) : KeyS (w.alloc (.map #[] 0)) w.heap.size 0 [] :=
  ⟨_, World.ownsMap_made _ _ _ _, fun k => by simp [Maps.has], by simp [Maps.size], by simp [Maps.size]⟩
end Go.Proofs.YtpffldfpabglbaaGreatDoor
end

/- The map of a table: numbers as keys, buckets as values. -/
section
namespace Go.Proofs.YtpffldfpabglbaaGreatDoor
open Go.RowKit Go.Maps Go.ChangeMaps Go.WideShapes
set_option linter.unusedVariables false      -- a contract need not use every name

abbrev ptN (p : Nat) : Value := .pointer (some ⟨p, 0, none⟩)
def entI (x : Int × Nat) : Lit × DataW Unit := (.int .i64 x.1, .lit (.int .i64 (x.2 : Int)))
/-- The map at mb holds these numbers and buckets. -/
structure MapI (w : World) (mb : Nat) (l : List (Int × Nat)) : Prop where
  own : ∃ es, w.ownsMap Tryz.prog 3 ptrElem mb l.length (.map es) ∧ es.Perm (l.map entI)
  wf : ∀ x ∈ l, Fit x.1
  ne : l.Pairwise fun x y => x.1 ≠ y.1
theorem zeroB (w : World) : (zeroValue 90).run Tryz.prog w = .ok (.pointer none) w := by kernel_rfl
variable {w w' : World} {mb : Nat} {l : List (Int × Nat)}
theorem MapI.kept {row : Option Nat} (h : MapI w mb l) (hg : w.grownBy w' row) (hne : some mb ≠ row) : MapI w' mb l := by
  obtain ⟨⟨es, h1, h2⟩, h3, h4⟩ := h
  exact ⟨⟨es, h1.kept hg hne, h2⟩, h3, h4⟩
theorem MapI.nw (h : MapI w mb l) (g : Nw w w') : MapI w' mb l := h.kept (g.grownBy none) (by simp)
theorem MapI.lt (h : MapI w mb l) : mb < w.heap.size := by obtain ⟨⟨es, h1, _⟩, _⟩ := h; exact h1.lt
theorem MapI.same (h : MapI w mb l) (e : w'.heap[mb]? = w.heap[mb]?) : MapI w' mb l := by
  obtain ⟨⟨es, ⟨a, c, h1, h2⟩, h3⟩, h4, h5⟩ := h
  exact ⟨⟨es, ⟨a, c, e.trans h1, h2⟩, h3⟩, h4, h5⟩
theorem MapI.tch {S : Nat → Prop} (h : MapI w mb l) (t : Tch S w w') (hS : ¬ S mb) : MapI w' mb l := h.same (t.block mb h.lt hS)
theorem MapI.perm {l' : List (Int × Nat)} (h : MapI w mb l) (p : l.Perm l') : MapI w mb l' := by
  obtain ⟨⟨es, h1, h2⟩, h3, h4⟩ := h
  exact ⟨⟨es, by rw [← p.length_eq]; exact h1, h2.trans (p.map entI)⟩, fun x hx => h3 x (p.mem_iff.2 hx), (p.pairwise_iff (fun {a b} (e : a.1 ≠ b.1) => e.symm)).1 h4⟩
theorem MapI.made (w : World) : MapI (w.alloc (.map #[] 0)) w.heap.size [] := ⟨⟨[], World.ownsMap_made _ _ _ _, by simp⟩, by simp, by simp⟩
theorem MapI.cellne (h : MapI w mb l) {b j : Nat} {v : Value} (hc : w.cell? ⟨b, j, none⟩ = some v) : b ≠ mb := by
  obtain ⟨⟨es, ⟨a, c, h1, _⟩, _⟩, _⟩ := h
  rintro rfl
  unfold World.cell? at hc
  simp only [h1] at hc
  cases hc
theorem litJ_inj {a b : Int} (e : Lit.int .i64 a = .int .i64 b) : a = b := by injection e
theorem MapI.has_in {es : List (Lit × DataW Unit)} (h2 : es.Perm (l.map entI)) {id : Int} {p : Nat} (hx : (id, p) ∈ l) (hf : Fit id) : Maps.has (DataW.map es) (.int .i64 id) = true := by
  rw [has_eq, any_perm h2, List.any_map, List.any_eq_true]
  exact ⟨_, hx, WideAt.sameKey_self (isKeyK hf)⟩
theorem MapI.has_no {es : List (Lit × DataW Unit)} (h2 : es.Perm (l.map entI)) {id : Int} (hx : ∀ x ∈ l, x.1 ≠ id) : Maps.has (DataW.map es) (.int .i64 id) = false := by
  rw [has_eq, any_perm h2, List.any_map, List.any_eq_false]
  intro x hm hs
  exact hx x hm (litJ_inj (WideAt.sameKey_eq hs))
theorem MapI.uniq (h4 : l.Pairwise fun x y => x.1 ≠ y.1) {id : Int} {p q : Nat} (hp : (id, p) ∈ l) (hq : (id, q) ∈ l) : p = q := by
  induction l with
  | nil => cases hp
  | cons z t ih =>
    obtain ⟨p1, p2⟩ := List.pairwise_cons.1 h4
    rcases List.mem_cons.1 hp with e | hp'
    · rcases List.mem_cons.1 hq with e2 | hq'
      · have := e.trans e2.symm
        exact congrArg Prod.snd this
      · exact (p1 _ hq' (show z.1 = id from (congrArg Prod.fst e).symm)).elim
    · rcases List.mem_cons.1 hq with e2 | hq'
      · exact (p1 _ hp' (show z.1 = id from (congrArg Prod.fst e2).symm)).elim
      · exact ih p2 hp' hq'
theorem MapI.at_in (h4 : l.Pairwise fun x y => x.1 ≠ y.1) {es : List (Lit × DataW Unit)} (h2 : es.Perm (l.map entI)) {id : Int} {p : Nat} (hx : (id, p) ∈ l) (hf : Fit id) (z : DataW Unit) : (DataW.map es).atKey (.int .i64 id) z = .lit (.int .i64 (p : Int)) := by
  unfold DataW.atKey
  simp only
  cases e : es.find? (fun q => q.1.sameKey (.int .i64 id)) with
  | none =>
    exfalso
    have := List.find?_eq_none.1 e (entI (id, p)) (h2.mem_iff.2 (List.mem_map.2 ⟨_, hx, rfl⟩))
    exact this (WideAt.sameKey_self (isKeyK hf))
  | some q =>
    have hm := h2.mem_iff.1 (List.mem_of_find?_eq_some e)
    obtain ⟨⟨y1, y2⟩, hy, rfl⟩ := List.mem_map.1 hm
    have hn := litJ_inj (WideAt.sameKey_eq (List.find?_some (p := fun q : Lit × DataW Unit => q.1.sameKey (.int .i64 id)) e))
    simp only at hn
    subst hn
    rw [MapI.uniq h4 hx hy]
    rfl
/-- 'b, is := m[id]'. -/
theorem MapI.look_yes (h : MapI w mb l) {id : Int} {p : Nat} (hx : (id, p) ∈ l) :
    (Instr.lookup 86 (.map (some mb)) (.int .i64 id) true).run Tryz.prog w = .ok (.tuple #[ptN p, .bool true]) w := by
  obtain ⟨⟨es, o, h2⟩, h3, h4⟩ := h
  have hf := h3 _ hx
  obtain ⟨v, ps, hr, hv⟩ := o.look_ok (t := 86) lawK Tryz.underlying86 (zeroB w) (zd := .nil) (zp := []) rfl (keyK hf)
  rw [MapI.at_in h4 h2 hx hf] at hv
  rw [ptrElem_inv hv, MapI.has_in h2 hx hf] at hr
  exact hr
theorem MapI.look_no (h : MapI w mb l) {id : Int} (hf : Fit id) (hx : ∀ x ∈ l, x.1 ≠ id) :
    (Instr.lookup 86 (.map (some mb)) (.int .i64 id) true).run Tryz.prog w = .ok (.tuple #[.pointer none, .bool false]) w := by
  obtain ⟨⟨es, o, h2⟩, h3, h4⟩ := h
  obtain ⟨v, ps, hr, hv⟩ := o.look_ok (t := 86) lawK Tryz.underlying86 (zeroB w) (zd := .nil) (zp := []) rfl (keyK hf)
  have hh := MapI.has_no h2 hx
  rw [atKey_of_not_has hh] at hv
  rw [ptrElem_nil hv, hh] at hr
  exact hr
theorem filtI (l : List (Int × Nat)) {id : Int} (hf : Fit id) : (l.map entI).filter (notKey (.int .i64 id)) = (l.filter fun x => !decide (x.1 = id)).map entI := by
  induction l with
  | nil => rfl
  | cons y t ih =>
    have e : notKey (.int .i64 id) (entI y) = !decide (y.1 = id) := by
      unfold notKey entI
      by_cases q : y.1 = id
      · subst q
        rw [WideAt.sameKey_self (isKeyK hf)]
        simp
      · have : (Lit.int .i64 y.1).sameKey (.int .i64 id) = false := sameKey_ne (fun e => q (litJ_inj e))
        rw [this]
        simp [q]
    rw [List.map_cons, List.filter_cons, List.filter_cons, e, ih]
    split <;> simp
theorem filt_all {l : List (Int × Nat)} {id : Int} (hx : ∀ x ∈ l, x.1 ≠ id) : (l.filter fun x => !decide (x.1 = id)) = l := List.filter_eq_self.2 fun x hm => by simpa using hx x hm
/-- 'm[id] = b' of a new number. -/
theorem MapI.put (h : MapI w mb l) (hn : l.length < 1000) {id : Int} (hf : Fit id) (p : Nat) (hx : ∀ x ∈ l, x.1 ≠ id) :
    ∃ w', (Instr.mapUpdate 86 (.map (some mb)) (.int .i64 id) (ptN p)).run Tryz.prog w = .ok () w' ∧ MapI w' mb ((id, p) :: l) ∧ w.mapTurned w' mb := by
  obtain ⟨⟨es, o, h2⟩, h3, h4⟩ := h
  obtain ⟨w', hr, o', hg⟩ := o.store (t := 86) lawK Tryz.underlying86 (by unfold maxLen; omega) (keyK hf) (val := ptN p) (d := .lit (.int .i64 (p : Int))) (ps := []) rfl
  have hp : (putKey (.int .i64 id) (.lit (.int .i64 (p : Int))) es).Perm (((id, p) :: l).map entI) := by
    unfold putKey
    refine (insert_perm _ _).trans ?_
    rw [List.map_cons]
    refine List.Perm.cons _ ?_
    refine (h2.filter _).trans ?_
    rw [filtI l hf, filt_all hx]
  refine ⟨w', hr, ⟨⟨_, own_tight o' ?_, hp⟩, fun y hy => ?_, ?_⟩, hg⟩
  · show (putKey (.int .i64 id) (.lit (.int .i64 (p : Int))) es).length = _
    rw [hp.length_eq, List.length_map]
  · rcases List.mem_cons.1 hy with rfl | hy
    · exact hf
    · exact h3 y hy
  · exact List.pairwise_cons.2 ⟨fun y hy e => hx y hy e.symm, h4⟩
/-- 'delete(m, id)'. -/
theorem MapI.del (h : MapI w mb l) {id : Int} (hf : Fit id) (ty : TypeId) :
    ∃ w', (Builtin.delete_ #[86, 3] ty #[.map (some mb), .int .i64 id]).run Tryz.prog w = .ok (.tuple #[]) w' ∧ MapI w' mb (l.filter fun x => !decide (x.1 = id)) ∧ w.mapTurned w' mb := by
  obtain ⟨⟨es, o, h2⟩, h3, h4⟩ := h
  obtain ⟨w', hr, o', hg⟩ := o.drop (t := 86) lawK Tryz.underlying86 (keyK hf) ty
  have hp : (delKey (.int .i64 id) es).Perm ((l.filter fun x => !decide (x.1 = id)).map entI) := by
    unfold delKey
    rw [← filtI l hf]
    exact h2.filter _
  refine ⟨w', hr, ⟨⟨_, own_tight o' ?_, hp⟩, fun y hy => h3 y ((List.mem_filter.1 hy).1), h4.filter _⟩, hg⟩
  show (delKey (.int .i64 id) es).length = _
  rw [hp.length_eq, List.length_map]
end Go.Proofs.YtpffldfpabglbaaGreatDoor
end
