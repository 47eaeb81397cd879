/- Texts merged: Rt, BdW, BdX, PoC, BdY, TbL, BdZ, TbP, TbQ, TbH, TbR -/
import Derived.Test.YtpffldfpabglbaaGreatDoorTableHoldsB19

/- A region that draws its order and whose last operation may change what the others read. Of no program. -/
section
namespace Go.Proofs.YtpffldfpabglbaaGreatDoor
open Go.RowKit Go.Shelf

variable {P : Program} {md : Region.Mode} {ops : Array Oper} {Q : Exit → Act → World → Prop} {S : World → Prop}
/-- Whatever order is picked from here on, and S holds behind every operation but the last. -/
def wpAnyT (P : Program) (md : Region.Mode) (ops : Array Oper) (Q : Exit → Act → World → Prop) (S : World → Prop) (t : Nat) : Nat → Array Bool → Act → World → Prop
  | 0, listed, a, w => Region.ready md ops listed = [] ∧ Q .normal a w
  | fuel + 1, listed, a, w =>
    (Region.ready md ops listed = [] → Q .normal a w) ∧
    ∀ i ∈ Region.ready md ops listed, wpOp P ops Q i (fun a' w' => (i = t ∨ S w') ∧ wpAnyT P md ops Q S t fuel (listed.setIfInBounds i true) a' w') a w
theorem wpAny_of_tail {t : Nat} : ∀ (fuel : Nat) (listed : Array Bool) (a : Act) (w : World), wpAnyT P md ops Q S t fuel listed a w → wpAny P md ops Q fuel listed a w
  | 0, _, _, _, h => h
  | fuel + 1, _, _, _, h => ⟨h.1, fun i hi => wpOp_mono (fun a' w' h' => wpAny_of_tail fuel _ a' w' h'.2) (h.2 i hi)⟩
def waitsFor (md : Region.Mode) (ops : Array Oper) (t i : Nat) : Bool := match ops[t]? with
  | some o => o.after.any fun e => Region.binds md e && e.on == i
  | none => true
theorem wpAnyT_first {t i : Nat} {oi : Oper} {v : Value} (hi : ops[i]? = some oi) (ht : waitsFor md ops t i = true) (hsel : ∀ (j : Nat) (o : Oper) cs b, ops[j]? = some o → o.op ≠ .select cs b)
    (hQ : ∀ c a w, Q (.panic c) (a.put oi.dst v) w → Q (.panic c) a w) :
    ∀ (fuel : Nat) (listed : Array Bool) (a : Act) (w : World),
      (∀ j oj, ops[j]? = some oj → j ≠ i → listed.getD j true = false → (∀ e ∈ oj.after, Region.binds md e = true → e.on ≠ i) → oi.apart ops oj = true) →
      i ∈ Region.ready md ops listed → YieldsIf P ops S oi v a → S w →
      wpAnyT P md ops Q S t fuel (listed.setIfInBounds i true) (a.put oi.dst v) w → wpAnyT P md ops Q S t (fuel + 1) listed a w := by
  intro fuel
  induction fuel with
  | zero =>
    intro listed a w _ hr hy hS H
    refine ⟨fun h => (by rw [h] at hr; cases hr), fun j hj => ?_⟩
    by_cases hji : j = i
    · subst hji; exact hy.wpOp hi hS ⟨.inr hS, H⟩
    · have := ready_mono hj hji
      rw [H.1] at this
      cases this
  | succ fuel ih =>
    intro listed a w hfree hr hy hS H
    refine ⟨fun h => (by rw [h] at hr; cases hr), fun j hj => ?_⟩
    by_cases hji : j = i
    · subst hji; exact hy.wpOp hi hS ⟨.inr hS, H⟩
    · have h1 := H.2 j (ready_mono hj hji)
      obtain ⟨hjun, oj, hoj, hall⟩ := mem_ready.1 hj
      have hnot : ∀ e ∈ oj.after, Region.binds md e = true → e.on ≠ i := fun e he hb heq => by
        have h1 := hall e he hb
        have h0 := (mem_ready.1 hr).1
        rw [heq] at h1
        rcases Nat.lt_or_ge i listed.size with h' | h'
        · simp [h'] at h0 h1; rw [h0] at h1; cases h1
        · simp [Array.getElem?_eq_none h'] at h1
      have hjt : j ≠ t := by
        rintro rfl
        unfold waitsFor at ht
        rw [hoj] at ht
        obtain ⟨e, he, hb⟩ := Array.any_eq_true'.1 ht
        rw [Bool.and_eq_true, beq_iff_eq] at hb
        exact hnot e he hb.1 hb.2
      have h2 := wpOp_putIf hoj (hfree j oj hoj hji hjun hnot) (fun cs b => hsel i oi cs b hi) (fun cs b => hsel j oj cs b hoj) hQ hy h1
      have hfree' : ∀ k ok, ops[k]? = some ok → k ≠ i → (listed.setIfInBounds j true).getD k true = false →
          (∀ e ∈ ok.after, Region.binds md e = true → e.on ≠ i) → oi.apart ops ok = true := fun k ok hk hki hun hno => by
        refine hfree k ok hk hki ?_ hno
        by_cases hjk : j = k
        · subst hjk; exact hjun
        · rw [getD_set_ne true hjk] at hun; exact hun
      refine wpOp_mono (fun a' w' h3 => ⟨h3.2.1, ih (listed.setIfInBounds j true) a' w' hfree' (ready_mono hr (Ne.symm hji)) h3.1 (h3.2.1.resolve_left hjt) ?_⟩) h2
      rw [Array.setIfInBounds_comm _ _ hji]
      exact h3.2.2
theorem wpAnyT_take {t i : Nat} {oi : Oper} {v : Value} {fuel : Nat} {listed : Array Bool} {a : Act} {w : World} (hi : ops[i]? = some oi) (ht : waitsFor md ops t i = true)
    (hs : Region.noSelect ops = true) (hf : Region.free md ops listed i = true) (hr : (Region.ready md ops listed).contains i = true)
    (hQ : ∀ c a w, Q (.panic c) (a.put oi.dst v) w → Q (.panic c) a w) (hy : YieldsIf P ops S oi v a) (hS : S w)
    (h : wpAnyT P md ops Q S t fuel (listed.setIfInBounds i true) (a.put oi.dst v) w) : wpAnyT P md ops Q S t (fuel + 1) listed a w :=
  wpAnyT_first hi ht (Region.noSelect_spec hs) hQ fuel listed a w (Region.free_spec hi hf) (by simpa using hr) hy hS h
theorem wpAnyT_done {t : Nat} {listed : Array Bool} {a : Act} {w : World} (hr : Region.ready md ops listed = []) (h : Q .normal a w) :
    ∀ fuel, wpAnyT P md ops Q S t fuel listed a w
  | 0 => ⟨hr, h⟩
  | _ + 1 => ⟨fun _ => h, by rw [hr]; simp⟩
/-- One that comes up now, ahead of the last. -/
theorem oneT {t i : Nat} {o : Oper} {fuel : Nat} {listed : Array Bool} {a : Act} {w : World} (hr : Region.ready md ops listed = [i]) (ho : ops[i]? = some o)
    (h : ∀ K' : Act → World → Prop, (∀ a w, i = t ∨ S w → wpAnyT P md ops Q S t fuel (listed.setIfInBounds i true) a w → K' a w) → if Region.wanted o (yielded ops a.tmps) = true then Oper.wp P o a w K' Q else K' (a.put o.dst undef) w) : wpAnyT P md ops Q S t (fuel + 1) listed a w :=
  ⟨fun h0 => absurd (hr ▸ h0) (by simp), fun j hj => by
    rw [hr] at hj
    obtain rfl : j = i := by simpa using hj
    exact opH ho (fun K' hK => h K' (fun a w q1 q2 => hK a w ⟨q1, q2⟩))⟩
theorem region_roundT {r n id : Nat} {l : List Oper} {a : Act} {w : World} (t : Nat) (S : World → Prop) (hm : P.follows .mixedOrders = true) (hd : l.all notDefer = true)
    (h : wpAnyT P .any l.toArray (NOr Q) S t l.toArray.size (Array.replicate l.toArray.size false) a w.drew) : (Code.region id l.toArray true).wpIn (Fence.wide.inRound r) n P Q a w :=
  wpIn_mono (wpIn_region_any hm (anyRound (fun o ho => List.all_eq_true.1 hd o (by simpa using ho)) _ _ _ _ (wpAny_of_tail _ _ _ _ h))) NOr.imp
end Go.Proofs.YtpffldfpabglbaaGreatDoor
end

/- Heads: what a round holds. -/
section
namespace Go.Proofs.YtpffldfpabglbaaGreatDoor
open Go.RowKit Go.Shelf
set_option linter.unusedVariables false      -- a contract need not use every name

theorem rq_blk {A B : World} {v : Value} {q : List Rq} (h : RqAt A v q) (hk : ∀ a n c j u, v = .slice (some a) n c → q ≠ [] → A.cell? ⟨a.block, j, none⟩ = some u → B.heap[a.block]? = A.heap[a.block]?) : RqAt B v q := by
  by_cases hq : q = []
  · subst hq
    obtain ⟨a, c, e, ⟨_, h⟩ | ⟨b, o, e2, hc⟩⟩ := h
    · exact ⟨a, c, e, .inl ⟨rfl, h⟩⟩
    · subst e2; exact ⟨_, c, e, .inl ⟨rfl, fun q => by cases q⟩⟩
  · obtain ⟨a, c, e, ⟨h, _⟩ | ⟨b, o, e2, hc⟩⟩ := h
    · exact absurd h hq
    · subst e2
      obtain ⟨y, t, hy⟩ := List.exists_cons_of_ne_nil hq
      have h0 : 0 < q.length := by rw [hy]; simp
      have hc0 := hc.cell 0 h0 0 _ rfl
      have hb : B.heap[b]? = A.heap[b]? := hk _ _ _ _ _ e hq hc0
      exact ⟨_, c, e, .inr ⟨b, o, rfl, World.block_lt_of_cell? _ _ ((World.cell?_of_block hb).trans hc0), fun i hi c u hu => (World.cell?_of_block hb).trans (hc.cell i hi c u hu)⟩⟩
theorem HmOk.blk {A B : World} {o : Nat} {u u' : Option Nat} {x : Hm} (h : HmOk A o u x) (hk : ∀ b j z, x.a = some b → x.h.q ≠ [] → A.cell? ⟨b.block, j, none⟩ = some z → B.heap[b.block]? = A.heap[b.block]? ∧ u' ≠ some b.block) : HmOk B o u' x := by
  refine ⟨rq_blk h.rd fun a n c j z e hq hc => (hk a j z (by unfold hmV at e; injection e) hq hc).1, h.cap, h.len, h.new, fun b e hq => ?_⟩
  obtain ⟨a, c, e1, ⟨q1, _⟩ | ⟨b', o', e2, hc⟩⟩ := h.rd
  · exact absurd q1 hq
  · unfold hmV at e1
    rw [e, e2] at e1
    injection e1 with e1 _ _
    injection e1 with e1
    subst e1
    obtain ⟨y, t, hy⟩ := List.exists_cons_of_ne_nil hq
    have h0 : 0 < x.h.q.length := by rw [hy]; simp
    exact (hk _ _ _ e hq (hc.cell 0 h0 0 _ rfl)).2
/-- A round's append, and what else stays. -/
theorem BxI.push2 {α : Type} {P : Program} {ST T sz bytes c : Nat} {row : α → List Value} (E : Elem P ST T sz bytes row) {w : World} {S0 S : Nat → Prop} {v : Value} {pre : List α} {A A1 : World} (h : BxI T sz row w c S0 S v pre A) (hw : w.heap.size ≤ c) (hex : ∀ k, S k → k < A.heap.size) (g : Nw A A1) (x : α) (b cc : Nat) (hx : ∀ j u, (row x)[j]? = some u → A1.cell? ⟨b, j, none⟩ = some u) (hsm : pre.length < 100000)
    {n₀ : Nat} (hD : ∀ k, (k = n₀ ∨ k = n₀ + 1) → ∃ o, A.heap[k]? = some o ∧ o.isCells = false) :
    ∃ v' w1, (Builtin.append_ #[ST, ST] ST #[v, .slice (some ⟨b, 0, none⟩) 1 cc]).run P A1 = .ok v' w1 ∧ (∃ g cap, v' = .slice (some ⟨g, 0, none⟩) (pre.length + 1) cap) ∧ w1.cell? ⟨c, 0, none⟩ = some v ∧ w1.frozen? ⟨c, 0, none⟩ = false ∧
      BxI T sz row w c S0 S v' (pre ++ [x]) (w1.setCell ⟨c, 0, none⟩ v') ∧ KpS S A (w1.setCell ⟨c, 0, none⟩ v') ∧ KpD n₀ A (w1.setCell ⟨c, 0, none⟩ v') ∧
      (∀ k, k < A1.heap.size → v.ownBlock ≠ some k → w1.heap[k]? = A1.heap[k]?) ∧ (v'.ownBlock = v.ownBlock ∨ v'.ownBlock = some A1.heap.size) := by
  have hc := h.lt
  obtain ⟨v', w1, h1, h2, h3, h4, h5⟩ := Own.push E (onw h.own g) x b cc hx hsm (by have := g.sz; omega)
  have hvc : ∀ k, v.ownBlock = some k → c < k := fun k hk => oge h.own hk
  have c1 : w1.cell? ⟨c, 0, none⟩ = some v := by
    have e : w1.heap[c]? = A1.heap[c]? := h3.block c (Nat.lt_of_lt_of_le hc g.sz) (fun q => by have := hvc c q.symm; omega)
    rw [World.cell?_of_block e]; exact g.kp h.cell
  have f1 : w1.frozen? ⟨c, 0, none⟩ = false := by
    have e : w1.heap[c]? = A1.heap[c]? := h3.block c (Nat.lt_of_lt_of_le hc g.sz) (fun q => by have := hvc c q.symm; omega)
    rw [World.frozen?_of_block e]; exact (g.froz hc).trans h.froz
  have hkeep : ∀ k, k < A.heap.size → v.ownBlock ≠ some k → k ≠ c → (w1.setCell ⟨c, 0, none⟩ v').heap[k]? = A.heap[k]? := fun k hk q1 q2 => by
    rw [Below.heap_setCell _ _ _ _ (by simpa using q2), h3.block k (Nat.lt_of_lt_of_le hk g.sz) (fun q => q1 q.symm)]
    exact g.block k hk
  refine ⟨v', w1, h1, h5, c1, f1, ⟨World.cell?_setCell_same _ _ _ c1, by rw [World.frozen?_setCell]; exact f1, own_st h2 (Nat.lt_succ_self c) _, fun k hk => ?_, h.box, h.sub, ?_⟩, ⟨?_, fun k hk => ?_⟩, fun k hk => ?_, fun k hk q => h3.block k hk (fun e => q e.symm), h4⟩
  · rcases h4 with q | q
    · exact h.row k (q ▸ hk)
    · rw [q] at hk
      have := Option.some.inj hk
      have := g.sz
      intro hs
      have := hex k hs
      omega
  · refine ((h.nw.trans g).gro h3 (fun k hk => ?_)).st (p := ⟨c, 0, none⟩) hw v'
    have := hvc k hk
    omega
  · have := h3.size
    have := g.sz
    have e : (w1.setCell ⟨c, 0, none⟩ v').heap.size = w1.heap.size := by simp
    omega
  · exact hkeep k (hex k hk) (fun q => h.row k q hk) (fun q => h.box (q ▸ hk))
  · obtain ⟨o, ho, hno⟩ := hD k hk
    refine hkeep k (hlt ho) (fun q => ?_) (fun q => ?_)
    · obtain ⟨cc, hcc⟩ := oheap h.own q
      rw [hcc] at ho; cases ho; cases hno
    · subst q
      obtain ⟨o', ho', hc'⟩ := cellsB h.cell
      rw [show (⟨k, 0, none⟩ : Addr).block = k from rfl, ho] at ho'; cases ho'; rw [hno] at hc'; cases hc'
/-- What Heads holds between two rounds. -/
structure HdI (w : World) (S0 S : Nat → Prop) (v : Value) (lm : List Hm) (pre : List Hp) (A : World) : Prop where
  bx : BxI 63 4 hmrow w w.heap.size S0 S v lm A
  eq : lm.map Hm.h = pre.map Hp.h
  ok : ∀ x ∈ lm, HmOk A w.heap.size v.ownBlock x ∧ ∀ b, x.a = some b → x.h.q ≠ [] → ¬ S b.block
theorem HdI.step {w A B : World} {n₀ : Nat} {S0 S S' : Nat → Prop} {v : Value} {lm : List Hm} {pre : List Hp} (hn : w.heap.size ≤ n₀) (h : HdI w S0 S v lm pre A) (k : Ch' n₀ (fun k => S k ∧ ¬ S0 k) A B) (h2 : ∀ k, S' k → S k ∨ A.heap.size ≤ k) : HdI w S0 S' v lm pre B := by
  refine ⟨h.bx.step hn k h2, h.eq, fun x hx => ?_⟩
  obtain ⟨h3, h4⟩ := h.ok x hx
  refine ⟨h3.blk fun b j z e hq hc => ⟨chSame (a := ⟨b.block, j, none⟩) k hc (fun q => h4 b e hq q.1), h3.off b e hq⟩, fun b e hq q => ?_⟩
  rcases h2 _ q with q | q
  · exact h4 b e hq q
  · obtain ⟨a, c, e1, ⟨q1, _⟩ | ⟨b', o', e2, hc⟩⟩ := h3.rd
    · exact hq q1
    · unfold hmV at e1
      rw [e, e2] at e1
      injection e1 with e1 _ _
      injection e1 with e1
      subst e1
      have := hc.lt
      have e3 : (⟨b', o', none⟩ : Addr).block = b' := rfl
      omega
/-- A row of heads of the call's own: o is the last block below it. -/
def HdsAt (w : World) (o : Nat) (v : Value) (hs : List Hq) : Prop := ∃ lm : List Hm, HmOwn w (o + 1) v lm ∧ lm.map Hm.h = hs ∧ ∀ x ∈ lm, HmOk w o v.ownBlock x
def HdPost (w : World) (hs : List Hq) (e : Ending) (W : World) : Prop := ∃ v, e = .returned v ∧ HdsAt W w.heap.size v hs ∧ Nw w W
/-- What stays while a head is copied. -/
def HdS (c xp : Nat) (v : Value) (t r W : Int) (a : Option Addr) (n m : Nat) (y : World) : Prop := y.cell? ⟨c, 0, none⟩ = some v ∧ y.cell? ⟨xp, 0, none⟩ = some (.int .i64 t) ∧ y.cell? ⟨xp, 1, none⟩ = some (.int .i64 r) ∧ y.cell? ⟨xp, 2, none⟩ = some (.slice a n m) ∧ y.cell? ⟨xp, 3, none⟩ = some (.int .i64 W)
theorem HdS.nw {c xp : Nat} {v : Value} {t r W : Int} {a : Option Addr} {n m : Nat} {y y' : World} (h : HdS c xp v t r W a n m y) (g : Nw y y') : HdS c xp v t r W a n m y' := ⟨g.kp h.1, g.kp h.2.1, g.kp h.2.2.1, g.kp h.2.2.2.1, g.kp h.2.2.2.2⟩
/-- A round: a head has been copied, its copy appended. -/
theorem HdI.push {w A z : World} {n₀ : Nat} {S0 S : Nat → Prop} {v : Value} {lm : List Hm} {pre : List Hp} (h : HdI w S0 S v lm pre A) (hex : ∀ k, S k → k < A.heap.size) (g : Nw A z) {t r W : Int} {q : List Rq} {x : Hp} (hx : x.h = ⟨t, r, W, q⟩) (hq : q.length ≤ 1000) {a1 : Option Addr} {c1 : Nat} (ho : RqOwn z A.heap.size (.slice a1 q.length c1) q) (hsm : lm.length < 100000)
    (hD : ∀ k, (k = n₀ ∨ k = n₀ + 1) → ∃ o, A.heap[k]? = some o ∧ o.isCells = false) {xp : Nat} {a : Option Addr} {m : Nat} (hxp : xp < w.heap.size) (hS : HdS w.heap.size xp v t r W a q.length m A) :
    ∃ v' w1, (Builtin.append_ #[40, 40] 40 #[v, .slice (some ⟨z.heap.size, 0, none⟩) 1 1]).run Tryz.prog (z.alloc (.cells #[.int .i64 t, .int .i64 r, .slice a1 q.length c1, .int .i64 W] 63)) = .ok v' w1 ∧ (∃ g cap, v' = .slice (some ⟨g, 0, none⟩) (lm.length + 1) cap) ∧ w1.cell? ⟨w.heap.size, 0, none⟩ = some v ∧ w1.frozen? ⟨w.heap.size, 0, none⟩ = false ∧
      HdS w.heap.size xp v t r W a q.length m w1 ∧
      (∃ lm', HdI w S0 S v' lm' (pre ++ [x]) (w1.setCell ⟨w.heap.size, 0, none⟩ v')) ∧ KpS S A (w1.setCell ⟨w.heap.size, 0, none⟩ v') ∧ KpD n₀ A (w1.setCell ⟨w.heap.size, 0, none⟩ v') := by
  have hal := allocAt z (.cells #[.int .i64 t, .int .i64 r, .slice a1 q.length c1, .int .i64 W] 63)
  have g1 : Nw z (z.alloc (.cells #[.int .i64 t, .int .i64 r, .slice a1 q.length c1, .int .i64 W] 63)) := (Nw.refl z).alloc _
  have hsz : (z.alloc (.cells #[.int .i64 t, .int .i64 r, .slice a1 q.length c1, .int .i64 W] 63)).heap.size = z.heap.size + 1 := by simp
  generalize z.alloc (.cells #[.int .i64 t, .int .i64 r, .slice a1 q.length c1, .int .i64 W] 63) = z1 at *
  obtain ⟨v', w1, h1, h2, h3, h4, h5, h6, h7, h8, h9⟩ := h.bx.push2 elemHm (Nat.le_refl _) hex (g.trans g1) (⟨⟨t, r, W, q⟩, a1, c1⟩ : Hm) z.heap.size 1 (fun j u hu => by
    rw [hcell hal]
    simpa [hmrow] using hu) hsm hD
  have hvl : ∀ k, v.ownBlock = some k → k < A.heap.size := fun k e => olt h.bx.own e
  have hvg : ∀ k, v.ownBlock = some k → w.heap.size < k := fun k e => oge h.bx.own e
  have hwA := h.bx.nw.sz
  have hAz := g.sz
  have hcl := h.bx.lt
  have keep : ∀ k, k < z1.heap.size → v.ownBlock ≠ some k → k ≠ w.heap.size → (w1.setCell ⟨w.heap.size, 0, none⟩ v').heap[k]? = z1.heap[k]? := fun k hk q1 q2 => by
    rw [Below.heap_setCell _ _ _ _ (by simpa using q2)]; exact h8 k hk q1
  have sc : ∀ j u, A.cell? ⟨xp, j, none⟩ = some u → w1.cell? ⟨xp, j, none⟩ = some u := fun j u e => by
    have e1 : w1.heap[xp]? = z1.heap[xp]? := h8 xp (by omega) (fun q => by have := hvg _ q; omega)
    rw [World.cell?_of_block e1]
    exact (g.trans g1).kp e
  refine ⟨v', w1, h1, h2, h3, h4, ⟨h3, sc _ _ hS.2.1, sc _ _ hS.2.2.1, sc _ _ hS.2.2.2.1, sc _ _ hS.2.2.2.2⟩, ⟨lm ++ [⟨⟨t, r, W, q⟩, a1, c1⟩], h5, by rw [List.map_append, List.map_append, h.eq]; simp [hx], fun y hy => ?_⟩, h6, h7⟩
  rcases List.mem_append.1 hy with hy | hy
  · obtain ⟨k1, k2⟩ := h.ok y hy
    refine ⟨k1.blk fun b j u e hne hc => ?_, k2⟩
    have hbl : b.block < A.heap.size := World.block_lt_of_cell? _ ⟨b.block, j, none⟩ hc
    have hbn : b.block ≠ w.heap.size := by
      have := k1.new b _ _ (by unfold hmV; rw [e])
      omega
    refine ⟨(keep b.block (by omega) (k1.off b e hne) hbn).trans ((g.trans g1).block _ hbl), ?_⟩
    rcases h9 with q9 | q9
    · rw [q9]; exact k1.off b e hne
    · rw [q9]; intro e9; have := Option.some.inj e9; omega
  · obtain rfl : y = ⟨⟨t, r, W, q⟩, a1, c1⟩ := by simpa using hy
    have hbk : ∀ b, a1 = some b → A.heap.size ≤ b.block ∧ b.block < z.heap.size := fun b e => by
      subst e
      rcases oform ho with ⟨e, _⟩ | ⟨g', cap, e⟩
      · cases e
      · cases e
        exact ⟨oge ho rfl, olt ho rfl⟩
    refine ⟨⟨?_, ?_, hq, fun b n c e => ?_, fun b e hne => ?_⟩, fun b e hne hs => ?_⟩
    · refine rq_blk (Rd.nw (RqOwn.rd ho) g1) fun b n c j u e hne hc => ?_
      unfold hmV at e
      simp only [Value.slice.injEq] at e
      have := hbk b e.1
      exact keep b.block (by omega) (fun q => by have := hvl _ q; omega) (by omega)
    · exact RqOwn.cap ho
    · unfold hmV at e
      simp only [Value.slice.injEq] at e
      have := hbk b e.1
      omega
    · have := hbk b e
      rcases h9 with q9 | q9
      · rw [q9]; intro q; have := hvl _ q; omega
      · rw [q9]; intro e9; have := Option.some.inj e9; omega
    · have := hbk b e
      have := hex _ hs
      omega
end Go.Proofs.YtpffldfpabglbaaGreatDoor
end

/- Heads. -/
section
namespace Go.Proofs.YtpffldfpabglbaaGreatDoor
open Go.RowKit Go.Sort Go.Shelf
set_option linter.unusedVariables false      -- a contract need not use every name
attribute [local go_sem] Oper.semAt_some

set_option maxRecDepth 100000 in
set_option maxHeartbeats 4000000 in
theorem heads_in (n : Nat) (hn : 4 ≤ n) {w : World} {o mb po nn : Nat} {l : List Hp} {L : List Bool} {F : Nat → Prop} (h : Db w o mb po nn l L F) :
    CallsIn Fence.wide n Tryz.prog 104 #[.pointer (some ⟨o, 0, none⟩)] w (HdPost w (hsP l)) := by
  have h1 : 1 ≤ n := by omega
  have hol := h.ol
  have hml := h.map.lt
  have hll := h.len
  have HMd := Lib.hid (bmade_yes o w h.c0)
  have H := Lib.hid h
  refine callsIn_of_wp_marks Tryz.func104 rfl trivial ?_ rfl
  simp only [Tryz.ntmps104, List.size_toArray, List.length_cons, List.length_nil, Nat.reduceAdd, Nat.reduceSub, Array.replicate_succ, Array.replicate_zero, List.push_toArray, List.append_toArray, List.nil_append, List.cons_append]
  clear h
  refine wpIn_wide.2 ?_
  go_wp2_with (go_at_call 115; refine HMd.out.mono ?_; rintro e w' ⟨rfl, rfl⟩)
  obtain ⟨W0, hW0⟩ : ∃ W0, w.alloc (.cells #[.slice none 0 0] 40) = W0 := ⟨_, rfl⟩
  have hnw : Nw w W0 := by rw [← hW0]; exact (Nw.refl w).alloc _
  have hsz : W0.heap.size = w.heap.size + 1 := by rw [← hW0]; simp
  have hA0 : ∃ v lm, HdI w (fun k => k = o ∨ k = mb) (fun k => k = o ∨ k = mb) v lm [] W0 := by
    refine ⟨.slice none 0 0, [], ⟨?_, ?_, World.ownsRow_nil _ _ _ _, fun k e => by simp [Value.ownBlock] at e, fun e => by omega, fun k e => .inl e, hnw⟩, rfl, by simp⟩
    · rw [← hW0]; simp [go_sem]
    · rw [← hW0]; simp [go_sem]
  have hseq := each_in (n - 1) (by omega) o mb l W0 ((H.out.nw hnw).c3) ((H.out.nw hnw).map) H.out.srt (by omega)
  rw [hW0]
  clear hW0 HMd
  refine (wpIn_wide (n := n)).1 ?_
  refine rg_law rfl h1 (gf := 147) (fa := #[.pointer (some ⟨o, 0, none⟩)]) (lb := #[]) rfl trivial e_each (S0 := fun k => k = o ∨ k = mb) (fun k e => by omega) hseq rfl
    (fun S pre A => ∃ v lm, HdI w (fun k => k = o ∨ k = mb) S v lm pre A) (fun _ _ _ _ => False)
    (fun S S' pre A B hi hc e1 e2 _ => by obtain ⟨v, lm, hi⟩ := hi; exact ⟨v, lm, hi.step (by omega) hc e2⟩) (fun _ _ _ _ _ _ h _ _ _ _ => h) hA0 (fun _ => none)
    (fun x bx => { tmps := #[.pointer (some ⟨o, 0, none⟩), undef, .slice none 0 0, .pointer (some ⟨w.heap.size, 0, none⟩), ptP x, .pointer (some ⟨o, 0, none⟩), .bool true, .bool false, .pointer (some ⟨o, 0, none⟩), .func (.func 147) #[.pointer (some ⟨o, 0, none⟩)] #[], ptP x, undef, undef, undef, undef, undef, undef, undef, undef, undef, undef, undef, undef, undef, undef, undef, undef, undef, undef], defers := [] }) ?assign ?body ?done ?stop
  case assign =>
    intro r x A K hK
    simp only [mkB] at hK
    gi_wp2
    exact hK
  case body =>
    intro r S pre x bx A hi hsub hex hnb hbl hnc hcx hpre
    obtain ⟨v, lm, hi⟩ := hi
    have hx : x ∈ l := hpre.subset (by simp)
    have hok := (H.out.nw hi.bx.nw).ok x hx
    have hxw : x.p < w.heap.size := (H.out.ok x hx).lt
    have hHd : HdS w.heap.size x.p v x.h.t x.h.r x.h.W x.a x.h.q.length x.c A := ⟨hi.bx.cell, hok.c0, hok.c1, hok.c2, hok.c3⟩
    have hlm : lm.length < 100000 := by
      have e1 := congrArg List.length hi.eq
      rw [List.length_map, List.length_map] at e1
      have e2 := hpre.length_le
      rw [List.length_append, List.length_singleton] at e2
      omega
    have HCl := Lib.hid (fun w1 (g : Nw A w1) => dClone (hpV x) x.h.q w1 hok.len (hok.rd.nw g))
    have HPu := Lib.hid (fun z (g : Nw A z) a1 c1 (ho : RqOwn z A.heap.size (.slice a1 x.h.q.length c1) x.h.q) => hi.push hex g (x := x) rfl hok.len ho hlm (n₀ := w.heap.size + 1) (fun k e => (hnc k (by rw [hsz]; exact e)).2) hxw hHd)
    unfold hpV at HCl
    obtain ⟨va, vn, vc, hv⟩ : ∃ va vn vc, v = .slice va vn vc := by
      rcases oform hi.bx.own with ⟨e, _⟩ | ⟨g, cap, e⟩
      · exact ⟨_, _, _, e⟩
      · exact ⟨_, _, _, e⟩
    subst hv
    have hcl := hi.bx.lt
    have hsz1 : W0.heap.size = w.heap.size + 1 := hsz
    clear hi hsub hex hnb hbl hnc hcx hpre hok hx hseq hA0 hlm
    obtain ⟨⟨xt, xr, xW, xq⟩, xp, xa, xc⟩ := x
    simp only at HCl HPu hHd hxw
    rw [hsz1]
    gi_wp2_with fail
    refine region_roundT 17 (HdS w.heap.size xp (.slice va vn vc) xt xr xW xa xq.length xc) (by kernel_rfl) (by kernel_rfl) ?_
    change wpAnyT _ _ _ _ _ _ 18 #[false, false, false, false, false, false, false, false, false, false, false, false, false, false, false, false, false, false] _ A.drew
    have hN0 : Nw A A.drew := (Nw.refl A).dr
    have hS0 := hHd.nw hN0
    obtain ⟨y, hy⟩ : ∃ y, A.drew = y := ⟨_, rfl⟩
    rw [hy] at hS0 hN0 ⊢
    clear hy
    refine wpAnyT_take (i := 0) (v := .slice va vn vc) rfl (by kernel_rfl) (by kernel_rfl) (by kernel_rfl) (by kernel_rfl) (fun c a w h => h) (.inl ⟨rfl, fun w hw => by obtain ⟨q0, q1, q2, q3, q4⟩ := hw; go_simp⟩) hS0 ?_
    simp only [Act.put, List.getElem_toArray, List.getElem_cons_zero, List.setIfInBounds_toArray, List.set_cons_zero, List.set_cons_succ]
    refine wpAnyT_take (i := 1) (v := .pointer (some ⟨xp, 0, none⟩)) rfl (by kernel_rfl) (by kernel_rfl) (by kernel_rfl) (by kernel_rfl) (fun c a w h => h) (.inl ⟨rfl, fun w hw => by obtain ⟨q0, q1, q2, q3, q4⟩ := hw; go_simp⟩) hS0 ?_
    simp only [Act.put, List.getElem_toArray, List.getElem_cons_zero, List.getElem_cons_succ, List.setIfInBounds_toArray, List.set_cons_zero, List.set_cons_succ]
    refine wpAnyT_take (i := 2) (v := .pointer (some ⟨xp, 0, none⟩)) rfl (by kernel_rfl) (by kernel_rfl) (by kernel_rfl) (by kernel_rfl) (fun c a w h => h) (.inl ⟨rfl, fun w hw => by obtain ⟨q0, q1, q2, q3, q4⟩ := hw; go_simp⟩) hS0 ?_
    simp only [Act.put, List.getElem_toArray, List.getElem_cons_zero, List.getElem_cons_succ, List.setIfInBounds_toArray, List.set_cons_zero, List.set_cons_succ]
    refine wpAnyT_take (i := 3) (v := .pointer (some ⟨xp, 0, none⟩)) rfl (by kernel_rfl) (by kernel_rfl) (by kernel_rfl) (by kernel_rfl) (fun c a w h => h) (.inl ⟨rfl, fun w hw => by obtain ⟨q0, q1, q2, q3, q4⟩ := hw; go_simp⟩) hS0 ?_
    simp only [Act.put, List.getElem_toArray, List.getElem_cons_zero, List.getElem_cons_succ, List.setIfInBounds_toArray, List.set_cons_zero, List.set_cons_succ]
    refine wpAnyT_take (i := 4) (v := .agg #[.int .i64 xt, .int .i64 xr]) rfl (by kernel_rfl) (by kernel_rfl) (by kernel_rfl) (by kernel_rfl) (fun c a w h => h) (.inl ⟨rfl, fun w hw => by obtain ⟨q0, q1, q2, q3, q4⟩ := hw; go_simp⟩) hS0 ?_
    simp only [Act.put, List.getElem_toArray, List.getElem_cons_zero, List.getElem_cons_succ, List.setIfInBounds_toArray, List.set_cons_zero, List.set_cons_succ]
    refine wpAnyT_take (i := 5) (v := .pointer (some ⟨xp, 0, none⟩)) rfl (by kernel_rfl) (by kernel_rfl) (by kernel_rfl) (by kernel_rfl) (fun c a w h => h) (.inl ⟨rfl, fun w hw => by obtain ⟨q0, q1, q2, q3, q4⟩ := hw; go_simp⟩) hS0 ?_
    simp only [Act.put, List.getElem_toArray, List.getElem_cons_zero, List.getElem_cons_succ, List.setIfInBounds_toArray, List.set_cons_zero, List.set_cons_succ]
    refine wpAnyT_take (i := 6) (v := .pointer (some ⟨xp, 0, none⟩)) rfl (by kernel_rfl) (by kernel_rfl) (by kernel_rfl) (by kernel_rfl) (fun c a w h => h) (.inl ⟨rfl, fun w hw => by obtain ⟨q0, q1, q2, q3, q4⟩ := hw; go_simp⟩) hS0 ?_
    simp only [Act.put, List.getElem_toArray, List.getElem_cons_zero, List.getElem_cons_succ, List.setIfInBounds_toArray, List.set_cons_zero, List.set_cons_succ]
    refine wpAnyT_take (i := 7) (v := .pointer (some ⟨xp, 2, none⟩)) rfl (by kernel_rfl) (by kernel_rfl) (by kernel_rfl) (by kernel_rfl) (fun c a w h => h) (.inl ⟨rfl, fun w hw => by obtain ⟨q0, q1, q2, q3, q4⟩ := hw; go_simp⟩) hS0 ?_
    simp only [Act.put, List.getElem_toArray, List.getElem_cons_zero, List.getElem_cons_succ, List.setIfInBounds_toArray, List.set_cons_zero, List.set_cons_succ]
    refine wpAnyT_take (i := 8) (v := .slice xa xq.length xc) rfl (by kernel_rfl) (by kernel_rfl) (by kernel_rfl) (by kernel_rfl) (fun c a w h => h) (.inl ⟨rfl, fun w hw => by obtain ⟨q0, q1, q2, q3, q4⟩ := hw; go_simp⟩) hS0 ?_
    simp only [Act.put, List.getElem_toArray, List.getElem_cons_zero, List.getElem_cons_succ, List.setIfInBounds_toArray, List.set_cons_zero, List.set_cons_succ]
    refine wpAnyT_take (i := 10) (v := .pointer (some ⟨xp, 0, none⟩)) rfl (by kernel_rfl) (by kernel_rfl) (by kernel_rfl) (by kernel_rfl) (fun c a w h => h) (.inl ⟨rfl, fun w hw => by obtain ⟨q0, q1, q2, q3, q4⟩ := hw; go_simp⟩) hS0 ?_
    simp only [Act.put, List.getElem_toArray, List.getElem_cons_zero, List.getElem_cons_succ, List.setIfInBounds_toArray, List.set_cons_zero, List.set_cons_succ]
    refine wpAnyT_take (i := 11) (v := .pointer (some ⟨xp, 0, none⟩)) rfl (by kernel_rfl) (by kernel_rfl) (by kernel_rfl) (by kernel_rfl) (fun c a w h => h) (.inl ⟨rfl, fun w hw => by obtain ⟨q0, q1, q2, q3, q4⟩ := hw; go_simp⟩) hS0 ?_
    simp only [Act.put, List.getElem_toArray, List.getElem_cons_zero, List.getElem_cons_succ, List.setIfInBounds_toArray, List.set_cons_zero, List.set_cons_succ]
    refine wpAnyT_take (i := 12) (v := .pointer (some ⟨xp, 3, none⟩)) rfl (by kernel_rfl) (by kernel_rfl) (by kernel_rfl) (by kernel_rfl) (fun c a w h => h) (.inl ⟨rfl, fun w hw => by obtain ⟨q0, q1, q2, q3, q4⟩ := hw; go_simp⟩) hS0 ?_
    simp only [Act.put, List.getElem_toArray, List.getElem_cons_zero, List.getElem_cons_succ, List.setIfInBounds_toArray, List.set_cons_zero, List.set_cons_succ]
    refine wpAnyT_take (i := 13) (v := .int .i64 xW) rfl (by kernel_rfl) (by kernel_rfl) (by kernel_rfl) (by kernel_rfl) (fun c a w h => h) (.inl ⟨rfl, fun w hw => by obtain ⟨q0, q1, q2, q3, q4⟩ := hw; go_simp⟩) hS0 ?_
    simp only [Act.put, List.getElem_toArray, List.getElem_cons_zero, List.getElem_cons_succ, List.setIfInBounds_toArray, List.set_cons_zero, List.set_cons_succ]
    refine oneT (i := 9) (by kernel_rfl) rfl (fun K hK => ?_)
    rw [if_pos (by rfl)]
    simp only [List.getElem_toArray, List.getElem_cons_zero, List.getElem_cons_succ]
    go_simp
    refine (HCl.out _ hN0).mono ?_
    rintro e z ⟨v1, rfl, g1, ho1⟩
    obtain ⟨a1, c1, hv1⟩ : ∃ a1 c1, v1 = .slice a1 xq.length c1 := by
      rcases oform ho1 with ⟨e, e2⟩ | ⟨g, cap, e⟩
      · exact ⟨none, 0, by rw [e, e2]⟩
      · exact ⟨_, _, e⟩
    subst hv1
    have hNz := hN0.trans g1
    have hSz := hS0.nw g1
    obtain ⟨v', w1, hr, ⟨gg, cap, hv'⟩, hcc, hff, hSw, hI, hK1, hK2⟩ := HPu.out z hNz a1 c1 (olow ho1 (fun g hg => by have := oge ho1 hg; have := hN0.sz; omega))
    subst hv'
    refine hK _ _ (.inr hSz) ?_
    clear hK K
    refine wpAnyT_take (i := 14) (v := .agg #[.int .i64 xt, .int .i64 xr, .slice a1 xq.length c1, .int .i64 xW]) rfl (by kernel_rfl) (by kernel_rfl) (by kernel_rfl) (by kernel_rfl) (fun c a w h => h) (.inl ⟨rfl, fun w hw => by obtain ⟨q0, q1, q2, q3, q4⟩ := hw; go_simp⟩) hSz ?_
    simp only [Act.put, List.getElem_toArray, List.getElem_cons_zero, List.getElem_cons_succ, List.setIfInBounds_toArray, List.set_cons_zero, List.set_cons_succ]
    refine oneT (i := 15) (by kernel_rfl) rfl (fun K hK => ?_)
    rw [if_pos (by rfl)]
    simp only [List.getElem_toArray, List.getElem_cons_zero, List.getElem_cons_succ]
    go_simp
    refine hK _ _ (.inr (hSz.nw ((Nw.refl z).alloc _))) ?_
    clear hK K
    refine oneT (i := 16) (by kernel_rfl) rfl (fun K hK => ?_)
    refine stp_app (by rfl) (.tmp 11) (.tmp 26) 40 rfl _ _ _ _ rfl rfl hr ?_
    refine hK _ _ (.inr hSw) ?_
    clear hK K
    simp only [Act.put, List.getElem_toArray, List.getElem_cons_zero, List.getElem_cons_succ, List.setIfInBounds_toArray, List.set_cons_zero, List.set_cons_succ]
    have HE := Lib.hid (And.intro hK2 (And.intro hK1 hI))
    have hwl := World.block_lt_of_cell? _ _ hcc
    refine oneT (i := 17) (by kernel_rfl) rfl (fun K hK => ?_)
    rw [if_pos (by rfl)]
    simp only [List.getElem_toArray, List.getElem_cons_zero, List.getElem_cons_succ]
    go_simp
    refine hK _ _ (.inl rfl) ?_
    clear hK K
    refine wpAnyT_done (by kernel_rfl) ?_ _
    change (NOr _ .normal _ _)
    unfold NOr
    exact ⟨HE.out.1, HE.out.2.1, _, HE.out.2.2⟩
  case done =>
    intro D S xs W hD _ hfin hi hK
    subst hfin
    obtain ⟨v, lm, hi⟩ := hi
    have HE : Hid (HdPost w (hsP xs) (.returned v) (W.putObj D (.deferred none))) := by
      have hc : Ch' D (fun k => S k ∧ ¬ (k = o ∨ k = mb)) W (W.putObj D (.deferred none)) := Ch'.put _ (.inl rfl) hK rfl
      have hi2 := hi.step (S' := S) (by omega) hc (fun k e => .inl e)
      exact ⟨v, rfl, ⟨lm, hi2.bx.own, hi2.eq, fun x hx => (hi2.ok x hx).1⟩, hi2.bx.nw⟩
    have hd := hi.bx.cell
    have hf := oform hi.bx.own
    clear hseq hA0 hi
    obtain ⟨va, vn, vc, hv⟩ : ∃ va vn vc, v = .slice va vn vc := by
      rcases hf with ⟨e, _⟩ | ⟨g, cap, e⟩
      · exact ⟨_, _, _, e⟩
      · exact ⟨_, _, _, e⟩
    subst hv
    go_wp2
    refine ⟨by simp, .inl ⟨_, _, rfl, run_takeDeferred hK, ?_⟩⟩
    exact ⟨_, results_tmp (t := 2) rfl _ _ _, HE.out⟩
  case stop =>
    intro D c S pre W _ _ h _
    exact h.elim
theorem heads_d {w : World} {o mb po nn : Nat} {l : List Hp} {L : List Bool} {F : Nat → Prop} (h : Db w o mb po nn l L F) :
    Calls Tryz.prog 104 #[.pointer (some ⟨o, 0, none⟩)] w (HdPost w (hsP l)) := callsIn_wide.1 (heads_in 4 (by omega) h)
end Go.Proofs.YtpffldfpabglbaaGreatDoor
end

/- A pool: New. -/
section
namespace Go.Proofs.YtpffldfpabglbaaGreatDoor
open Go.RowKit
set_option linter.unusedVariables false

theorem infoB : (Tryz.prog.info? 4).map (fun i => (i.zero, i.size, i.bytes)) = some (some (.bool false), 1, 1) := by kernel_rfl
theorem mk_bools (w : World) (N : Nat) (hN : N ≤ 1000) : (Instr.makeSlice 126 (.int .i64 N) (.int .i64 N)).run Tryz.prog w = .ok (.slice (some ⟨w.heap.size, 0, none⟩) N N) (w.alloc (.cells (Array.replicate N (.bool false)) 4)) := by
  obtain ⟨i0, hi, hz0, hz1, hz2⟩ := info_parts infoB
  have h := run_make (P := Tryz.prog) w 126 4 i0 (.bool false) Tryz.underlying126 hi hz0 .i64 .i64 N N (by omega) (Int.le_refl _) (by rw [hz2]; omega) (by omega)
  have e : madeCells (Value.bool false).cells (N * 1) = Array.replicate N (.bool false) := by
    apply Array.ext
    · simp [madeCells]
    · intro j h1 h2
      simp [madeCells, Value.cells, Nat.mod_one]
  rw [h, hz1]
  simp only [Int.toNat_natCast, e]
/-- Between two rounds: the heap has the first k numbers. -/
structure NewI (w : World) (N k : Nat) (v : Value) (l : List Int) (W : World) : Prop where
  nw : Nw w W
  hv : IHv W (w.heap.size + 1) 2 v l
  hs : IHs l (castL (List.range k))
  own : ∀ b, v.ownBlock = some b → w.heap.size + 2 ≤ b
  c0 : W.cell? ⟨w.heap.size + 1, 0, none⟩ = some (.pointer none)
  f0 : W.frozen? ⟨w.heap.size + 1, 0, none⟩ = false
  c1 : W.cell? ⟨w.heap.size + 1, 1, none⟩ = some (.slice (some ⟨w.heap.size, 0, none⟩) N N)
  cs : ∀ i, i < N → W.cell? ⟨w.heap.size, i, none⟩ = some (.bool false) ∧ W.frozen? ⟨w.heap.size, i, none⟩ = false
  sz : w.heap.size + 1 < W.heap.size
theorem newI_start (w : World) (N : Nat) (T U : TypeId) : NewI w N 0 (.slice none 0 0) [] ((w.alloc (.cells (Array.replicate N (.bool false)) T)).alloc (.cells #[.pointer none, .slice (some ⟨w.heap.size, 0, none⟩) N N, .slice none 0 0] U)) := by
  refine ⟨((Nw.refl w).alloc _).alloc _, ⟨by simp [go_sem], by simp [go_sem], IS.nil _, by simp [Value.ownBlock]⟩, IHs.nil, by simp [Value.ownBlock], by simp [go_sem], by simp [go_sem], by simp [go_sem], fun i hi => ?_, by simp⟩
  constructor <;> simp [go_sem, hi]
theorem NewI.step {w W W' : World} {N k : Nat} {v : Value} {l : List Int} (h : NewI w N k v l W) (hp : IPushH W (w.heap.size + 1) 2 v (castL (List.range (k + 1))) W') : ∃ v' l', NewI w N (k + 1) v' l' W' := by
  obtain ⟨g', cap', l', hp, hs, hor, ht, hsd⟩ := hp
  have hsz := h.sz
  have n1 : ¬ IOf (w.heap.size + 1) v w.heap.size := fun e => e.elim (fun e => by omega) (fun e => by have := h.own _ e; omega)
  refine ⟨_, l', nw_tch h.nw ht (fun i e => ?_), hp.v, hs, fun b e => ?_, (hsd 0 (by omega)).1.trans h.c0, (hsd 0 (by omega)).2.trans h.f0, (hsd 1 (by omega)).1.trans h.c1, fun i hi => ⟨(ht.cell (by omega) n1).trans (h.cs i hi).1, (ht.froz (by omega) n1).trans (h.cs i hi).2⟩, by have := ht.size; omega⟩
  · rcases e with e | e
    · omega
    · have := h.own _ e; omega
  · simp [Value.ownBlock] at e
    subst e
    rcases hor with q | q
    · exact h.own _ q.symm
    · omega
/-- What New returns. -/
def PNewP (w : World) (N : Nat) (e : Ending) (W : World) : Prop := ∃ p F, e = .returned (.tuple #[.pointer (some ⟨p, 0, none⟩), .int .i64 0]) ∧ Pol W p (List.replicate N false) F ∧ Nw w W ∧ (∀ k, F k → w.heap.size ≤ k)
theorem NewI.done {w W : World} {N : Nat} {v : Value} {l : List Int} (h : NewI w N N v l W) (hN : N ≤ 128) : PNewP w N (.returned (.tuple #[.pointer (some ⟨w.heap.size + 1, 0, none⟩), .int .i64 0])) (W.setCell ⟨w.heap.size + 1, 0, none⟩ (.pointer (some ⟨w.heap.size + 1, 0, none⟩))) := by
  have t := setCell_at W ⟨w.heap.size + 1, 0, none⟩ (.pointer (some ⟨w.heap.size + 1, 0, none⟩))
  have hsz := h.sz
  have o : ∀ j, j ≠ 0 → (W.setCell ⟨w.heap.size + 1, 0, none⟩ (.pointer (some ⟨w.heap.size + 1, 0, none⟩))).cell? ⟨w.heap.size + 1, j, none⟩ = W.cell? ⟨w.heap.size + 1, j, none⟩ := fun j hj => World.cell?_setCell_other _ _ _ _ (fun r => hj (congrArg Addr.off r).symm)
  refine ⟨w.heap.size + 1, _, rfl, ⟨w.heap.size, v, l, ⟨World.cell?_setCell_same _ _ _ h.c0, by rw [List.length_replicate]; exact (o 1 (by omega)).trans h.c1, fun i hi => ?_, by simp; omega, ?_, by rw [frI_new]; exact h.hs, by omega, fun e => by have := h.own _ e; omega, by rw [List.length_replicate]; exact hN⟩, rfl⟩, nw_tch h.nw t (fun i e => by simp at e; omega), ?_⟩
  · rw [List.length_replicate] at hi
    have e : (List.replicate N false).getD i false = false := by simp [List.getD, hi]
    rw [e]
    exact ⟨(t.cell (by omega) (by simp)).trans (h.cs i hi).1, by rw [World.frozen?_setCell]; exact (h.cs i hi).2⟩
  · refine ⟨(o 2 (by omega)).trans h.hv.hd, by rw [World.frozen?_setCell]; exact h.hv.hf, IS.tch h.hv.row t (fun b e => ?_), h.hv.ne⟩
    have := h.own b e
    simp; omega
  · rintro k (e | e | e)
    · omega
    · omega
    · have := h.own _ e; omega
set_option maxRecDepth 10000 in
set_option maxHeartbeats 1000000 in
theorem pnew_any (N : Nat) (hN : N ≤ 128) (w : World) : Calls Tryz.prog 44 #[.int .i64 N] w (PNewP w N) := by
  have km := fun w => mk_bools w N (by omega)
  have HS := Lib.hid (newI_start w N 4 131)
  have hd : decide (128 < N) = false := by simp; omega
  have hd2 : decide ((128 : Int) < (N : Int)) = false := by simp; omega
  go_enter Tryz.func44, Tryz.ntmps44
  go_wp2
  go_loopw [17] (fun i wr => ∃ k : Nat, k ≤ N ∧ i = .int .i64 k ∧ ∃ v l, Hid (NewI w N k v l wr)) (fun i _ => N - (intOf i).toNat)
  case atStart => exact ⟨0, Nat.zero_le _, rfl, _, _, HS⟩
  case round =>
    obtain ⟨k, hk, rfl, v, l, HI⟩ := hrel
    by_cases hlt : k < N
    · have hp := ihpush_any (w.heap.size + 1) 2 v l (castL (List.range k)) k wr HI.out.hv HI.out.hs (by rw [HI.out.hs.len, castL_range_len]; omega)
      rw [range_ins] at hp
      have HP := Lib.hid hp
      clear hp
      go_wp2_with fail
      refine HP.out.mono ?_
      rintro e w1 ⟨rfl, hw1⟩
      obtain ⟨v', l', hI⟩ := HI.out.step hw1
      have HI' := Lib.hid hI
      clear hw1 hI
      go_wp2
      go_roundw
      case rel => exact ⟨k + 1, by omega, by go_num, v', l', HI'⟩
      case measure => simp [intOf]; omega
    · obtain rfl : k = N := by omega
      have c0 := HI.out.c0
      have f0 := HI.out.f0
      have hz := HI.out.sz
      have HD := Lib.hid (HI.out.done hN)
      go_wp2
      exact bodyPost_ret (v := .tuple #[.pointer (some ⟨w.heap.size + 1, 0, none⟩), .int .i64 0]) (by simp [results, Tryz.results44, go_sem]) rfl HD.out
end Go.Proofs.YtpffldfpabglbaaGreatDoor
end

/- New. -/
section
namespace Go.Proofs.YtpffldfpabglbaaGreatDoor
open Go.RowKit Go.Shelf
set_option linter.unusedVariables false      -- a contract need not use every name

theorem hsL_neg (L : List Bool) : hsL L (-1) = false := by
  cases e : hsL L (-1) with
  | false => rfl
  | true => obtain ⟨i, hi, _⟩ := hsL_at e; omega
/-- What New returns. -/
def DNew (w : World) (po n : Nat) (L : List Bool) (F : Nat → Prop) (e : Ending) (W : World) : Prop := ∃ o mb, e = .returned (.tuple #[.pointer (some ⟨o, 0, none⟩), .int .i64 0]) ∧ Db W o mb po n [] L F ∧ Nw w W ∧ w.heap.size ≤ o ∧ w.heap.size ≤ mb
theorem dnew_made {w : World} {po n : Nat} {L : List Bool} {F : Nat → Prop} (h : Pol w po L F) (T : TypeId) :
    DNew w po n L F (.returned (.tuple #[.pointer (some ⟨w.heap.size + 1, 0, none⟩), .int .i64 0])) ((w.alloc (.map #[] 0)).alloc (.cells #[.pointer (some ⟨w.heap.size + 1, 0, none⟩), .int .i64 n, .pointer (some ⟨po, 0, none⟩), .map (some w.heap.size)] T)) := by
  have hs1 : (w.alloc (.map #[] 0)).heap.size = w.heap.size + 1 := by simp
  have hb := allocAt (w.alloc (.map #[] 0)) (.cells #[.pointer (some ⟨w.heap.size + 1, 0, none⟩), .int .i64 n, .pointer (some ⟨po, 0, none⟩), .map (some w.heap.size)] T)
  rw [hs1] at hb
  have hN : Nw w ((w.alloc (.map #[] 0)).alloc (.cells #[.pointer (some ⟨w.heap.size + 1, 0, none⟩), .int .i64 n, .pointer (some ⟨po, 0, none⟩), .map (some w.heap.size)] T)) := ((Nw.refl w).alloc _).alloc _
  have hM : MapH ((w.alloc (.map #[] 0)).alloc (.cells #[.pointer (some ⟨w.heap.size + 1, 0, none⟩), .int .i64 n, .pointer (some ⟨po, 0, none⟩), .map (some w.heap.size)] T)) w.heap.size [] := (MapH.made w).nw ((Nw.refl _).alloc _)
  generalize (w.alloc (.map #[] 0)).alloc (.cells #[.pointer (some ⟨w.heap.size + 1, 0, none⟩), .int .i64 n, .pointer (some ⟨po, 0, none⟩), .map (some w.heap.size)] T) = z at *
  have hF : ∀ k, F k → k < w.heap.size := h.own
  refine ⟨w.heap.size + 1, w.heap.size, rfl, ⟨?_, ?_, ?_, ?_, hlt hb, fun e => ?_, fun e => ?_, hM, List.Pairwise.nil, by simp, h.nw hN, by simp⟩, hN, Nat.le_succ _, Nat.le_refl _⟩
  · rw [hcell hb]; rfl
  · rw [hcell hb]; rfl
  · rw [hcell hb]; rfl
  · rw [hcell hb]; rfl
  · have := hF _ e; omega
  · have := hF _ e; omega
set_option maxRecDepth 10000 in
set_option maxHeartbeats 1000000 in
theorem new_d {w : World} {po : Nat} {L : List Bool} {F : Nat → Prop} (h : Pol w po L F) (n : Nat) (h1 : 1 ≤ n) (h2 : n ≤ 64) :
    Calls Tryz.prog 45 #[.int .i64 n, .pointer (some ⟨po, 0, none⟩)] w (DNew w po n L F) := by
  have hmm := @run_makeMap Tryz.prog
  have HD := Lib.hid (dnew_made (n := n) h 137)
  obtain ⟨g, v, l, hp, rfl⟩ := h
  have HG := Lib.hid (give_bad hp (-1) (hsL_neg L))
  have d1 : decide ((n : Int) < 1) = false := by simp; omega
  have d2 : decide ((64 : Int) < (n : Int)) = false := by simp; omega
  clear hp h1 h2
  go_enter Tryz.func45, Tryz.ntmps45
  go_wp2_with (go_at_call 95; refine HG.out.mono ?_; rintro e w' ⟨rfl, rfl⟩)
  exact bodyPost_ret (v := .tuple #[.pointer (some ⟨w.heap.size + 1, 0, none⟩), .int .i64 0]) (by simp [results, Tryz.results45, go_sem, *]) rfl HD.out
end Go.Proofs.YtpffldfpabglbaaGreatDoor
end

/- The developers' table in memory: its blocks, what a call of one bucket, a store into the map leave. -/
section
namespace Go.Proofs.YtpffldfpabglbaaGreatDoor
open Go.RowKit
set_option linter.unusedVariables false

structure Cps where
  s : Int
  h : Int
  r : Int
  p : Int
abbrev capV (c : Cps) : Value := .agg #[.int .i64 c.s, .int .i64 c.h, .int .i64 c.r, .int .i64 c.p]
/-- Which bucket has which number. -/
def hvT (ds : List DB) : List (Int × Nat) := ds.flatMap fun d => (allIds (hsP d.l)).map fun id => (id, d.o)
theorem hv_app (a b : List DB) : hvT (a ++ b) = hvT a ++ hvT b := by unfold hvT; rw [List.flatMap_append]
theorem hv_cons (d : DB) (b : List DB) : hvT (d :: b) = ((allIds (hsP d.l)).map fun id => (id, d.o)) ++ hvT b := rfl
theorem hv_mid {ds : List DB} {i : Nat} (hi : i < ds.length) (d : DB) : (hvT (ds.set i d)).Perm (((allIds (hsP d.l)).map fun id => (id, d.o)) ++ hvT (ds.take i ++ ds.drop (i + 1))) := by
  rw [List.set_eq_take_append_cons_drop, if_pos hi, hv_app, hv_cons, hv_app, ← List.append_assoc, ← List.append_assoc]
  exact List.perm_append_comm.append_right _
theorem hv_self {ds : List DB} {i : Nat} (hi : i < ds.length) : (hvT ds).Perm (((allIds (hsP ds[i].l)).map fun id => (id, ds[i].o)) ++ hvT (ds.take i ++ ds.drop (i + 1))) := by
  have := hv_mid hi ds[i]
  rwa [List.set_getElem_self] at this
theorem hv_same {ds : List DB} {i : Nat} (hi : i < ds.length) {l' : List Hp} {mb : Nat} (p : (allIds (hsP l')).Perm (allIds (hsP ds[i].l))) : (hvT (ds.set i ⟨ds[i].o, mb, l'⟩)).Perm (hvT ds) :=
  (hv_mid hi _).trans (((p.map _).append_right _).trans (hv_self hi).symm)
theorem hv_take {ds : List DB} {i : Nat} (hi : i < ds.length) {l' : List Hp} {mb : Nat} {id : Int} (p : (allIds (hsP l')).Perm (id :: allIds (hsP ds[i].l))) : (hvT (ds.set i ⟨ds[i].o, mb, l'⟩)).Perm ((id, ds[i].o) :: hvT ds) := by
  refine (hv_mid hi _).trans (((p.map _).append_right _).trans ?_)
  rw [List.map_cons, List.cons_append]
  exact (hv_self hi).symm.cons _
theorem hv_mem {ds : List DB} {id : Int} {p : Nat} : (id, p) ∈ hvT ds ↔ ∃ d ∈ ds, d.o = p ∧ id ∈ allIds (hsP d.l) := by
  unfold hvT
  rw [List.mem_flatMap]
  constructor
  · rintro ⟨d, hd, h⟩
    obtain ⟨i, hi, e⟩ := List.mem_map.1 h
    obtain ⟨rfl, rfl⟩ := Prod.mk.inj e
    exact ⟨d, hd, rfl, hi⟩
  · rintro ⟨d, hd, rfl, hi⟩
    exact ⟨d, hd, List.mem_map.2 ⟨id, hi, rfl⟩⟩
theorem hv_ids (ds : List DB) : (hvT ds).map Prod.fst = tIds (hssD ds) := by
  unfold hvT tIds hssD
  rw [List.map_flatMap, List.flatMap_map]
  congr 1
  funext d
  rw [List.map_map]
  exact (List.map_congr_left fun _ _ => rfl).trans (List.map_id _)
theorem hv_len (ds : List DB) : (hvT ds).length = (tIds (hssD ds)).length := by rw [← hv_ids, List.length_map]

structure TbM (W : World) (o n : Nat) (C : Cps) (bb cp hb po : Nat) (ds : List DB) (hv : List (Int × Nat)) (L : List Bool) (F : Nat → Prop) : Prop where
  c0 : W.cell? ⟨o, 0, none⟩ = some (ptN o)
  c1 : W.cell? ⟨o, 1, none⟩ = some (.int .i64 C.s)
  c2 : W.cell? ⟨o, 2, none⟩ = some (.int .i64 C.h)
  c3 : W.cell? ⟨o, 3, none⟩ = some (.int .i64 C.r)
  c4 : W.cell? ⟨o, 4, none⟩ = some (.int .i64 C.p)
  c5 : W.cell? ⟨o, 5, none⟩ = some (ptN po)
  c6 : W.cell? ⟨o, 6, none⟩ = some (.slice (some ⟨bb, 0, none⟩) ds.length cp)
  c7 : W.cell? ⟨o, 7, none⟩ = some (.map (some hb))
  row : ∀ i (hi : i < ds.length), W.cell? ⟨bb, i, none⟩ = some (ptN ds[i].o)
  bl : bb < W.heap.size
  map : MapI W hb hv
  db : DtB W po n ds L F
  no : ¬ DtIn ds F o
  nb : ¬ DtIn ds F bb
  nh : ¬ DtIn ds F hb
  ob : bb ≠ hb
/-- All blocks of a table. -/
def TbJ (o bb hb : Nat) (ds : List DB) (F : Nat → Prop) (b : Nat) : Prop := b = o ∨ b = bb ∨ b = hb ∨ DtIn ds F b
section
variable {W W' : World} {o n : Nat} {C : Cps} {bb cp hb po : Nat} {ds : List DB} {hv : List (Int × Nat)} {L L' : List Bool} {F : Nat → Prop}
theorem TbM.ol (h : TbM W o n C bb cp hb po ds hv L F) : o < W.heap.size := World.block_lt_of_cell? _ _ h.c0
theorem TbM.oh (h : TbM W o n C bb cp hb po ds hv L F) : o ≠ hb := h.map.cellne h.c0
theorem TbM.lt (h : TbM W o n C bb cp hb po ds hv L F) : ∀ b, TbJ o bb hb ds F b → b < W.heap.size := by
  rintro b (rfl | rfl | rfl | e)
  · exact h.ol
  · exact h.bl
  · exact h.map.lt
  · exact h.db.lt b e
/-- Blocks that are none of the table's may change. -/
theorem TbM.tch {S : Nat → Prop} (h : TbM W o n C bb cp hb po ds hv L F) (t : Tch S W W') (hS : ∀ b, TbJ o bb hb ds F b → ¬ S b) : TbM W' o n C bb cp hb po ds hv L F := by
  have ho := hS o (.inl rfl)
  have hol := h.ol
  exact ⟨(t.cell hol ho).trans h.c0, (t.cell hol ho).trans h.c1, (t.cell hol ho).trans h.c2, (t.cell hol ho).trans h.c3, (t.cell hol ho).trans h.c4, (t.cell hol ho).trans h.c5, (t.cell hol ho).trans h.c6, (t.cell hol ho).trans h.c7,
    fun i hi => (t.cell h.bl (hS bb (.inr (.inl rfl)))).trans (h.row i hi), Nat.lt_of_lt_of_le h.bl t.size, h.map.tch t (hS hb (.inr (.inr (.inl rfl)))), h.db.tchS t (fun b e => hS b (.inr (.inr (.inr e)))), h.no, h.nb, h.nh, h.ob⟩
theorem TbM.nw (h : TbM W o n C bb cp hb po ds hv L F) (g : Nw W W') : TbM W' o n C bb cp hb po ds hv L F := h.tch (Tch.nw (S := fun _ => False) g) (fun _ _ e => e)
/-- A call of one bucket. -/
theorem TbM.call (h : TbM W o n C bb cp hb po ds hv L F) {i : Nat} (hi : i < ds.length) {l' : List Hp} (d : DbTo W ds[i].o ds[i].mb po n F ds[i].l W' l' L') :
    ∃ F', TbM W' o n C bb cp hb po (ds.set i ⟨ds[i].o, ds[i].mb, l'⟩) hv L' F' ∧ (∀ b, TbJ o bb hb (ds.set i ⟨ds[i].o, ds[i].mb, l'⟩) F' b → TbJ o bb hb ds F b ∨ W.heap.size ≤ b) ∧ Tch (TbJ o bb hb ds F) W W' := by
  obtain ⟨F', h1, h2, h3, h4⟩ := h.db.put hi d
  have hm := List.getElem_mem hi
  have hin := DtB.in_put (w := W) (F := F) (F' := F') hi h2 h4
  have hsub : ∀ b, (b = ds[i].mb ∨ F b) → DtIn ds F b := fun b e => e.elim (fun e => .inr ⟨_, hm, .inr (.inl e)⟩) .inl
  have ho : ¬ (o = ds[i].mb ∨ F o) := fun e => h.no (hsub _ e)
  have hb' : ¬ (bb = ds[i].mb ∨ F bb) := fun e => h.nb (hsub _ e)
  have hh : ¬ (hb = ds[i].mb ∨ F hb) := fun e => h.nh (hsub _ e)
  have hol := h.ol
  have hbl := h.bl
  have hhl := h.map.lt
  refine ⟨F', ⟨(h3.cell hol ho).trans h.c0, (h3.cell hol ho).trans h.c1, (h3.cell hol ho).trans h.c2, (h3.cell hol ho).trans h.c3, (h3.cell hol ho).trans h.c4, (h3.cell hol ho).trans h.c5, by rw [List.length_set]; exact (h3.cell hol ho).trans h.c6, (h3.cell hol ho).trans h.c7,
    fun j hj => ?_, Nat.lt_of_lt_of_le hbl h3.size, h.map.tch h3 hh, h1, fun e => ?_, fun e => ?_, fun e => ?_, h.ob⟩, fun b e => ?_, h3.mono fun b _ e => .inr (.inr (.inr (hsub b e)))⟩
  · rw [List.length_set] at hj
    refine (h3.cell hbl hb').trans ((h.row j hj).trans ?_)
    by_cases q : i = j
    · subst q; rw [List.getElem_set_self]
    · rw [List.getElem_set_ne q]
  · exact (hin _ e).elim h.no (fun q => by omega)
  · exact (hin _ e).elim h.nb (fun q => by omega)
  · exact (hin _ e).elim h.nh (fun q => by omega)
  · rcases e with e | e | e | e
    · exact .inl (.inl e)
    · exact .inl (.inr (.inl e))
    · exact .inl (.inr (.inr (.inl e)))
    · exact (hin b e).imp (fun q => .inr (.inr (.inr q))) id
/-- The map takes a step. -/
theorem TbM.turn (h : TbM W o n C bb cp hb po ds hv L F) {hv' : List (Int × Nat)} (m : MapI W' hb hv') (g : W.mapTurned W' hb) : TbM W' o n C bb cp hb po ds hv' L F ∧ Tch (TbJ o bb hb ds F) W W' := by
  have t := turned_tch g
  have hol := h.ol
  have ho : ¬ (o = hb) := h.oh
  exact ⟨⟨(t.cell hol ho).trans h.c0, (t.cell hol ho).trans h.c1, (t.cell hol ho).trans h.c2, (t.cell hol ho).trans h.c3, (t.cell hol ho).trans h.c4, (t.cell hol ho).trans h.c5, (t.cell hol ho).trans h.c6, (t.cell hol ho).trans h.c7,
    fun i hi => (t.cell h.bl h.ob).trans (h.row i hi), Nat.lt_of_lt_of_le h.bl t.size, m, h.db.tchS t (fun b e q => h.nh (q ▸ e)), h.no, h.nb, h.nh, h.ob⟩, t.mono fun b _ e => .inr (.inr (.inl e))⟩
end
/-- The developers' table: S stripes, n heads in each at most, N numbers, behind k calls; J are all its blocks. -/
def Tab (W : World) (o S n N k : Nat) (C : Cps) (hss : List (List Hq)) (L : List Bool) (J : Nat → Prop) : Prop :=
  ∃ bb cp hb po ds hv F, TbM W o n C bb cp hb po ds hv L F ∧ hv.Perm (hvT ds) ∧ hssD ds = hss ∧ J = TbJ o bb hb ds F ∧ TbOk S n N k hss L
/-- What a call leaves. -/
def TabTo (W : World) (o S n N k : Nat) (C : Cps) (hss : List (List Hq)) (L : List Bool) (J : Nat → Prop) (W' : World) : Prop :=
  ∃ J', Tab W' o S n N k C hss L J' ∧ (∀ b, J' b → J b ∨ W.heap.size ≤ b) ∧ Tch J W W'
section
variable {W W' : World} {o S n N k : Nat} {C : Cps} {hss : List (List Hq)} {L : List Bool} {J : Nat → Prop}
theorem Tab.nw (h : Tab W o S n N k C hss L J) (g : Nw W W') : Tab W' o S n N k C hss L J := by
  obtain ⟨bb, cp, hb, po, ds, hv, F, h1, h2⟩ := h
  exact ⟨bb, cp, hb, po, ds, hv, F, h1.nw g, h2⟩
theorem Tab.tch {Q : Nat → Prop} (h : Tab W o S n N k C hss L J) (t : Tch Q W W') (hS : ∀ b, J b → ¬ Q b) : Tab W' o S n N k C hss L J := by
  obtain ⟨bb, cp, hb, po, ds, hv, F, h1, h2, h3, rfl, h5⟩ := h
  exact ⟨bb, cp, hb, po, ds, hv, F, h1.tch t hS, h2, h3, rfl, h5⟩
theorem Tab.lt (h : Tab W o S n N k C hss L J) : ∀ b, J b → b < W.heap.size := by
  obtain ⟨bb, cp, hb, po, ds, hv, F, h1, h2, h3, rfl, h5⟩ := h
  exact h1.lt
theorem Tab.ok (h : Tab W o S n N k C hss L J) : TbOk S n N k hss L := by
  obtain ⟨bb, cp, hb, po, ds, hv, F, h1, h2, h3, rfl, h5⟩ := h
  exact h5
theorem Tab.to (h : Tab W o S n N k C hss L J) (g : Nw W W') (k' : Nat) (hk : k ≤ k') : TabTo W o S n N k' C hss L J W' := by
  obtain ⟨bb, cp, hb, po, ds, hv, F, h1, h2, h3, rfl, h5⟩ := h
  exact ⟨_, ⟨bb, cp, hb, po, ds, hv, F, h1.nw g, h2, h3, rfl, h5.more hk⟩, fun b e => .inl e, Tch.nw g⟩
theorem TabTo.pre {W1 : World} (g : Nw W W1) (h : TabTo W1 o S n N k C hss L J W') : TabTo W o S n N k C hss L J W' := by
  obtain ⟨J', h1, h2, h3⟩ := h
  exact ⟨J', h1, fun b e => (h2 b e).imp id (fun q => Nat.le_trans g.sz q), (Tch.nw g).trans h3⟩
theorem TabTo.nw {W2 : World} (h : TabTo W o S n N k C hss L J W') (g : Nw W' W2) : TabTo W o S n N k C hss L J W2 := by
  obtain ⟨J', h1, h2, h3⟩ := h
  exact ⟨J', h1.nw g, h2, h3.trans (Tch.nw g)⟩
end
end Go.Proofs.YtpffldfpabglbaaGreatDoor
end

/- The kit's Same of requests, SameHeads of equal heads. -/
section
namespace Go.Proofs.YtpffldfpabglbaaGreatDoor
open Go.RowKit Go.Shelf
set_option linter.unusedVariables false      -- a contract need not use every name

theorem HdsAt.nw {w w' : World} {o : Nat} {v : Value} {hs : List Hq} (h : HdsAt w o v hs) (g : Nw w w') : HdsAt w' o v hs := by
  obtain ⟨lm, h1, h2, h3⟩ := h
  exact ⟨lm, onw h1 g, h2, fun x hx => (h3 x hx).nw g⟩
/-- How heads read, wherever they lie. -/
def HmRd (w : World) (v : Value) (lm : List Hm) : Prop := Rd 4 hmrow w v lm ∧ ∀ x ∈ lm, RqAt w (hmV x) x.h.q ∧ x.h.q.length ≤ 1000
theorem HdsAt.rd {w : World} {o : Nat} {v : Value} {hs : List Hq} (h : HdsAt w o v hs) : ∃ lm, HmRd w v lm ∧ lm.map Hm.h = hs := by
  obtain ⟨lm, h1, h2, h3⟩ := h
  exact ⟨lm, ⟨Own.rd elemHm.len h1, fun x hx => ⟨(h3 x hx).rd, (h3 x hx).len⟩⟩, h2⟩
end Go.Proofs.YtpffldfpabglbaaGreatDoor
end

/- The developers' table: made, with, Stripe. -/
section
namespace Go.Proofs.YtpffldfpabglbaaGreatDoor
open Go.RowKit Go.Shelf
set_option linter.unusedVariables false      -- a contract need not use every name

theorem infoTb : (Tryz.prog.info? 89).isSome = true := by kernel_rfl
theorem teql_self (a : Addr) (w : World) : Sem.run Tryz.prog (binOp .eql 26 (.pointer (some a)) (.pointer (some a))) w = .ok (.bool true) w := by
  obtain ⟨j, hj⟩ := Option.isSome_iff_exists.1 infoTb
  exact run_eql_ptr_same w a Tryz.underlying26 hj
theorem tmade_yes (o : Nat) (w : World) (h : w.cell? ⟨o, 0, none⟩ = some (.pointer (some ⟨o, 0, none⟩))) : Calls Tryz.prog 67 #[.pointer (some ⟨o, 0, none⟩)] w fun e w' => e = .returned (.bool true) ∧ w = w' := by
  have he := teql_self
  go_enter Tryz.func67, Tryz.ntmps67
  go_wp2
  go_ret
  exact ⟨rfl, rfl⟩
/-- What Stripe and others read. -/
def TSt (o bb cp nn : Nat) (y : World) : Prop := y.cell? ⟨o, 0, none⟩ = some (ptN o) ∧ y.cell? ⟨o, 6, none⟩ = some (.slice (some ⟨bb, 0, none⟩) nn cp)
section
variable {W : World} {o n : Nat} {C : Cps} {bb cp hb po : Nat} {ds : List DB} {hv : List (Int × Nat)} {L : List Bool} {F : Nat → Prop}
theorem TbM.st (h : TbM W o n C bb cp hb po ds hv L F) : TSt o bb cp ds.length W := ⟨h.c0, h.c6⟩
end
set_option maxRecDepth 10000 in
set_option maxHeartbeats 1000000 in
theorem stripe_d {W : World} {o bb cp nn : Nat} (h : TSt o bb cp nn W) (t r : Int) :
    Calls Tryz.prog 20 #[.pointer (some ⟨o, 0, none⟩), .agg #[.int .i64 t, .int .i64 r]] W fun e W' => e = .returned (.int .i64 (ofS t r nn)) ∧ Nw W W' := by
  obtain ⟨z, hz⟩ : ∃ z, W.alloc (.cells #[.int .i64 t, .int .i64 r] 34) = z := ⟨_, rfl⟩
  have g1 : Nw W z := by rw [← hz]; exact (Nw.refl W).alloc _
  have hal := allocAt W (.cells #[.int .i64 t, .int .i64 r] 34)
  rw [hz] at hal
  have HZ := Lib.hid hz
  have HG := Lib.hid g1
  have HMd := Lib.hid (tmade_yes o z (g1.kp h.1))
  have HC := Lib.hid (And.intro (g1.kp h.2) (And.intro hal (World.block_lt_of_cell? _ _ (g1.kp h.2))))
  clear hz g1 hal h
  go_enter Tryz.func20, Tryz.ntmps20
  go_wp2_with fail
  rw [HZ.out]
  generalize W.heap.size = pb at *
  refine HMd.out.mono ?_
  rintro e z' ⟨rfl, rfl⟩
  go_upto_region 3 with fail
  have hne : Nonempty (Wd (fun y => Nw z y)) := ⟨⟨_, Nw.refl _⟩⟩
  have C1 := fun (d : Wd (fun y => Nw z y)) => d.h.kp HC.out.1
  have C2 := fun (d : Wd (fun y => Nw z y)) => (hcell (j := 0) (d.h.at' HC.out.2.1)).trans rfl
  have C3 := fun (d : Wd (fun y => Nw z y)) => (hcell (j := 1) (d.h.at' HC.out.2.1)).trans rfl
  go_wp2_with fail
  refine region_in (fun y => Nw z y) (by kernel_rfl) (by kernel_rfl) (Nw.refl z).dr ?_
  repeat (first | go_big_quiet_step ((exact quietN (fun a b h g => h.trans g) (of_any t r nn _))) | quiet_step ((exact quietN (fun a b h g => h.trans g) (of_any t r nn _))))
  refine wpQuiet_nil ?_
  intro d
  have HD := Lib.hid (HG.out.trans d.h)
  clear C1 C2 C3 hne
  revert HD
  generalize d.w = z3
  intro HD
  go_wp2
  go_ret
  exact ⟨rfl, HD.out⟩
/-! ### with -/
section
variable {W : World} {o n : Nat} {C : Cps} {bb cp hb po : Nat} {ds : List DB} {hv : List (Int × Nat)} {L : List Bool} {F : Nat → Prop}
theorem of_is {hs : List Hq} {id : Int} : (ofId hs id).isSome = true ↔ id ∈ allIds hs := by
  cases e : ofId hs id with
  | none => exact ⟨(fun q => by cases q), fun q => absurd q (of_none e)⟩
  | some h =>
    obtain ⟨h1, r, h2⟩ := of_some e
    exact ⟨fun _ => List.mem_flatMap.2 ⟨h, h1, fnd_idsQ.1 ⟨r, h2⟩⟩, fun _ => rfl⟩
theorem hss_at {ds : List DB} {i : Nat} (hi : i < ds.length) (hi' : i < (hssD ds).length) : (hssD ds)[i] = hsP ds[i].l := by
  have := hssD_get hi
  rw [List.getElem?_eq_getElem hi'] at this
  exact Option.some.inj this
theorem hss_len (ds : List DB) : (hssD ds).length = ds.length := by unfold hssD; rw [List.length_map]
/-- What the map says of a number: it is there, with its bucket; or in none. -/
theorem hv_wth (p : hv.Perm (hvT ds)) {i : Nat} (hi : i < ds.length) {id : Int} (e : atT (hssD ds) id = some i) : (id, ds[i].o) ∈ hv := by
  obtain ⟨hi', h1, _⟩ := atT_some e
  rw [hss_at hi hi', of_is] at h1
  exact p.mem_iff.2 (hv_mem.2 ⟨ds[i], List.getElem_mem hi, rfl, h1⟩)
theorem hv_none (p : hv.Perm (hvT ds)) {id : Int} (e : atT (hssD ds) id = none) : ∀ x ∈ hv, x.1 ≠ id := fun x hx q => by
  obtain ⟨x1, x2⟩ := x
  simp only at q
  subst q
  obtain ⟨d, hd, _, h2⟩ := hv_mem.1 (p.mem_iff.1 hx)
  have := atT_none e _ (List.mem_map.2 ⟨d, hd, rfl⟩)
  rw [← of_is, this] at h2
  cases h2
set_option maxRecDepth 10000 in
set_option maxHeartbeats 1000000 in
theorem withT_d (h : TbM W o n C bb cp hb po ds hv L F) (p : hv.Perm (hvT ds)) (id : Int) (hf : Fit id) {i : Nat} (hi : i < ds.length) (e : wthT (hssD ds) id = i) :
    Calls Tryz.prog 70 #[.pointer (some ⟨o, 0, none⟩), .int .i64 id] W fun e W' => e = .returned (ptN ds[i].o) ∧ W = W' := by
  have HMd := Lib.hid (tmade_yes o W h.c0)
  have c6 := h.c6
  have c7 := h.c7
  unfold wthT at e
  cases q : atT (hssD ds) id with
  | some j =>
    rw [q] at e
    obtain rfl : j = i := e
    have hl := h.map.look_yes (hv_wth p hi q)
    generalize ds[j].o = x at *
    clear h p q hi hf
    go_enter Tryz.func70, Tryz.ntmps70
    go_wp2_with (go_at_call 67; refine HMd.out.mono ?_; rintro e w' ⟨rfl, rfl⟩)
    go_ret
    exact ⟨rfl, rfl⟩
  | none =>
    rw [q] at e
    obtain rfl : 0 = i := e
    have hl := h.map.look_no hf (hv_none p q)
    have hr := h.row 0 hi
    have d1 : decide ((0 : Int) < (ds.length : Int)) = true := by simpa using hi
    generalize ds[0].o = x at *
    generalize ds.length = nn at *
    clear h p q hf
    go_enter Tryz.func70, Tryz.ntmps70
    go_wp2_with (go_at_call 67; refine HMd.out.mono ?_; rintro e w' ⟨rfl, rfl⟩)
    go_ret
    exact ⟨rfl, rfl⟩
end
end Go.Proofs.YtpffldfpabglbaaGreatDoor
end

/- The developers' table: what a call comes to; Ask. -/
section
namespace Go.Proofs.YtpffldfpabglbaaGreatDoor
open Go.RowKit Go.Shelf
set_option linter.unusedVariables false      -- a contract need not use every name

section
variable {W W1 W2 W' : World} {o S n N k : Nat} {C : Cps} {bb cp hb po : Nat} {ds ds' : List DB} {hv hv' : List (Int × Nat)} {L L' : List Bool} {F F' : Nat → Prop}
theorem tab_fin (hm1 : TbM W1 o n C bb cp hb po ds' hv L' F') (hsub : ∀ b, TbJ o bb hb ds' F' b → TbJ o bb hb ds F b ∨ W.heap.size ≤ b) (ht : Tch (TbJ o bb hb ds F) W W1) (p : hv.Perm (hvT ds')) {hss : List (List Hq)} (e : hssD ds' = hss) (ok : TbOk S n N k hss L') : TabTo W o S n N k C hss L' (TbJ o bb hb ds F) W1 :=
  ⟨_, ⟨bb, cp, hb, po, ds', hv, F', hm1, p, e, rfl, ok⟩, hsub, ht⟩
theorem tab_turn (hm1 : TbM W1 o n C bb cp hb po ds' hv L' F') (hsub : ∀ b, TbJ o bb hb ds' F' b → TbJ o bb hb ds F b ∨ W.heap.size ≤ b) (ht : Tch (TbJ o bb hb ds F) W W1) (m : MapI W2 hb hv') (g : W1.mapTurned W2 hb) (p : hv'.Perm (hvT ds')) {hss : List (List Hq)} (e : hssD ds' = hss) (ok : TbOk S n N k hss L') : TabTo W o S n N k C hss L' (TbJ o bb hb ds F) W2 := by
  obtain ⟨h2, t2⟩ := hm1.turn m g
  exact ⟨_, ⟨bb, cp, hb, po, ds', hv', F', h2, p, e, rfl, ok⟩, hsub, ht.trans' t2 fun b hb e => (hsub b e).elim id (fun q => by omega)⟩
theorem db_inv (ok : TbOk S n N k (hssD ds) L) {i : Nat} (hi : i < ds.length) : BInv n k (hsP ds[i].l) (tOth (hssD ds) i) L := DtB.inv ok.inv hi
theorem hss_hsAt {i : Nat} (hi : i < ds.length) : hsAt (hssD ds) i = hsP ds[i].l := by
  have hi' : i < (hssD ds).length := by rw [hss_len]; exact hi
  rw [hsAt_get hi', hss_at hi hi']
theorem set_inv {i : Nat} (hi : i < ds.length) {l' : List Hp} {k' : Nat} (ok : TbOk S n N k' ((hssD ds).set i (hsP l')) L') : BInv n k' (hsP l') (tOth (hssD ds) i) L' := by
  have hi' : i < ((hssD ds).set i (hsP l')).length := by rw [List.length_set, hss_len]; exact hi
  have b := ok.inv.get hi'
  rw [List.getElem_set_self, tOth_set] at b
  exact b
/-- A bucket's call that takes and gives no number. -/
theorem tab_same (hm : TbM W o n C bb cp hb po ds hv L F) (p : hv.Perm (hvT ds)) (ok : TbOk S n N k (hssD ds) L) {i : Nat} (hi : i < ds.length) {l' : List Hp} (d : DbTo W ds[i].o ds[i].mb po n F ds[i].l W' l' L) {k' : Nat} (ok' : TbOk S n N k' ((hssD ds).set i (hsP l')) L) : TabTo W o S n N k' C ((hssD ds).set i (hsP l')) L (TbJ o bb hb ds F) W' := by
  obtain ⟨F', h1, h2, h3⟩ := hm.call hi d
  exact tab_fin h1 h2 h3 (p.trans (hv_same hi (ids_same (db_inv ok hi) (set_inv hi ok'))).symm) (hssD_set ds i _) ok'
end
/-- What Ask reads while the bucket is asked. -/
theorem fit_fre {L : List Bool} (h : L.length ≤ 128) : Fit (fre L : Int) := by
  have := fre_le L
  unfold Fit
  omega
theorem hv_fre {S n N k : Nat} {ds : List DB} {hv : List (Int × Nat)} {L : List Bool} (p : hv.Perm (hvT ds)) (ok : TbOk S n N k (hssD ds) L) : ∀ x ∈ hv, x.1 ≠ (fre L : Int) := fun x hx e => by
  have h1 : x.1 ∈ tIds (hssD ds) := by
    rw [← hv_ids]
    exact List.mem_map.2 ⟨x, p.mem_iff.1 hx, rfl⟩
  have h2 := ok.inv.mem.1 h1
  rw [e, fre_has] at h2
  cases h2
theorem hv_le {S n N k : Nat} {ds : List DB} {hv : List (Int × Nat)} {L : List Bool} (p : hv.Perm (hvT ds)) (ok : TbOk S n N k (hssD ds) L) (h : L.length ≤ 128) : hv.length < 1000 := by
  rw [p.length_eq, hv_len, ok.inv.ids.length_eq]
  have : (castL (lnt L)).length = liv L := by simp [castL, liv_lnt]
  rw [this]
  have : liv L ≤ L.length := List.countP_le_length
  omega
theorem lvl_wf {t r : Int} (h : lvl t r ≠ -1) : wfN (t, r) := by
  have : -1 ≤ t ∧ t ≤ 99 ∧ -1 ≤ r ∧ r ≤ 99 := by
    unfold lvl at h
    split at h
    · omega
    · split at h <;> first | omega | (exact absurd rfl h)
  exact ⟨WalkArith.wf_i64 (by omega), WalkArith.wf_i64 (by omega)⟩
theorem ofS_lvl {t r n : Int} (h : ofS t r n ≠ -1) : lvl t r ≠ -1 := fun e => h (ofS_bad t r n e)
def AskS (o bb cp nn s B pb : Nat) (t r : Int) (y : World) : Prop := y.cell? ⟨o, 6, none⟩ = some (.slice (some ⟨bb, 0, none⟩) nn cp) ∧ y.cell? ⟨bb, s, none⟩ = some (ptN B) ∧ y.cell? ⟨pb, 0, none⟩ = some (.int .i64 t) ∧ y.cell? ⟨pb, 1, none⟩ = some (.int .i64 r)
set_option maxRecDepth 20000 in
set_option maxHeartbeats 4000000 in
theorem ask_t {W : World} {o S n N k : Nat} {C : Cps} {hss : List (List Hq)} {L : List Bool} {J : Nat → Prop} (h : Tab W o S n N k C hss L J) (hk : k ≤ 800) (hn : n ≤ 64) (hS : S ≤ 16) (t r txn m : Int) :
    Calls Tryz.prog 34 #[.pointer (some ⟨o, 0, none⟩), .agg #[.int .i64 t, .int .i64 r], .int .i64 txn, .int .i64 m] W fun e W' => e = .returned (.tuple #[.int .i64 (askTR n hss L t r txn m).1, .bool (askTR n hss L t r txn m).2.1, .int .i64 (askTR n hss L t r txn m).2.2]) ∧ TabTo W o S n N (k + 1) C (askTS n hss L t r txn m).1 (askTS n hss L t r txn m).2 J W' := by
  have hTo := fun (W' : World) (g : Nw W W') => h.to g (k + 1) (Nat.le_succ k)
  obtain ⟨bb, cp, hb, po, ds, hv, F, hm, hp, rfl, rfl, ok⟩ := h
  have okA := ok.ask hS (by omega) t r txn m
  obtain ⟨z, hz⟩ : ∃ z, W.alloc (.cells #[.int .i64 t, .int .i64 r] 34) = z := ⟨_, rfl⟩
  have g1 : Nw W z := by rw [← hz]; exact (Nw.refl W).alloc _
  have hal := allocAt W (.cells #[.int .i64 t, .int .i64 r] 34)
  rw [hz] at hal
  have HZ := Lib.hid hz
  have HMd := Lib.hid (tmade_yes o z (g1.kp hm.c0))
  have HSt := Lib.hid (stripe_d (hm.nw g1).st t r)
  have hal0 := hal
  obtain ⟨pb, hpb⟩ : ∃ pb, W.heap.size = pb := ⟨_, rfl⟩
  rw [hpb] at hal
  have c0 := hcell (j := 0) hal
  have c1 := hcell (j := 1) hal
  have cl := hlt hal
  have HPb := Lib.hid hpb
  have hSl : (hssD ds).length = ds.length := hss_len ds
  unfold askTR askTS at *
  rw [hSl] at okA ⊢
  have hrg := ofS_range t r ds.length
  by_cases hbad : ofS t r ds.length = -1
  · rw [hbad] at HSt
    simp only [hbad, if_true] at okA ⊢
    have HT := Lib.hid hTo
    have HG := Lib.hid g1
    clear hz g1 hal hal0 hrg okA hTo hm hp ok hpb
    go_enter Tryz.func34, Tryz.ntmps34
    go_wp2_with fail
    rw [HZ.out, HPb.out]
    refine HMd.out.mono ?_
    rintro e z' ⟨rfl, rfl⟩
    go_wp2_with fail
    refine HSt.out.mono ?_
    rintro e z2 ⟨rfl, g2⟩
    have HT2 := Lib.hid (HT.out z2 (HG.out.trans g2))
    clear g2 HT HG
    go_wp2
    exact bodyPost_ret (v := .tuple #[.int .i64 0, .bool false, .int .i64 2]) (by simp [results, Tryz.results34, go_sem, *]) rfl ⟨rfl, HT2.out⟩
  · simp only [hbad, if_false] at okA ⊢
    have hlv := lvl_wf (ofS_lvl hbad)
    obtain ⟨s, hs⟩ : ∃ s : Nat, ofS t r ds.length = s := ⟨(ofS t r ds.length).toNat, by omega⟩
    have hi : s < ds.length := by omega
    rw [hs] at HSt
    simp only [hs, Int.toNat_natCast, hss_hsAt hi] at okA ⊢
    have d1 : ((s : Int) == -1) = false := by rw [beq_eq_false_iff_ne]; omega
    have d2 : (s : Int) < (ds.length : Int) := by omega
    have HM := Lib.hid (And.intro hm (And.intro hp (And.intro ok (And.intro hi (And.intro hlv okA)))))
    have HG := Lib.hid (And.intro g1 hal0)
    clear hz g1 hal hal0 hrg okA hTo hm hp ok hpb hbad hs hlv
    go_enter Tryz.func34, Tryz.ntmps34
    go_wp2_with fail
    rw [HZ.out, HPb.out]
    refine HMd.out.mono ?_
    rintro e z' ⟨rfl, rfl⟩
    go_wp2_with fail
    refine HSt.out.mono ?_
    rintro e z2 ⟨rfl, g2⟩
    have HG2 := Lib.hid (HG.out.1.trans g2)
    have hb2 := g2.at' HG.out.2
    rw [HPb.out] at hb2
    have c0 := hcell (j := 0) hb2
    have c1 := hcell (j := 1) hb2
    have cl := hlt hb2
    have c6 := HG2.out.kp HM.out.1.c6
    have cr := HG2.out.kp (HM.out.1.row s HM.out.2.2.2.1)
    have HA := Lib.hid (ask_d ((HM.out.1.nw HG2.out.dr).db.db _ (List.getElem_mem HM.out.2.2.2.1)) (db_inv HM.out.2.2.1 HM.out.2.2.2.1) hk hn t r txn m HM.out.2.2.2.2.1)
    have c7 := HG2.out.kp HM.out.1.c7
    clear g2 HG HSt HMd
    go_wp2_with fail
    obtain ⟨B, hB⟩ : ∃ B, ds[s].o = B := ⟨_, rfl⟩
    rw [hB] at cr HA
    have hS0 : AskS o bb cp ds.length s B pb t r z2.drew := ⟨c6, cr, c0, c1⟩
    have q1 : ∀ x, AskS o bb cp ds.length s B pb t r x → x.cell? ⟨o, 6, none⟩ = some (.slice (some ⟨bb, 0, none⟩) ds.length cp) := fun x h => h.1
    have q2 : ∀ x, AskS o bb cp ds.length s B pb t r x → x.cell? ⟨bb, s, none⟩ = some (ptN B) := fun x h => h.2.1
    have q3 : ∀ x, AskS o bb cp ds.length s B pb t r x → x.cell? ⟨pb, 0, none⟩ = some (.int .i64 t) := fun x h => h.2.2.1
    have q4 : ∀ x, AskS o bb cp ds.length s B pb t r x → x.cell? ⟨pb, 1, none⟩ = some (.int .i64 r) := fun x h => h.2.2.2
    have HBx := Lib.hid (And.intro hB hb2)
    clear c0 c1 c6 cr c7 cl hB hb2
    refine region_told [some true, some true, some true, some true, some true, some true, some true, some true, some true, some true, some false, none, some true, some true, some true, some true, some true, some true, some true] (AskS o bb cp ds.length s B pb t r) (by kernel_rfl) (by kernel_rfl) (by kernel_rfl) hS0 ?_
    clear hS0
    iterate 10 (refine HW.take' ?_; (apply Exists.intro; refine ⟨Or.inl ⟨by rfl, ?_⟩, ?_⟩; (intro x hx; go_simp; first | done | with_reducible rfl)); (try simp only [Act.put, List.setIfInBounds_toArray, List.set_cons_zero, List.set_cons_succ]))
    refine HW.off ?_
    refine HW.go (fun K hK => ?_)
    go_simp
    go_at_call 89
    refine HA.out.mono ?_
    rintro e w3 ⟨rfl, l', hl', d⟩
    rw [← HBx.out.1] at d
    have hz2 : W.heap.size ≤ z2.drew.heap.size := HG2.out.dr.sz
    obtain ⟨F', hm1, hs1, ht1⟩ := (HM.out.1.nw HG2.out.dr).call hi d
    have hpn : ¬ TbJ o bb hb ds F pb := fun e => by have := HM.out.1.lt _ e; have := HPb.out; omega
    have hb3 := (ht1.block pb (hlt HBx.out.2) hpn).trans HBx.out.2
    have hS3 : AskS o bb cp ds.length s B pb t r w3 := by
      have e1 := hm1.c6
      have e2 := hm1.row s (by rw [List.length_set]; exact hi)
      rw [List.length_set] at e1
      rw [List.getElem_set_self] at e2
      simp only [HBx.out.1] at e2
      exact ⟨e1, e2, hcell (j := 0) hb3, hcell (j := 1) hb3⟩
    have HX := Lib.hid (show (∀ b, TbJ o bb hb (ds.set s ⟨ds[s].o, ds[s].mb, l'⟩) F' b → TbJ o bb hb ds F b ∨ W.heap.size ≤ b) ∧ Tch (TbJ o bb hb ds F) W w3 from ⟨fun b e => (hs1 b e).imp id (fun q => Nat.le_trans hz2 q), (Tch.nw HG2.out.dr).trans ht1⟩)
    have HM1 := Lib.hid hm1
    have HBx2 : Hid (ds[s].o = B) := HBx.out.1
    refine hK.out _ _ hS3 ?_
    intro _
    clear hK K d hm1 hs1 ht1 hpn hb3 HA HBx hz2 q1 q2 q3 q4
    (try simp only [Act.put, List.setIfInBounds_toArray, List.set_cons_zero, List.set_cons_succ])
    have okA := HM.out.2.2.2.2.2
    have he3 : hssD (ds.set s ⟨ds[s].o, ds[s].mb, l'⟩) = (hssD ds).set s (hsP l') := hssD_set ds s _
    by_cases he : askBE n (hsP ds[s].l) L t r txn m = 0
    · obtain ⟨_, hfl, _⟩ := ask_can (db_inv HM.out.2.2.1 hi) he
      have eS : (askBS n (hsP ds[s].l) L t r txn m).2 = tkL L := by unfold askBS; rw [if_pos he]
      have eR : askBR n (hsP ds[s].l) L t r txn m = ((fre L : Int), (askQ (hdB (hsP ds[s].l) t r).W (hdB (hsP ds[s].l) t r).q (fre L) txn m).2.2, 0) := by unfold askBR; rw [if_pos he]
      have HeR := Lib.hid eR
      rw [eR]
      revert HeR
      generalize (askQ (hdB (hsP ds[s].l) t r).W (hdB (hsP ds[s].l) t r).q (fre L) txn m).2.2 = G
      intro HeR
      have hpt : (allIds (hsP l')).Perm ((fre L : Int) :: allIds (hsP ds[s].l)) := by
        have q := set_inv (ds := ds) (l' := l') hi (by rw [hl']; exact okA)
        rw [eS] at q
        exact ids_take (db_inv HM.out.2.2.1 hi) hfl q
      have hls : L.length ≤ 128 := HM.out.1.db.pol.sz
      have HTk := Lib.hid (And.intro hpt (And.intro (hv_fre HM.out.2.1 HM.out.2.2.1) (And.intro (hv_le HM.out.2.1 HM.out.2.2.1 hls) (fit_fre hls))))
      generalize (fre L : Int) = fi at *
      clear eR hfl hpt hls
      simp only
      iterate 7 (refine HW.take' ?_; (apply Exists.intro; refine ⟨Or.inl ⟨by rfl, ?_⟩, ?_⟩; (intro x hx; go_simp; first | done | with_reducible rfl)); (try simp only [Act.put, List.setIfInBounds_toArray, List.set_cons_zero, List.set_cons_succ]))
      refine HW.end_ ?_
      refine NoPanic.normal ?_
      have c7 := (HM1.out.nw (Nw.refl _).dr).c7
      have c6 := (HM1.out.nw (Nw.refl _).dr).c6
      have cr := hS3.2.1
      obtain ⟨w4, hrun, hm4, htn⟩ := (HM1.out.nw (Nw.refl _).dr).map.put HTk.out.2.2.1 HTk.out.2.2.2 B HTk.out.2.1
      rw [List.length_set] at c6
      have HU := Lib.hid hrun
      have HR := Lib.hid (tab_turn (HM1.out.nw (Nw.refl _).dr) HX.out.1 (HX.out.2.trans (Tch.nw (Nw.refl _).dr)) hm4 htn (((HM.out.2.1.cons _).trans (by rw [← HBx2.out]; exact (hv_take hi HTk.out.1).symm))) (he3.trans (by rw [hl'])) okA)
      clear hS3 HM1 HX hm4 htn hrun HTk okA he3 hl'
      go_wp2_with fail
      refine wp_region_still_tail 12 (by kernel_rfl) (by kernel_rfl) ?_
      simp only [List.take_succ_cons, List.take_zero, List.drop_succ_cons, List.drop_zero]
      iterate 12 still_step
      try refine wpStill_nil ?_
      change wpList _ _ _ _ _ w3.drew
      go_wp2_with (refine mapUpd_run rfl (.tmp 40) (.tmp 41) (.tmp 48) 86 rfl _ _ _ _ rfl rfl rfl HU.out ?_)
      exact bodyPost_ret (v := .tuple #[.int .i64 fi, .bool G, .int .i64 0]) (by simp [results, Tryz.results34, go_sem, *]) rfl ⟨by rw [HeR.out], HR.out⟩
    · obtain ⟨eS, eR, _⟩ := ask_rej he
      have HR := Lib.hid (show TabTo W o S n N (k + 1) C ((hssD ds).set s (askBS n (hsP ds[s].l) L t r txn m).1) (askBS n (hsP ds[s].l) L t r txn m).2 (TbJ o bb hb ds F) w3 from
        tab_fin HM1.out HX.out.1 HX.out.2 (HM.out.2.1.trans (hv_same hi (by
          have q := set_inv (ds := ds) (l' := l') hi (by rw [hl']; exact okA)
          rw [eS] at q
          exact ids_same (db_inv HM.out.2.2.1 hi) q)).symm) (he3.trans (by rw [hl'])) okA)
      obtain ⟨E, hE⟩ : ∃ E, askBE n (hsP ds[s].l) L t r txn m = E := ⟨_, rfl⟩
      rw [hE] at he eR
      have HeR := Lib.hid eR
      rw [eR]
      have dE : (E == 0) = false := by simpa using he
      clear hS3 HM1 HX okA he3 hl' eR hE he eS
      simp only
      iterate 7 (refine HW.take' ?_; (apply Exists.intro; refine ⟨Or.inl ⟨by rfl, ?_⟩, ?_⟩; (intro x hx; go_simp; first | done | with_reducible rfl)); (try simp only [Act.put, List.setIfInBounds_toArray, List.set_cons_zero, List.set_cons_succ]))
      refine HW.end_ ?_
      refine NoPanic.normal ?_
      go_wp2
      exact bodyPost_ret (v := .tuple #[.int .i64 0, .bool false, .int .i64 E]) (by simp [results, Tryz.results34, go_sem, *]) rfl ⟨by rw [HeR.out], HR.out⟩
end Go.Proofs.YtpffldfpabglbaaGreatDoor
end

/- Plain facts of buckets: what a request that leaves leaves behind. Of no program. -/
section
namespace Go.Proofs.YtpffldfpabglbaaGreatDoor
set_option linter.unusedVariables false

theorem hs_gv {L : List Bool} {i : Nat} (hi : i < L.length) (e : L[i] = true) : hsL (gvL L (i : Int)) (i : Int) = false := by
  rw [gvL_nat L i (by rw [getD_at hi]; exact e)]
  simp [hsL, hi]
end Go.Proofs.YtpffldfpabglbaaGreatDoor
end

/- The developers' table: Leave, Abandon, Upgrade, Hand. -/
section
namespace Go.Proofs.YtpffldfpabglbaaGreatDoor
open Go.RowKit Go.Shelf
set_option linter.unusedVariables false      -- a contract need not use every name

theorem e_bleave : ∀ args w, (callFunc 91 args).run Tryz.prog w = .ok (.enter 91 args) w := enters_of Tryz.func91 (by kernel_rfl) rfl
theorem e_babandon : ∀ args w, (callFunc 99 args).run Tryz.prog w = .ok (.enter 99 args) w := enters_of Tryz.func99 (by kernel_rfl) rfl
/-- What ends a request gives and leaves. -/
def OutT (W : World) (o S n N k : Nat) (C : Cps) (R : List Int × Int) (X : List (List Hq) × List Bool) (J : Nat → Prop) (e : Ending) (W' : World) : Prop :=
  ∃ vi, e = .returned (.tuple #[vi, .int .i64 R.2]) ∧ IS W' vi R.1 ∧ TabTo W o S n N k C X.1 X.2 J W' ∧ ∀ b, vi.ownBlock = some b → W.heap.size ≤ b
/-- How the numbers turn: as before, or one is given back. -/
def IdsR (hs hs' : List Hq) (L L' : List Bool) (id E : Int) : Prop := ((E ≠ 0 ∨ hsL L' id = true) → (allIds hs').Perm (allIds hs)) ∧ (E = 0 → hsL L' id = false → (allIds hs).Perm (id :: allIds hs') ∧ Fit id)
theorem IdsR.same {hs hs' : List Hq} {L L' : List Bool} {id E : Int} (p : (allIds hs').Perm (allIds hs)) (h : E = 0 → hsL L' id = true) : IdsR hs hs' L L' id E := ⟨fun _ => p, fun e q => by rw [h e] at q; cases q⟩
section
variable {most k k' : Nat} {hs hs' : List Hq} {X : List Int} {L L' : List Bool}
theorem fit_hs {L : List Bool} {id : Int} (hl : L.length ≤ 128) (h : hsL L id = true) : Fit id := by
  obtain ⟨i, rfl, hi, _⟩ := hsL_at h
  unfold Fit
  omega
theorem ids_back (b : BInv most k hs X L) {id : Int} (h : hsL L id = true) (b' : BInv most k' hs' X (gvL L id)) : (allIds hs).Perm (id :: allIds hs') := by
  obtain ⟨i, rfl, hi, e⟩ := hsL_at h
  exact ids_give b hi e b'
theorem hs_back {id : Int} (h : hsL L id = true) : hsL (gvL L id) id = false := by
  obtain ⟨i, rfl, hi, e⟩ := hsL_at h
  exact hs_gv hi e
theorem lv_ids (b : BInv most k hs X L) (hl : L.length ≤ 128) (id : Int) : IdsR hs (lvBS hs L id).1 L (lvBS hs L id).2 id (lvBR hs id).2 := by
  have b' := binv_lv b id
  cases e : ofId hs id with
  | none =>
    have e1 : lvBS hs L id = (hs, L) := by unfold lvBS; rw [e]
    have e2 : lvBR hs id = ([], 5) := by unfold lvBR; rw [e]
    rw [e1, e2]
    exact IdsR.same (.refl _) (fun q => absurd q (show ¬ (5 : Int) = 0 by decide))
  | some h =>
    have hm : id ∈ allIds hs := of_is.1 (by rw [e]; rfl)
    have hL := b.mem hm
    have e1 : (lvBS hs L id).2 = gvL L id := by unfold lvBS; rw [e]
    rw [e1] at b' ⊢
    exact ⟨(fun q => by
      rcases q with q | q
      · exact absurd (by unfold lvBR; rw [e]) q
      · rw [hs_back hL] at q; cases q), fun _ _ => ⟨ids_back b hL b', fit_hs hl hL⟩⟩
theorem ab_ids (b : BInv most k hs X L) (hl : L.length ≤ 128) (id : Int) : IdsR hs (abBS hs L id).1 L (abBS hs L id).2 id (abBR hs id).2 := by
  have b' := binv_ab b id
  cases e : ofId hs id with
  | none =>
    have e1 : abBS hs L id = (hs, L) := by unfold abBS; rw [e]
    have e2 : abBR hs id = ([], 5) := by unfold abBR; rw [e]
    rw [e1, e2]
    exact IdsR.same (.refl _) (fun q => absurd q (show ¬ (5 : Int) = 0 by decide))
  | some h =>
    have hm : id ∈ allIds hs := of_is.1 (by rw [e]; rfl)
    have hL := b.mem hm
    by_cases h1 : 0 < (rqB h id).sn
    · by_cases h2 : (rqB h id).md = 0
      · have e1 : (abBS hs L id).2 = gvL L id := by unfold abBS; rw [e]; simp [h1, h2]
        rw [e1] at b' ⊢
        exact ⟨(fun q => by
          rcases q with q | q
          · exact absurd (by unfold abBR; rw [e]; simp [h1]) q
          · rw [hs_back hL] at q; cases q), fun _ _ => ⟨ids_back b hL b', fit_hs hl hL⟩⟩
      · have e1 : (abBS hs L id).2 = L := by unfold abBS; rw [e]; simp [h1, h2]
        rw [e1] at b' ⊢
        exact IdsR.same (ids_same b b') (fun _ => hL)
    · have e1 : abBS hs L id = (hs, L) := by unfold abBS; rw [e]; simp [h1]
      rw [e1]
      exact IdsR.same (.refl _) (fun _ => hL)
end
theorem hv_give {ds : List DB} {i : Nat} (hi : i < ds.length) {l' : List Hp} {mb : Nat} {id : Int} {hv : List (Int × Nat)} (p : hv.Perm (hvT ds)) (hne : hv.Pairwise fun x y => x.1 ≠ y.1) (q : (allIds (hsP ds[i].l)).Perm (id :: allIds (hsP l'))) : (hv.filter fun x => !decide (x.1 = id)).Perm (hvT (ds.set i ⟨ds[i].o, mb, l'⟩)) := by
  have h1 : hv.Perm ((id, ds[i].o) :: hvT (ds.set i ⟨ds[i].o, mb, l'⟩)) := by
    refine p.trans ((hv_self hi).trans ?_)
    refine (((q.map _).append_right _)).trans ?_
    rw [List.map_cons, List.cons_append]
    exact (hv_mid hi ⟨ds[i].o, mb, l'⟩).symm.cons _
  have h2 : ((id, ds[i].o) :: hvT (ds.set i ⟨ds[i].o, mb, l'⟩)).Pairwise fun x y => x.1 ≠ y.1 := (h1.pairwise_iff (fun {a b} (e : a.1 ≠ b.1) => e.symm)).1 hne
  obtain ⟨h3, _⟩ := List.pairwise_cons.1 h2
  refine (h1.filter _).trans ?_
  rw [List.filter_cons, if_neg (by simp), filt_all (fun x hx => (h3 x hx).symm)]
set_option maxRecDepth 20000 in
set_option maxHeartbeats 4000000 in
theorem endT_d {W : World} {o S n N k : Nat} {C : Cps} {bb cp hb po : Nat} {ds : List DB} {hv : List (Int × Nat)} {L : List Bool} {F : Nat → Prop} (hm : TbM W o n C bb cp hb po ds hv L F) (hp : hv.Perm (hvT ds)) (ok : TbOk S n N k (hssD ds) L) (id : Int) (hf : Fit id) {i : Nat} (hi : i < ds.length) (hw : wthT (hssD ds) id = i)
    (g : Nat) (eg : ∀ args w, (callFunc g args).run Tryz.prog w = .ok (.enter g args) w) (R : List Int × Int) (X : List Hq × List Bool)
    (hC : Calls Tryz.prog g #[ptN ds[i].o, .int .i64 id] W (OutD W ds[i].o ds[i].mb po n F ds[i].l R X)) (hI : IdsR (hsP ds[i].l) X.1 L X.2 id R.2) (okX : TbOk S n N (k + 1) ((hssD ds).set i X.1) X.2) :
    Calls Tryz.prog 90 #[.pointer (some ⟨o, 0, none⟩), .int .i64 id, .func (.func g) #[] #[]] W (OutT W o S n N (k + 1) C R ((hssD ds).set i X.1, X.2) (TbJ o bb hb ds F)) := by
  have HWi := Lib.hid (withT_d hm hp id hf hi hw)
  have HC := Lib.hid hC
  have HM := Lib.hid (And.intro hm (And.intro hp (And.intro ok (And.intro hi (And.intro hI okX)))))
  clear hm hp ok hf hw hC hI okX
  go_enter Tryz.func90, Tryz.ntmps90
  go_wp2_with fail
  refine HWi.out.mono ?_
  rintro e w' ⟨rfl, rfl⟩
  go_wp2_with fail
  refine HC.out.mono ?_
  rintro e w1 ⟨vi, l', rfl, his, hl', d, hnew⟩
  obtain ⟨RI, E⟩ := R
  obtain ⟨hs', L'⟩ := X
  simp only at his hl' d ⊢
  obtain ⟨F', hm1, hs1, ht1⟩ := HM.out.1.call hi d
  have hw1 : W.heap.size ≤ w1.heap.size := ht1.size
  have he1 : hssD (ds.set i ⟨ds[i].o, ds[i].mb, l'⟩) = (hssD ds).set i hs' := by rw [hssD_set, hl']
  have HI := HM.out.2.2.2.2.1
  have hk1 := HM.out.2.2.2.2.2
  simp only at HI hk1
  by_cases hE : E = 0
  · subst hE
    obtain ⟨g', v', l1, hpo, hFp⟩ := hm1.db.pol
    have HHas := Lib.hid (has_at hpo id)
    have c5 := hm1.c5
    obtain ⟨b, hb'⟩ : ∃ b, hsL L' id = b := ⟨_, rfl⟩
    rw [hb'] at HHas
    cases b
    · obtain ⟨hperm, hfit⟩ := HI.2 rfl hb'
      rw [← hl'] at hperm
      obtain ⟨w2, hrun, hm2, htn⟩ := hm1.map.del hfit (0 : TypeId)
      have c7 := hm1.c7
      have HR := Lib.hid (show OutT W o S n N (k + 1) C (RI, 0) ((hssD ds).set i hs', L') (TbJ o bb hb ds F) (.returned (.tuple #[vi, .int .i64 0])) w2 from
        ⟨vi, rfl, is_tchM his (turned_tch htn) (fun q hq e => by have := hnew q hq; have := HM.out.1.map.lt; omega), tab_turn hm1 hs1 ht1 hm2 htn (hv_give hi HM.out.2.1 hm1.map.ne hperm) he1 hk1, hnew⟩)
      have HU := Lib.hid hrun
      clear hm1 hs1 ht1 hpo hFp hperm hfit hrun hm2 htn his d hl' hnew he1 HI hk1 hb' HC
      go_wp2_with (first | (go_at_call 130; refine HHas.out.mono ?_; rintro e w' ⟨rfl, rfl⟩) | (refine mapDel_run rfl (.tmp 33) (.tmp 34) 86 3 rfl _ _ _ rfl rfl HU.out ?_))
      exact bodyPost_ret (v := .tuple #[vi, .int .i64 0]) (by simp [results, Tryz.results90, go_sem, *]) rfl HR.out
    · have hperm := HI.1 (.inr hb')
      rw [← hl'] at hperm
      have HR := Lib.hid (show OutT W o S n N (k + 1) C (RI, 0) ((hssD ds).set i hs', L') (TbJ o bb hb ds F) (.returned (.tuple #[vi, .int .i64 0])) w1 from
        ⟨vi, rfl, his, tab_fin hm1 hs1 ht1 (HM.out.2.1.trans (hv_same hi hperm).symm) he1 hk1, hnew⟩)
      clear hm1 hs1 ht1 hpo hFp hperm his d hl' hnew he1 HI hk1 hb' HC
      go_wp2_with (go_at_call 130; refine HHas.out.mono ?_; rintro e w' ⟨rfl, rfl⟩)
      exact bodyPost_ret (v := .tuple #[vi, .int .i64 0]) (by simp [results, Tryz.results90, go_sem, *]) rfl HR.out
  · have hperm := HI.1 (.inl hE)
    rw [← hl'] at hperm
    have dE : (E == 0) = false := by simpa using hE
    have HR := Lib.hid (show OutT W o S n N (k + 1) C (RI, E) ((hssD ds).set i hs', L') (TbJ o bb hb ds F) (.returned (.tuple #[vi, .int .i64 E])) w1 from
      ⟨vi, rfl, his, tab_fin hm1 hs1 ht1 (HM.out.2.1.trans (hv_same hi hperm).symm) he1 hk1, hnew⟩)
    clear hm1 hs1 ht1 hperm his d hl' hnew he1 HI hk1 HC hE
    go_wp2
    exact bodyPost_ret (v := .tuple #[vi, .int .i64 E]) (by simp [results, Tryz.results90, go_sem, *]) rfl HR.out
section
variable {W : World} {o S n N k : Nat} {C : Cps} {hss : List (List Hq)} {L : List Bool} {J : Nat → Prop}
set_option maxHeartbeats 1000000 in
theorem leave_t (h : Tab W o S n N k C hss L J) (hk : k ≤ 800) (hn : n ≤ 64) (hS : 0 < S) (id : Int) (hf : Fit id) :
    Calls Tryz.prog 35 #[.pointer (some ⟨o, 0, none⟩), .int .i64 id] W (OutT W o S n N (k + 1) C (lvTR hss id) (lvTS hss L id) J) := by
  obtain ⟨bb, cp, hb, po, ds, hv, F, hm, hp, rfl, rfl, ok⟩ := h
  have hi0 := wth_lt (by rw [ok.sl]; exact hS) id
  have hi : wthT (hssD ds) id < ds.length := by rw [← hss_len]; exact hi0
  have okX := ok.lv hS id
  unfold lvTR lvTS at *
  rw [hss_hsAt hi] at okX ⊢
  have hls := hm.db.pol.sz
  have HE := Lib.hid (endT_d hm hp ok id hf hi rfl _ e_bleave _ _ (leave_d (hm.db.db _ (List.getElem_mem hi)) (db_inv ok hi) hk hn id) (lv_ids (db_inv ok hi) hls id) okX)
  obtain ⟨R, hR⟩ : ∃ R, lvBR (hsP ds[wthT (hssD ds) id].l) id = R := ⟨_, rfl⟩
  rw [hR] at HE ⊢
  obtain ⟨RI, E⟩ := R
  clear hm hp ok hi0 okX hR hls
  go_enter Tryz.func35, Tryz.ntmps35
  go_wp2_with fail
  refine HE.out.mono ?_
  rintro e w1 ⟨vi, rfl, h1, h2, h3⟩
  have HR := Lib.hid (show OutT W o S n N (k + 1) C (RI, E) ((hssD ds).set (wthT (hssD ds) id) (lvBS (hsP ds[wthT (hssD ds) id].l) L id).1, (lvBS (hsP ds[wthT (hssD ds) id].l) L id).2) (TbJ o bb hb ds F) (.returned (.tuple #[vi, .int .i64 E])) w1 from ⟨vi, rfl, h1, h2, h3⟩)
  clear h1 h2 h3 HE
  simp only
  go_wp2
  exact bodyPost_ret (v := .tuple #[vi, .int .i64 E]) (by simp [results, Tryz.results35, go_sem, *]) rfl HR.out
set_option maxHeartbeats 1000000 in
theorem abandon_t (h : Tab W o S n N k C hss L J) (hk : k ≤ 800) (hn : n ≤ 64) (hS : 0 < S) (id : Int) (hf : Fit id) :
    Calls Tryz.prog 52 #[.pointer (some ⟨o, 0, none⟩), .int .i64 id] W (OutT W o S n N (k + 1) C (abTR hss id) (abTS hss L id) J) := by
  obtain ⟨bb, cp, hb, po, ds, hv, F, hm, hp, rfl, rfl, ok⟩ := h
  have hi0 := wth_lt (by rw [ok.sl]; exact hS) id
  have hi : wthT (hssD ds) id < ds.length := by rw [← hss_len]; exact hi0
  have okX := ok.ab hS id
  unfold abTR abTS at *
  rw [hss_hsAt hi] at okX ⊢
  have hls := hm.db.pol.sz
  have HE := Lib.hid (endT_d hm hp ok id hf hi rfl _ e_babandon _ _ (abandon_d (hm.db.db _ (List.getElem_mem hi)) (db_inv ok hi) hk hn id) (ab_ids (db_inv ok hi) hls id) okX)
  obtain ⟨R, hR⟩ : ∃ R, abBR (hsP ds[wthT (hssD ds) id].l) id = R := ⟨_, rfl⟩
  rw [hR] at HE ⊢
  obtain ⟨RI, E⟩ := R
  clear hm hp ok hi0 okX hR hls
  go_enter Tryz.func52, Tryz.ntmps52
  go_wp2_with fail
  refine HE.out.mono ?_
  rintro e w1 ⟨vi, rfl, h1, h2, h3⟩
  have HR := Lib.hid (show OutT W o S n N (k + 1) C (RI, E) ((hssD ds).set (wthT (hssD ds) id) (abBS (hsP ds[wthT (hssD ds) id].l) L id).1, (abBS (hsP ds[wthT (hssD ds) id].l) L id).2) (TbJ o bb hb ds F) (.returned (.tuple #[vi, .int .i64 E])) w1 from ⟨vi, rfl, h1, h2, h3⟩)
  clear h1 h2 h3 HE
  simp only
  go_wp2
  exact bodyPost_ret (v := .tuple #[vi, .int .i64 E]) (by simp [results, Tryz.results52, go_sem, *]) rfl HR.out
set_option maxHeartbeats 1000000 in
theorem upgrade_t (h : Tab W o S n N k C hss L J) (hk : k ≤ 800) (hn : n ≤ 64) (hS : 0 < S) (id a : Int) (hf : Fit id) :
    Calls Tryz.prog 48 #[.pointer (some ⟨o, 0, none⟩), .int .i64 id, .int .i64 a] W fun e W' => e = .returned (.tuple #[.bool (upTG hss id a), .int .i64 (upTE hss id a)]) ∧ TabTo W o S n N (k + 1) C (upTS hss id a) L J W' := by
  obtain ⟨bb, cp, hb, po, ds, hv, F, hm, hp, rfl, rfl, ok⟩ := h
  have hi0 := wth_lt (by rw [ok.sl]; exact hS) id
  have hi : wthT (hssD ds) id < ds.length := by rw [← hss_len]; exact hi0
  have okX := ok.up hS (by omega) id a
  unfold upTG upTE upTS at *
  rw [hss_hsAt hi] at okX ⊢
  have HW := Lib.hid (withT_d hm hp id hf hi rfl)
  have HU := Lib.hid (upgrade_d (hm.db.db _ (List.getElem_mem hi)) (db_inv ok hi) hk hn id a)
  have HM := Lib.hid (And.intro hm (And.intro hp (And.intro ok okX)))
  clear hm hp ok hi0 okX
  go_enter Tryz.func48, Tryz.ntmps48
  go_wp2_with fail
  refine HW.out.mono ?_
  rintro e w' ⟨rfl, rfl⟩
  go_wp2_with fail
  refine HU.out.mono ?_
  rintro e w1 ⟨rfl, l', h1, d⟩
  have okX := HM.out.2.2.2
  rw [← h1] at okX
  have hR := tab_same HM.out.1 HM.out.2.1 HM.out.2.2.1 hi d okX
  rw [h1] at hR
  have HR := Lib.hid hR
  clear d h1 okX hR HM HU HW
  go_wp2
  exact bodyPost_ret (v := .tuple #[.bool (upBG (hsP ds[wthT (hssD ds) id].l) id a), .int .i64 (upBE (hsP ds[wthT (hssD ds) id].l) id a)]) (by simp [results, Tryz.results48, go_sem, *]) rfl ⟨rfl, HR.out⟩
set_option maxHeartbeats 1000000 in
theorem hand_t (h : Tab W o S n N k C hss L J) (hk : k ≤ 800) (hn : n ≤ 64) (hS : 0 < S) (id a : Int) (hf : Fit id) :
    Calls Tryz.prog 54 #[.pointer (some ⟨o, 0, none⟩), .int .i64 id, .int .i64 a] W fun e W' => e = .returned (.int .i64 (hnTE hss id a)) ∧ TabTo W o S n N (k + 1) C (hnTS hss id a) L J W' := by
  obtain ⟨bb, cp, hb, po, ds, hv, F, hm, hp, rfl, rfl, ok⟩ := h
  have hi0 := wth_lt (by rw [ok.sl]; exact hS) id
  have hi : wthT (hssD ds) id < ds.length := by rw [← hss_len]; exact hi0
  have okX := ok.hn hS id a
  unfold hnTE hnTS at *
  rw [hss_hsAt hi] at okX ⊢
  have HW := Lib.hid (withT_d hm hp id hf hi rfl)
  have HU := Lib.hid (hand_d (hm.db.db _ (List.getElem_mem hi)) (db_inv ok hi) hk hn id a)
  have HM := Lib.hid (And.intro hm (And.intro hp (And.intro ok okX)))
  clear hm hp ok hi0 okX
  go_enter Tryz.func54, Tryz.ntmps54
  go_wp2_with fail
  refine HW.out.mono ?_
  rintro e w' ⟨rfl, rfl⟩
  go_wp2_with fail
  refine HU.out.mono ?_
  rintro e w1 ⟨rfl, l', h1, d⟩
  have okX := HM.out.2.2.2
  rw [← h1] at okX
  have hR := tab_same HM.out.1 HM.out.2.1 HM.out.2.2.1 hi d okX
  rw [h1] at hR
  have HR := Lib.hid hR
  clear d h1 okX hR HM HU HW
  go_wp2
  go_ret
  exact ⟨rfl, HR.out⟩
end
end Go.Proofs.YtpffldfpabglbaaGreatDoor
end
