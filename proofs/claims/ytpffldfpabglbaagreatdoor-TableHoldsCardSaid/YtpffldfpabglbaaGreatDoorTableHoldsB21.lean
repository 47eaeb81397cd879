/- Texts merged: TbM, TbN, BkY, PoR, BkZ, PoRE, BkZK, BkZL, BdU, PoE, PoG, PoL, PoS, BeA, TbO -/
import Derived.Test.YtpffldfpabglbaaGreatDoorTableHoldsB20
import Derived.RangeFuncNested
import Derived.RangeFuncBound
import Derived.RangeFuncCalls
import Derived.RangeFuncLeaves
import Derived.Shelf.RegionOpen
import Derived.OwnWalkIn
import Derived.TacticsInMore
import Derived.LoopNIn
import Derived.LoopIn

/- SortFunc on a row of structs of the call's own, of any type: a permutation, in order. -/
section
namespace Go.Proofs.YtpffldfpabglbaaGreatDoor
open Go.RowKit Go.Sort Go.Shelf
set_option linter.unusedVariables false      -- a contract need not use every name

theorem holdsA {w : World} {g : Nat} {cur F : Array Value} {e : TypeId} (hb : w.heap[g]? = some (.cells cur e (0, 0))) (ht : cur.toList.take F.size = F.toList) : Holds id w g 0 F := by
  intro j hj
  refine ⟨?_, by simp [World.frozen?, hb]⟩
  have h1 : (cur.toList.take F.size)[j]? = F.toList[j]? := by rw [ht]
  rw [List.getElem?_take_of_lt hj] at h1
  simp only [World.cell?, hb, Nat.zero_add]
  simp only [Option.isSome_none, Bool.false_eq_true, if_false]
  rw [← Array.getElem?_toList, h1]
  simp [hj]
theorem heapA {w : World} {g n : Nat} {os : Array Obj} {cur : Array Value} {e : TypeId} {fr : Nat × Nat} (F : Array Value) (hb : w.heap[g]? = some (.cells cur e fr)) :
    (grow (putRow id (Sort.ahead w n) g 0 F) os).heap[g]? = some (.cells (putCells id 0 F cur) e fr) := by
  have hg : g < w.heap.size := (Array.getElem?_eq_some_iff.1 hb).1
  rw [heap_grow_old _ _ (by simpa using hg)]
  simp [putRow, mapBlock, Sort.ahead, Array.getElem?_modify, hb, onCells]
theorem tchA {w : World} {g n : Nat} {os : Array Obj} (F : Array Value) : Tch (fun b => b = g) w (grow (putRow id (Sort.ahead w n) g 0 F) os) := by
  refine ⟨rfl, rfl, rfl, by simp, fun k hk hne => ?_⟩
  rw [heap_grow_old _ _ (by simpa using hk)]
  have : g ≠ k := fun e => hne e.symm
  simp [putRow, mapBlock, Sort.ahead, Array.getElem?_modify, this]
theorem takeA (cur F : Array Value) (h : F.size ≤ cur.size) : (putCells id 0 F cur).toList.take F.size = F.toList := by
  apply List.ext_getElem?
  intro j
  by_cases hj : j < F.size
  · rw [List.getElem?_take_of_lt hj, Array.getElem?_toList]
    simp [putCells, hj, show j < cur.size by omega]
  · rw [List.getElem?_take_eq_none (by omega), List.getElem?_eq_none (by simp; omega)]
theorem flatA {α : Type} [Inhabited α] {sz : Nat} {row : α → List Value} (hz : 0 < sz) (hl : ∀ a, (row a).length = sz) (ss : List α) : flatK row sz ss.toArray = ⟨rowsOf row ss⟩ := by
  have hlen : (rowsOf row ss).length = ss.length * sz := rows_len hl ss
  apply Array.ext
  · rw [size_flatK]; simp [hlen]
  · intro t h1 h2
    rw [size_flatK] at h1
    have h1' : t < ss.length * sz := by simpa using h1
    have hd : t / sz < ss.length := Nat.div_lt_of_lt_mul (by rwa [Nat.mul_comm])
    have hm : t % sz < sz := Nat.mod_lt _ hz
    have h3 := rows_at' hl ss (t / sz) (t % sz) hd hm
    rw [show t / sz * sz + t % sz = t by rw [Nat.mul_comm]; exact Nat.div_add_mod t sz] at h3
    have e1 := get_flatK row sz ss.toArray t h1
    rw [getElem!_pos _ t (by rw [size_flatK]; exact h1)] at e1
    rw [e1, getElem!_pos ss.toArray (t / sz) (by simpa using hd)]
    have e2 : (⟨rowsOf row ss⟩ : Array Value)[t]? = (row ss[t / sz])[t % sz]? := by
      rw [← h3]; simp
    rw [Array.getElem?_eq_getElem h2] at e2
    simp only [List.getElem_toArray]
    rw [getElem!_pos _ _ (by rw [hl]; exact hm)]
    rw [List.getElem?_eq_getElem (by rw [hl]; exact hm)] at e2
    exact (Option.some.inj e2).symm
theorem permA {α : Type} [Inhabited α] {d d' : Array α} (h : PermIn 0 d.size d d') : d'.toList.Perm d.toList := by
  obtain ⟨h1, _, h3⟩ := h
  have e1 : d'.extract 0 d.size = d' := by rw [← h1]; exact Array.extract_size
  have e2 : d.extract 0 d.size = d := Array.extract_size
  rwa [e1, e2] at h3
theorem sortedA {α : Type} [Inhabited α] {lt : α → α → Bool} {d' : Array α} {n : Nat} (hn : d'.size = n) (h : SortedIn lt 0 n d') : d'.toList.Pairwise fun a b => lt b a = false := by
  rw [List.pairwise_iff_getElem]
  intro i j hi hj hij
  have := h i j (Nat.zero_le _) hij (by rw [← hn]; simpa using hj)
  have hi' : i < d'.size := by simpa using hi
  have hj' : j < d'.size := by simpa using hj
  rw [getElem!_pos d' i hi', getElem!_pos d' j hj'] at this
  simpa using this
theorem sort_rows {α : Type} [Inhabited α] {ST T : TypeId} {sz bytes : Nat} {row : α → List Value} (E : Elem Tryz.prog ST T sz bytes row) {ρ : Ren} (L : SlLaysF0.n6 Tryz.prog ρ) (aE : ∀ w, (isAgg (ρ.t 24)).run Tryz.prog w = .ok true w) (zE : ∀ w, (Go.sizeOf (ρ.t 24)).run Tryz.prog w = .ok sz w)
    (cf : α → α → Int) (hO : SWO (ltOf cf)) (fn : Nat) (eg : ∀ args w, (callFunc fn args).run Tryz.prog w = .ok (.enter fn args) w)
    (hc : ∀ x y W, Calls Tryz.prog fn #[.agg (row x).toArray, .agg (row y).toArray] W fun e w' => e = .returned (.int .i64 (cf x y)) ∧ GG W w')
    (g0 g cap : Nat) (ss : List α) (w : World) (h : Own T sz row w g0 (.slice (some ⟨g, 0, none⟩) ss.length cap) ss) (hsm : ss.length ≤ 100000) :
    Calls Tryz.prog (ρ.f 6) #[.slice (some ⟨g, 0, none⟩) ss.length cap, .func (.func fn) #[] #[]] w fun e w' => e = .returned (.tuple #[]) ∧ ∃ l : List α, l.Perm ss ∧ (l.Pairwise fun a b => ltOf cf b a = false) ∧ Own T sz row w' g0 (.slice (some ⟨g, 0, none⟩) l.length cap) l ∧ Tch (fun b => b = g) w w' := by
  obtain ⟨hx, hr⟩ := h
  rcases hr with ⟨h0, _⟩ | ⟨g', cap', cur, h1, h2, h3, h4, h5, h6, h7⟩
  · simp at h0
  · simp only [Value.slice.injEq, Option.some.injEq, Addr.mk.injEq, and_true, true_and] at h1
    obtain ⟨rfl, rfl⟩ := h1
    have hF : (⟨rowsOf row ss⟩ : Array Value).size = ss.length * sz := rows_len E.len ss
    have hH : HoldsK row sz w g 0 ss.toArray := by
      unfold HoldsK
      rw [flatA E.pos E.len]
      exact holdsA h3 (by rw [hF]; exact h7)
    have hcl : CmpLays Tryz.prog fn #[] row sz cf g 0 ss.toArray.size w := fun _ _ _ _ x y => hc x y _
    refine Calls.mono (AnyQ.slices_SortFunc L sz aE zE row E.len E.one cf hO fn #[] g 0 cap ss.toArray w eg hcl hH (hlt h3) (by simp; omega)) ?_
    rintro e w' ⟨rfl, d', n, os, hp, hs, rfl⟩
    have hsz : d'.size = ss.length := by have := hp.1; simpa using this
    have hp2 := permA hp
    refine ⟨rfl, d'.toList, by simpa using hp2, sortedA (by simpa using hsz) hs, ?_, ?_⟩
    · have hl : d'.toList.length = ss.length := by simpa using hsz
      have hz : (⟨rowsOf row d'.toList⟩ : Array Value).size = ss.length * sz := by rw [← hl]; exact rows_len E.len _
      unfold sortWorldK putRowK
      have ef : flatK row sz d' = ⟨rowsOf row d'.toList⟩ := by
        have := flatA E.pos E.len d'.toList
        rwa [Array.toArray_toList] at this
      rw [ef]
      unfold Own
      rw [hl]
      refine ⟨by show (rowsOf row d'.toList).length = _; exact hz, .inr ⟨g, cap, _, rfl, h2, heapA _ h3, h4, h5, by simp [putCells, h6], ?_⟩⟩
      have := takeA cur ⟨rowsOf row d'.toList⟩ (by rw [hz, h6]; exact Nat.mul_le_mul_right sz h4)
      rw [hz] at this
      exact this
    · exact tchA _
end Go.Proofs.YtpffldfpabglbaaGreatDoor
end

/- What is held: rows of it, its order; the sorted heads. -/
section
namespace Go.Proofs.YtpffldfpabglbaaGreatDoor
open Go.RowKit Go.Sort
set_option linter.unusedVariables false

instance : Inhabited Hm := ⟨⟨⟨0, 0, 0, []⟩, none, 0⟩⟩
instance : Inhabited Hl := ⟨⟨0, 0, 0, 0⟩⟩
def hlrow (e : Hl) : List Value := [.int .i64 e.x, .int .i64 e.t, .int .i64 e.r, .int .i64 e.m]
theorem elemHl : Elem Tryz.prog 45 44 4 32 hlrow where
  und := Tryz.underlying45
  inf := by
    have h : (Tryz.prog.info? 44).map (fun i => (i.zero.map fun z => z.cells.size, i.size, i.bytes)) = some (some 4, 4, 32) := by kernel_rfl
    cases e : Tryz.prog.info? 44 with
    | none => rw [e] at h; cases h
    | some i =>
      rw [e] at h
      simp only [Option.map_some, Option.some.injEq, Prod.mk.injEq] at h
      obtain ⟨h1, h2, h3⟩ := h
      cases ez : i.zero with
      | none => rw [ez] at h1; cases h1
      | some z => rw [ez] at h1; exact ⟨i, z, rfl, ez, h2, h3, Option.some.inj h1⟩
  pos := by decide
  byt := by decide
  len := fun _ => rfl
  one := fun a u hu => by
    simp only [hlrow, List.mem_cons, List.not_mem_nil, or_false] at hu
    rcases hu with rfl | rfl | rfl | rfl <;> rfl
abbrev HlOwn (w : World) (g0 : Nat) (v : Value) (l : List Hl) : Prop := Own 44 4 hlrow w g0 v l
def cmpM (a b : Hm) : Int := cmpN (nmH a.h) (nmH b.h)
def cmpHl (a b : Hl) : Int := orP (cP a.x b.x) (cmpN (a.t, a.r) (b.t, b.r))
theorem cmpM_swo : SWO (ltOf cmpM) where
  irrefl x := cmpN_swo.irrefl _
  trans x y z h1 h2 := cmpN_swo.trans _ _ _ h1 h2
  ntrans x y z h1 h2 := cmpN_swo.ntrans _ _ _ h1 h2
instance (a b : Hl) : Decidable (hlL a b) := by unfold hlL; infer_instance
theorem cmpL_lt (a b : Hl) : ltOf cmpHl a b = decide (hlL a b) := by
  have hN := cmpN_lt (a.t, a.r) (b.t, b.r)
  unfold ltOf at hN
  have q : (cmpN (a.t, a.r) (b.t, b.r) < 0) ↔ nlt (a.t, a.r) (b.t, b.r) := by simpa using hN
  unfold ltOf cmpHl
  rw [decide_eq_decide]
  unfold hlL
  rcases Int.lt_trichotomy a.x b.x with h | h | h
  · rw [cP_lt _ _ h]
    exact ⟨fun _ => .inl h, fun _ => show (-1 : Int) < 0 by decide⟩
  · rw [h, cP_eq]
    show cmpN (a.t, a.r) (b.t, b.r) < 0 ↔ _
    rw [q]
    exact ⟨fun e => .inr ⟨rfl, e⟩, fun e => e.elim (fun e => absurd e (Int.lt_irrefl _)) (fun e => e.2)⟩
  · rw [cP_gt _ _ h]
    exact ⟨fun e => absurd e (show ¬ (1 : Int) < 0 by decide), fun e => e.elim (fun e => by omega) (fun e => by omega)⟩
theorem cmpL_swo : SWO (ltOf cmpHl) where
  irrefl x := by rw [cmpL_lt]; simpa using hlt_irr x
  trans x y z h1 h2 := by rw [cmpL_lt] at *; simp only [decide_eq_true_eq] at *; exact hlt_tr h1 h2
  ntrans x y z h1 h2 := by
    rw [cmpL_lt] at *
    simp only [decide_eq_false_iff_not] at *
    unfold hlL nlt at *
    simp only at *
    omega
/-- Heads in order, no two of one name. -/
theorem srtM_of {l : List Hm} (hp : l.Pairwise fun a b => ltOf cmpM b a = false) (hn : ApartN (l.map Hm.h)) : SrtH (l.map Hm.h) := by
  unfold ApartN at hn
  unfold SrtH
  rw [List.pairwise_map] at hn ⊢
  refine (hp.and hn).imp fun {a b} h => ?_
  obtain ⟨h1, h2⟩ := h
  have h3 : ltOf cmpN (nmH b.h) (nmH a.h) = false := h1
  rw [cmpN_lt] at h3
  rcases nlt_tot (nmH a.h) (nmH b.h) with q | q | q
  · exact q
  · exact absurd q h2
  · simp [q] at h3
theorem apart_perm {a b : List Hq} (h : ApartN a) (p : a.Perm b) : ApartN b := (p.pairwise_iff (fun {x y} (e : nmH x ≠ nmH y) => e.symm)).1 h
/-- The snapshot: all heads, sorted. -/
theorem snap_of {hss : List (List Hq)} (h : ApartN hss.flatten) {l l' : List Hm} (e : l.map Hm.h = hss.flatten) (p : l'.Perm l) (hp : l'.Pairwise fun a b => ltOf cmpM b a = false) : l'.map Hm.h = snapT hss := by
  have p2 : (l'.map Hm.h).Perm hss.flatten := by rw [← e]; exact p.map _
  exact snap_eq h (srtM_of hp (apart_perm h p2.symm)) p2
/-- What is held, in order, each once. -/
theorem srtL_of {l : List Hl} (hp : l.Pairwise fun a b => ltOf cmpHl b a = false) (hn : l.Pairwise fun a b => ¬ (a.x = b.x ∧ a.t = b.t ∧ a.r = b.r)) : l.Pairwise hlL := by
  refine (hp.and hn).imp fun {a b} h => ?_
  obtain ⟨h1, h2⟩ := h
  rw [cmpL_lt] at h1
  have h3 : ¬ hlL b a := by simpa using h1
  unfold hlL nlt at *
  simp only at *
  omega
theorem ent_part {s : List Hq} (h : SrtH s) (ok : ∀ h ∈ s, Ok h.W h.q) : (entT s).Pairwise fun a b => ¬ (a.x = b.x ∧ a.t = b.t ∧ a.r = b.r) := by
  unfold entT
  rw [List.pairwise_flatMap]
  refine ⟨fun a ha => ?_, h.imp fun {a b} q u hu v hv e => ?_⟩
  · rw [List.pairwise_map]
    refine List.Pairwise.filter _ ?_
    exact (ok a ha).pr.imp fun {x y} q e => q.txn e.1
  · obtain ⟨_, _, rfl⟩ := List.mem_map.1 hu
    obtain ⟨_, _, rfl⟩ := List.mem_map.1 hv
    have h1 := e.2.1
    have h2 := e.2.2
    unfold nlt nmH at q
    simp only at h1 h2 q
    omega
theorem part_symm {a b : Hl} (h : ¬ (a.x = b.x ∧ a.t = b.t ∧ a.r = b.r)) : ¬ (b.x = a.x ∧ b.t = a.t ∧ b.r = a.r) := fun e => h ⟨e.1.symm, e.2.1.symm, e.2.2.symm⟩
theorem ent_permT {a b : List Hq} (p : a.Perm b) : (entT a).Perm (entT b) := p.flatMap_right _
/-- All: sorted, whatever the order of the heads. -/
theorem all_of {s u : List Hq} (h : SrtH s) (ok : ∀ h ∈ s, Ok h.W h.q) (p : u.Perm s) {l : List Hl} (pl : l.Perm (entT u)) (hp : l.Pairwise fun a b => ltOf cmpHl b a = false) : l = allT s := by
  have p2 := pl.trans (ent_permT p)
  exact all_eq h ok (srtL_of hp ((p2.pairwise_iff (fun {a b} q => part_symm q)).2 (ent_part h ok))) p2
/-- Holds: those of one transaction. -/
theorem hds_mem {s : List Hq} (ok : ∀ h ∈ s, Ok h.W h.q) {txn : Int} {e : Hl} : e ∈ hdsT s txn ↔ e ∈ entT s ∧ e.x = txn := by
  unfold entT hdsT
  simp only [List.mem_flatMap, List.mem_map, List.mem_filter, Bool.not_eq_true', beq_eq_false_iff_ne]
  constructor
  · rintro ⟨h, ⟨hh, hm⟩, rfl⟩
    obtain ⟨r, hr, h1, h2⟩ := mdT_some hm
    exact ⟨⟨h, hh, r, ⟨hr, by rw [h2]; exact hm⟩, by rw [h1, h2]⟩, rfl⟩
  · rintro ⟨⟨h, hh, r, ⟨hr, hm⟩, rfl⟩, rfl⟩
    have e := mdT_of (ok h hh) hr
    exact ⟨h, ⟨hh, by rw [e]; exact hm⟩, by rw [e]⟩
theorem hds_perm {s : List Hq} (h : SrtH s) (ok : ∀ h ∈ s, Ok h.W h.q) (txn : Int) : (hdsT s txn).Perm ((entT s).filter fun e => e.x == txn) :=
  (List.perm_ext_iff_of_nodup ((hds_srt h txn).imp fun {a b} q e => by subst e; exact hlt_irr _ q) ((ent_nodup h ok).filter _)).2 fun e => by
    rw [hds_mem ok, List.mem_filter, beq_iff_eq]
theorem hds_of {s u : List Hq} (h : SrtH s) (ok : ∀ h ∈ s, Ok h.W h.q) (p : u.Perm s) (txn : Int) {l : List Hl} (pl : l.Perm ((entT u).filter fun e => e.x == txn)) (hp : l.Pairwise fun a b => ltOf cmpHl b a = false) : l = hdsT s txn := by
  have p2 : l.Perm ((entT s).filter fun e => e.x == txn) := pl.trans ((ent_permT p).filter _)
  have hsrt := srtL_of hp ((p2.pairwise_iff (fun {a b} q => part_symm q)).2 ((ent_part h ok).filter _))
  exact List.Perm.eq_of_pairwise (le := hlL) (fun x y _ _ h1 h2 => absurd (hlt_tr h1 h2) (hlt_irr _)) hsrt (hds_srt h txn) (p2.trans (hds_perm h ok txn).symm)
/-- Which requests are told. -/
def entF (f : Rq → Bool) (s : List Hq) : List Hl := s.flatMap fun h => (h.q.filter fun r => !(r.md == 0) && f r).map fun r => ⟨r.txn, h.t, h.r, r.md⟩
theorem entF_all (s : List Hq) : entF (fun _ => true) s = entT s := by unfold entF entT; simp
theorem entF_txn (s : List Hq) (txn : Int) : entF (fun r => r.txn == txn) s = (entT s).filter fun e => e.x == txn := by
  unfold entF entT
  rw [List.filter_flatMap]
  congr 1
  funext h
  rw [List.filter_map, List.filter_filter]
  congr 1
  refine List.filter_congr fun r _ => ?_
  simp [Bool.and_comm]
end Go.Proofs.YtpffldfpabglbaaGreatDoor
end

/- The document's own bucket: end (a head behind a call is scanned, and removed if it is empty). -/
section
namespace Go.Proofs.YtpffldfpabglbaaGreatDoor
open Go.RowKit
set_option linter.unusedVariables false      -- a contract need not use every name

end Go.Proofs.YtpffldfpabglbaaGreatDoor
end

/- The document's own pool. -/
section
namespace Go.Proofs.YtpffldfpabglbaaGreatDoor
open Go.RowKit
set_option linter.unusedVariables false

/-- The document's own pool in memory: a row of truths. -/
structure Rp (W : World) (o g : Nat) (L : List Bool) : Prop where
  p0 : W.cell? ⟨o, 0, none⟩ = some (.slice (some ⟨g, 0, none⟩) L.length L.length)
  cs : ∀ i, i < L.length → W.cell? ⟨g, i, none⟩ = some (.bool (L.getD i false)) ∧ W.frozen? ⟨g, i, none⟩ = false
  ol : o < W.heap.size
  gl : g < W.heap.size
  og : g ≠ o
  sz : L.length ≤ 128
theorem Rp.tch {S : Nat → Prop} {W W' : World} {o g : Nat} {L : List Bool} (h : Rp W o g L) (k : Tch S W W') (ho : ¬ S o) (hg : ¬ S g) : Rp W' o g L :=
  ⟨(k.cell h.ol ho).trans h.p0, fun i hi => ⟨(k.cell h.gl hg).trans (h.cs i hi).1, (k.froz h.gl hg).trans (h.cs i hi).2⟩, Nat.lt_of_lt_of_le h.ol k.size, Nat.lt_of_lt_of_le h.gl k.size, h.og, h.sz⟩
theorem Rp.nw {W W' : World} {o g : Nat} {L : List Bool} (h : Rp W o g L) (k : Nw W W') : Rp W' o g L := h.tch (Tch.nw (S := fun _ => False) k) (fun e => e) (fun e => e)
def RpTo (W : World) (o g : Nat) (L : List Bool) (W' : World) : Prop := Rp W' o g L ∧ Tch (fun k => k = g) W W'
theorem Rp.keep {W : World} {o g : Nat} {L : List Bool} (h : Rp W o g L) : RpTo W o g L W := ⟨h, Tch.refl _ W⟩
theorem Rp.put {W : World} {o g : Nat} {L : List Bool} (h : Rp W o g L) {i : Nat} (b : Bool) (hi : i < L.length) : RpTo W o g (L.set i b) (W.setCell ⟨g, i, none⟩ (.bool b)) := by
  have t := setCell_at W ⟨g, i, none⟩ (.bool b)
  refine ⟨⟨by rw [List.length_set]; exact (t.cell h.ol (fun e => h.og e.symm)).trans h.p0, fun j hj => ?_, by simpa using h.ol, by simpa using h.gl, h.og, by rw [List.length_set]; exact h.sz⟩, t⟩
  rw [List.length_set] at hj
  refine ⟨?_, by rw [World.frozen?_setCell]; exact (h.cs j hj).2⟩
  by_cases q : i = j
  · subst q
    rw [getD_at (by simpa using hj), List.getElem_set_self]
    exact World.cell?_setCell_same _ _ _ (h.cs _ hj).1
  · rw [getD_at (by simpa using hj), List.getElem_set_ne q, ← getD_at hj]
    exact (World.cell?_setCell_other _ _ _ _ (fun r => q (congrArg Addr.off r))).trans (h.cs j hj).1

end Go.Proofs.YtpffldfpabglbaaGreatDoor
end

/- The document's own bucket: Leave. -/
section
namespace Go.Proofs.YtpffldfpabglbaaGreatDoor
open Go.RowKit
set_option linter.unusedVariables false      -- a contract need not use every name

end Go.Proofs.YtpffldfpabglbaaGreatDoor
end

/- The document's own pool: Each, Live. -/
section
namespace Go.Proofs.YtpffldfpabglbaaGreatDoor
open Go.RowKit
set_option linter.unusedVariables false

end Go.Proofs.YtpffldfpabglbaaGreatDoor
end

/- The document's own bucket: Ask, as far as it rejects. -/
section
namespace Go.Proofs.YtpffldfpabglbaaGreatDoor
open Go.RowKit
set_option linter.unusedVariables false      -- a contract need not use every name

end Go.Proofs.YtpffldfpabglbaaGreatDoor
end

/- The document's own bucket: what leaves it as it is; another row of heads. -/
section
namespace Go.Proofs.YtpffldfpabglbaaGreatDoor
open Go.RowKit
set_option linter.unusedVariables false      -- a contract need not use every name

theorem HmOk.tchS {w w' : World} {o : Nat} {u : Option Nat} {x : Hm} {S : Nat → Prop} (h : HmOk w o u x) (t : Tch S w w') (hS : ∀ b, x.a = some b → x.h.q ≠ [] → ¬ S b.block) : HmOk w' o u x := by
  refine ⟨?_, h.cap, h.len, h.new, h.off⟩
  obtain ⟨a, c, e, q | ⟨b, o', e2, hc⟩⟩ := h.rd
  · exact ⟨a, c, e, .inl q⟩
  · subst e2
    by_cases hq : x.h.q = []
    · exact ⟨_, c, e, .inl ⟨hq, fun q => by cases q⟩⟩
    have hb : ¬ S b := hS _ (by unfold hmV at e; injection e) hq
    exact ⟨_, c, e, .inr ⟨b, o', rfl, Nat.lt_of_lt_of_le hc.lt t.size, fun i hi c u hu => (t.cell hc.lt hb).trans (hc.cell i hi c u hu)⟩⟩
/-- Blocks that are none of the bucket's may change. -/
theorem Rb.tchS {w w' : World} {S : Nat → Prop} {o po : Nat} {most : Int} {v : Value} {l : List Hm} (h : Rb w o po most v l) (t : Tch S w w') (ho : ¬ S o) (hv : ∀ b, v.ownBlock = some b → ¬ S b) (hx : ∀ x ∈ l, ∀ b, x.a = some b → x.h.q ≠ [] → ¬ S b.block) : Rb w' o po most v l :=
  ⟨(t.cell h.ol ho).trans h.c0, (t.cell h.ol ho).trans h.c1, (t.cell h.ol ho).trans h.c2, fun j => (t.froz h.ol ho).trans (h.fz j), Nat.lt_of_lt_of_le h.ol t.size, h.pl, own_tchS h.own t hv, fun x q => (h.ok x q).tchS t (hx x q), h.len⟩
end Go.Proofs.YtpffldfpabglbaaGreatDoor
end

/- Get, Len; the calls of no bucket. -/
section
namespace Go.Proofs.YtpffldfpabglbaaGreatDoor
open Go.RowKit Go.Shelf
set_option linter.unusedVariables false      -- a contract need not use every name

theorem len_d {w : World} {o mb po n : Nat} {l : List Hp} {L : List Bool} {F : Nat → Prop} (h : Db w o mb po n l L F) :
    Calls Tryz.prog 76 #[.pointer (some ⟨o, 0, none⟩)] w fun e w' => e = .returned (.int .i64 l.length) ∧ w = w' := by
  have HMd := Lib.hid (bmade_yes o w h.c0)
  have c3 := h.c3
  have hol := h.ol
  have hle := h.map.len 3
  clear h
  go_enter Tryz.func76, Tryz.ntmps76
  go_wp2_with (go_at_call 115; refine HMd.out.mono ?_; rintro e w' ⟨rfl, rfl⟩)
  go_ret
  exact ⟨rfl, rfl⟩
end Go.Proofs.YtpffldfpabglbaaGreatDoor
end

/- A range over a function that yields numbers out of a row of its own, which it has made ahead of the first one: the law. -/
section
namespace Go.Proofs.YtpffldfpabglbaaGreatDoor
open Go.RowKit Go.Shelf

/-- What lies in S lies as it lay. -/
structure KpI (S : Nat → Prop) (A B : World) : Prop where
  size : A.heap.size ≤ B.heap.size
  same : ∀ k, S k → B.heap[k]? = A.heap[k]?
theorem KpI.refl (S : Nat → Prop) (A : World) : KpI S A A := ⟨Nat.le_refl _, fun _ _ => rfl⟩
theorem KpI.trans {S : Nat → Prop} {A B C : World} (h : KpI S A B) (k : KpI S B C) : KpI S A C := ⟨Nat.le_trans h.size k.size, fun i hi => (k.same i hi).trans (h.same i hi)⟩
theorem KpI.put {S : Nat → Prop} {A : World} {l : Nat} (o : Obj) (hl : ¬ S l) : KpI S A (A.putObj l o) := ⟨by simp, fun i hi => World.putObj_heap_other (fun e => hl (e ▸ hi))⟩
variable {F : Fence} {n : Nat} {P : Program}
end Go.Proofs.YtpffldfpabglbaaGreatDoor
end

/- A pool: Each and its iterator. -/
section
namespace Go.Proofs.YtpffldfpabglbaaGreatDoor
open Go.RowKit Go.Shelf
set_option linter.unusedVariables false
attribute [local go_sem] Oper.semAt_some

/-- A value that reads as a row of truths of the call's own. -/
abbrev BS (w : World) (v : Value) (L : List Bool) : Prop := w.ownsRow 0 4 1 v L.length (L.map Value.bool)
theorem BS.form {w : World} {v : Value} {l : List Bool} (h : BS w v l) : (v = .slice none 0 0 ∧ l = []) ∨ ∃ g cap, v = .slice (some ⟨g, 0, none⟩) l.length cap := by
  rcases h.2 with ⟨rfl, h0⟩ | ⟨g, cap, cur, rfl, _⟩
  · exact .inl ⟨rfl, List.length_eq_zero_iff.1 h0⟩
  · exact .inr ⟨g, cap, rfl⟩
theorem BS.cell {w : World} {g cap : Nat} {l : List Bool} (h : BS w (.slice (some ⟨g, 0, none⟩) l.length cap) l) (i : Nat) (hi : i < l.length) : w.cell? ⟨g, i, none⟩ = some (.bool (l.getD i false)) :=
  (World.ownsRow.cellAt h i (by omega)).trans (by simp [List.getD, hi])
end Go.Proofs.YtpffldfpabglbaaGreatDoor
end

/- What the law's own loop over Each collects; lives. -/
section
namespace Go.Proofs.YtpffldfpabglbaaGreatDoor
open Go.RowKit Go.Shelf
set_option linter.unusedVariables false
attribute [local go_sem] Oper.semAt_some

theorem tch_put {S : Nat → Prop} {A : World} {D : Nat} (o : Obj) (h : S D) : Tch S A (A.putObj D o) := ⟨rfl, rfl, rfl, by simp, fun k _ hk => World.putObj_heap_other (fun e => hk (e ▸ h))⟩

/-- The answer of the law's own lent. -/
def LentP (w : World) (l : List Int) (e : Ending) (W : World) : Prop := ∃ v, e = .returned (.tuple #[v, .bool true]) ∧ IS W v l ∧ (∀ k, v.ownBlock = some k → w.heap.size ≤ k) ∧ Nw w W
/-- Between two rounds: s is the size of the heap at the law's start. -/
structure LnI (w : World) (S : Nat → Prop) (pre : List Int) (A : World) (v : Value) : Prop where
  nw : Nw w A
  is : IS A v pre
  own : ∀ k, v.ownBlock = some k → w.heap.size + 6 ≤ k ∧ ¬ S k
  out : A.cell? ⟨w.heap.size + 3, 0, none⟩ = some v ∧ A.frozen? ⟨w.heap.size + 3, 0, none⟩ = false
  r1 : A.cell? ⟨w.heap.size, 0, none⟩ = some (.slice none 0 0) ∧ A.frozen? ⟨w.heap.size, 0, none⟩ = false
  r2 : A.cell? ⟨w.heap.size + 1, 0, none⟩ = some (.bool false) ∧ A.frozen? ⟨w.heap.size + 1, 0, none⟩ = false
  sb : ∀ k, S k → w.heap.size + 4 ≤ k ∧ k < A.heap.size
theorem LnI.tch {w A B : World} {S T : Nat → Prop} {pre : List Int} {v : Value} (h : LnI w S pre A v) (k : Tch T A B) (hT : ∀ i, T i → w.heap.size + 4 ≤ i ∧ v.ownBlock ≠ some i) : LnI w S pre B v := by
  have hlt : w.heap.size + 3 < A.heap.size := World.block_lt_of_cell? _ _ h.out.1
  have n3 : ¬ T (w.heap.size + 3) := fun e => by have := (hT _ e).1; omega
  have n1 : ¬ T (w.heap.size + 1) := fun e => by have := (hT _ e).1; omega
  have n0 : ¬ T w.heap.size := fun e => by have := (hT _ e).1; omega
  exact ⟨nw_tch h.nw k (fun i e => by have := (hT _ e).1; omega), h.is.tch k (fun g e q => (hT _ q).2 e), h.own, ⟨(k.cell hlt n3).trans h.out.1, (k.froz hlt n3).trans h.out.2⟩,
    ⟨(k.cell (by omega) n0).trans h.r1.1, (k.froz (by omega) n0).trans h.r1.2⟩, ⟨(k.cell (by omega) n1).trans h.r2.1, (k.froz (by omega) n1).trans h.r2.2⟩, fun i e => ⟨(h.sb i e).1, Nat.lt_of_lt_of_le (h.sb i e).2 k.size⟩⟩
theorem LnI.push {w A w1 : World} {S : Nat → Prop} {pre : List Int} {v : Value} {x : Int} {g cap : Nat} (h : LnI w S pre A v) (hA : w.heap.size + 6 ≤ A.heap.size) (q1 : IS w1 (.slice (some ⟨g, 0, none⟩) (pre.length + 1) cap) (pre ++ [x])) (q2 : Tch (fun k => v.ownBlock = some k) A w1)
    (q3 : ∀ k, (Value.slice (some ⟨g, 0, none⟩) (pre.length + 1) cap).ownBlock = some k → v.ownBlock = some k ∨ A.heap.size ≤ k) :
    LnI w S (pre ++ [x]) (w1.setCell ⟨w.heap.size + 3, 0, none⟩ (.slice (some ⟨g, 0, none⟩) (pre.length + 1) cap)) (.slice (some ⟨g, 0, none⟩) (pre.length + 1) cap) ∧
    KpI S A (w1.setCell ⟨w.heap.size + 3, 0, none⟩ (.slice (some ⟨g, 0, none⟩) (pre.length + 1) cap)) ∧
    (∀ k, (k = w.heap.size + 4 ∨ k = w.heap.size + 5) → (w1.setCell ⟨w.heap.size + 3, 0, none⟩ (.slice (some ⟨g, 0, none⟩) (pre.length + 1) cap)).heap[k]? = A.heap[k]?) ∧
    w1.cell? ⟨w.heap.size + 3, 0, none⟩ = some v ∧ w1.frozen? ⟨w.heap.size + 3, 0, none⟩ = false := by
  have hg := q3 g rfl
  have hgo : w.heap.size + 6 ≤ g ∧ ¬ S g := by
    rcases hg with e | e
    · exact h.own g e
    · exact ⟨by omega, fun q => by have := (h.sb g q).2; omega⟩
  have no : ∀ i, i < w.heap.size + 6 → ¬ (v.ownBlock = some i) := fun i hi e => by have := (h.own i e).1; omega
  have t2 := setCell_at w1 ⟨w.heap.size + 3, 0, none⟩ (.slice (some ⟨g, 0, none⟩) (pre.length + 1) cap)
  have c3 := (q2.cell (o := 0) (show w.heap.size + 3 < A.heap.size by omega) (no _ (by omega))).trans h.out.1
  have f3 := (q2.froz (o := 0) (show w.heap.size + 3 < A.heap.size by omega) (no _ (by omega))).trans h.out.2
  have sz := q2.size
  have c : ∀ b, b < w.heap.size + 6 → b ≠ w.heap.size + 3 → (w1.setCell ⟨w.heap.size + 3, 0, none⟩ (.slice (some ⟨g, 0, none⟩) (pre.length + 1) cap)).heap[b]? = A.heap[b]? := fun b hb hn =>
    (t2.block b (by omega) hn).trans (q2.block b (by omega) (no _ hb))
  refine ⟨⟨nw_tch (nw_tch h.nw q2 (fun i e => by have := (h.own i e).1; omega)) t2 (fun i e => by simp at e; omega), q1.tch t2 (fun b e => by simp [Value.ownBlock] at e; subst e; simp; omega), fun k e => by simp [Value.ownBlock] at e; subst e; exact hgo, ⟨World.cell?_setCell_same _ _ _ c3, by rw [World.frozen?_setCell]; exact f3⟩, ?_, ?_, fun i e => ⟨(h.sb i e).1, by have := (h.sb i e).2; simp; omega⟩⟩, ⟨by simp; omega, fun k e => ?_⟩, fun k e => ?_, c3, f3⟩
  · exact ⟨(World.cell?_of_block (c w.heap.size (by omega) (by omega))).trans h.r1.1, (World.frozen?_of_block (c w.heap.size (by omega) (by omega))).trans h.r1.2⟩
  · exact ⟨(World.cell?_of_block (c (w.heap.size + 1) (by omega) (by omega))).trans h.r2.1, (World.frozen?_of_block (c (w.heap.size + 1) (by omega) (by omega))).trans h.r2.2⟩
  · have hk := h.sb k e
    exact (t2.block k (by omega) (by simp; omega)).trans (q2.block k hk.2 (fun q => (h.own k q).2 e))
  · rcases e with rfl | rfl
    · exact c _ (by omega) (by omega)
    · exact c _ (by omega) (by omega)
theorem LnI.done {w A : World} {S : Nat → Prop} {pre : List Int} {v : Value} (h : LnI w S pre A v) (hK : A.heap[w.heap.size + 4]? = some (.deferred (some []))) :
    LentP w pre (.returned (.tuple #[v, .bool true])) (((A.setCell ⟨w.heap.size, 0, none⟩ v).setCell ⟨w.heap.size + 1, 0, none⟩ (.bool true)).putObj (w.heap.size + 4) (.deferred none)) ∧
    (((A.setCell ⟨w.heap.size, 0, none⟩ v).setCell ⟨w.heap.size + 1, 0, none⟩ (.bool true)).putObj (w.heap.size + 4) (.deferred none)).cell? ⟨w.heap.size, 0, none⟩ = some v ∧
    (((A.setCell ⟨w.heap.size, 0, none⟩ v).setCell ⟨w.heap.size + 1, 0, none⟩ (.bool true)).putObj (w.heap.size + 4) (.deferred none)).cell? ⟨w.heap.size + 1, 0, none⟩ = some (.bool true) ∧
    ((A.setCell ⟨w.heap.size, 0, none⟩ v).setCell ⟨w.heap.size + 1, 0, none⟩ (.bool true)).heap[w.heap.size + 4]? = some (.deferred (some [])) := by
  have hlt : w.heap.size + 4 < A.heap.size := (Array.getElem?_eq_some_iff.1 hK).1
  have t1 : Tch (fun k => k = w.heap.size ∨ k = w.heap.size + 1) A ((A.setCell ⟨w.heap.size, 0, none⟩ v).setCell ⟨w.heap.size + 1, 0, none⟩ (.bool true)) :=
    Tch.set (S := fun k => k = w.heap.size ∨ k = w.heap.size + 1) (p := ⟨w.heap.size + 1, 0, none⟩) (Tch.set (S := fun k => k = w.heap.size ∨ k = w.heap.size + 1) (p := ⟨w.heap.size, 0, none⟩) (Tch.refl _ A) (.inl (.inl rfl)) v) (.inl (.inr rfl)) _
  have t2 : Tch (fun k => k = w.heap.size + 4) _ (((A.setCell ⟨w.heap.size, 0, none⟩ v).setCell ⟨w.heap.size + 1, 0, none⟩ (.bool true)).putObj (w.heap.size + 4) (.deferred none)) := tch_put _ rfl
  have t3 := (t1.mono (S' := fun k => k = w.heap.size ∨ k = w.heap.size + 1 ∨ k = w.heap.size + 4) (fun k _ e => by omega)).trans (t2.mono (fun k _ e => by omega))
  have hs : A.heap.size ≤ ((A.setCell ⟨w.heap.size, 0, none⟩ v).setCell ⟨w.heap.size + 1, 0, none⟩ (.bool true)).heap.size := t1.size
  refine ⟨⟨v, rfl, h.is.tch t3 (fun g e q => by have := (h.own g e).1; omega), fun k e => by have := (h.own k e).1; omega, nw_tch h.nw t3 (fun i e => by omega)⟩, ?_, ?_, ?_⟩
  · rw [t2.cell (by omega) (by omega), World.cell?_setCell_other _ _ _ _ (by simp)]
    exact World.cell?_setCell_same _ _ _ h.r1.1
  · rw [t2.cell (by omega) (by omega)]
    exact World.cell?_setCell_same _ _ _ (by rw [World.cell?_setCell_other _ _ _ _ (by simp)]; exact h.r2.1)
  · exact (t1.block _ hlt (by omega)).trans hK
end Go.Proofs.YtpffldfpabglbaaGreatDoor
end

/- A pool of the call's own, step by step; lives; rows of numbers that came in. -/
section
namespace Go.Proofs.YtpffldfpabglbaaGreatDoor
open Go.RowKit
set_option linter.unusedVariables false

/-- A pool of the call's own: nothing that was there has changed. -/
structure PAcc (w W : World) (p : Nat) (L : List Bool) (F : Nat → Prop) : Prop where
  po : Pol W p L F
  new : ∀ k, F k → w.heap.size ≤ k
  nw : Nw w W
theorem PAcc.step {w W W' : World} {p : Nat} {L : List Bool} {F : Nat → Prop} (h : PAcc w W p L F) (k : Nw W W') : PAcc w W' p L F := ⟨h.po.nw k, h.new, h.nw.trans k⟩
/-- A step of such a pool: what else changes. -/
def PAccTo (w W : World) (p : Nat) (F : Nat → Prop) (L : List Bool) (W' : World) : Prop := ∃ F', PAcc w W' p L F' ∧ (∀ k, F' k → F k ∨ W.heap.size ≤ k) ∧ Tch F W W'
theorem PAcc.to {w W W' : World} {p : Nat} {L L' : List Bool} {F : Nat → Prop} (h : PAcc w W p L F) (k : PolTo W p F L' W') : PAccTo w W p F L' W' := by
  obtain ⟨F', h1, h2, h3⟩ := k
  exact ⟨F', ⟨h1, fun k e => (h2 k e).elim (h.new k) (fun q => Nat.le_trans h.nw.sz q), nw_tch h.nw h3 h.new⟩, h2, h3⟩
/-- What the walk is told of a slice of numbers that came in. -/
def IsNum (w : World) (a : Option Addr) (len cap : Nat) (zs : List Int) : Prop :=
  (a = none ∧ len = 0 ∧ cap = 0 ∧ zs = []) ∨
  ∃ x, a = some x ∧ len ≤ cap ∧ cap ≤ maxLen ∧ zs.length = cap ∧ (∀ i, i < zs.length → w.cell? (x.add i) = some (.int .i64 (zs.getD i 0))) ∧ ∀ n ∈ zs, (Lit.int .i64 n).wf = true
theorem IsNum.at {w : World} {a : Option Addr} {len cap : Nat} {zs : List Int} (h : IsNum w a len cap zs) (hl : 0 < len) : ∃ b o, a = some ⟨b, o, none⟩ ∧ len ≤ maxLen ∧ b < w.heap.size ∧ (∀ i, i < len → w.cell? ⟨b, o + i, none⟩ = some (.int .i64 (zs.getD i 0))) ∧ ∀ i, i < len → (Lit.int .i64 (zs.getD i 0)).wf = true := by
  rcases h with ⟨_, h0, _⟩ | ⟨x, rfl, h1, h2, h3, h4, h5⟩
  · omega
  · obtain ⟨b, o, spot⟩ := x
    have hs : spot = none := by simpa [Addr.add] using World.cell?_spot (h4 0 (by omega))
    subst hs
    have hc : ∀ i, i < len → w.cell? ⟨b, o + i, none⟩ = some (.int .i64 (zs.getD i 0)) := fun i hi => by
      have := h4 i (by omega)
      rwa [Addr.add_lit] at this
    refine ⟨b, o, rfl, by omega, World.block_lt_of_cell? _ _ (hc 0 hl), hc, fun i hi => h5 _ ?_⟩
    have : i < zs.length := by omega
    simp [List.getD, this]
end Go.Proofs.YtpffldfpabglbaaGreatDoor
end

/- The laws of buckets: a bucket and its pool of the call's own; made, lives, call. -/
section
namespace Go.Proofs.YtpffldfpabglbaaGreatDoor
open Go.RowKit Go.Shelf
set_option linter.unusedVariables false      -- a contract need not use every name

structure BA (w W : World) (o mb po n k : Nat) (l : List Hp) (L : List Bool) (F : Nat → Prop) : Prop where
  db : Db W o mb po n l L F
  inv : BInv n k (hsP l) [] L
  nw : Nw w W
  mn : w.heap.size ≤ mb
  new : ∀ k, F k → w.heap.size ≤ k
theorem BA.step {w W W' : World} {o mb po n k : Nat} {l : List Hp} {L : List Bool} {F : Nat → Prop} (h : BA w W o mb po n k l L F) (g : Nw W W') : BA w W' o mb po n k l L F := ⟨h.db.nw g, h.inv, h.nw.trans g, h.mn, h.new⟩
theorem BA.to {w W W' : World} {o mb po n k : Nat} {l l' : List Hp} {L L' : List Bool} {F : Nat → Prop} (h : BA w W o mb po n k l L F) (d : DbTo W o mb po n F l W' l' L') (b : BInv n (k + 1) (hsP l') [] L') : ∃ F', BA w W' o mb po n (k + 1) l' L' F' := by
  obtain ⟨F', h1, h2, h3, _⟩ := d
  exact ⟨F', h1, b, nw_tch h.nw h3 (fun i e => e.elim (fun e => e ▸ h.mn) (h.new i)), h.mn, fun i e => (h2 i e).elim (h.new i) (fun q => Nat.le_trans h.nw.sz q)⟩
/-- What a call leaves. -/
def BaTo (w : World) (o mb po n k : Nat) (hs : List Hq) (L : List Bool) (W : World) : Prop := ∃ l F, hsP l = hs ∧ BA w W o mb po n k l L F
section
variable {w W : World} {o mb po n k : Nat} {l : List Hp} {L : List Bool} {F : Nat → Prop}
end
/-- Heads stay where their blocks do. -/
theorem HdsAt.keep {w w' : World} {o : Nat} {v : Value} {hs : List Hq} (h : HdsAt w o v hs) (hk : ∀ k, o < k → k < w.heap.size → w'.heap[k]? = w.heap[k]?) : HdsAt w' o v hs := by
  obtain ⟨lm, h1, h2, h3⟩ := h
  refine ⟨lm, ⟨h1.1, ?_⟩, h2, fun x hx => (h3 x hx).blk fun b j z e hq hc => ⟨hk _ (by have := (h3 x hx).new b _ _ (by unfold hmV; rw [e]); omega) (World.block_lt_of_cell? _ ⟨b.block, j, none⟩ hc), (h3 x hx).off b e hq⟩⟩
  have hge : ∀ g, v.ownBlock = some g → o + 1 ≤ g ∧ g < w.heap.size := fun g e => ⟨oge h1 e, olt h1 e⟩
  rcases h1.2 with h0 | ⟨g, cap, cur, rfl, hb, hg, rest⟩
  · exact .inl h0
  · have := hge g rfl
    exact .inr ⟨g, cap, cur, rfl, hb, (hk g (by omega) this.2).trans hg, rest⟩
theorem kit_T (t : Int) (w : World) : Calls Tryz.prog 41 #[.int .i64 t] w fun e w' => e = .returned (.agg #[.int .i64 t, .int .i64 (-1)]) ∧ Nw w w' := by
  go_enter Tryz.func41, Tryz.ntmps41
  go_wp2
  exact bodyPost_ret (v := .agg #[.int .i64 t, .int .i64 (-1)]) (by simp [results, Tryz.results41, go_sem, *]) rfl ⟨rfl, (Nw.refl w).alloc _⟩
/-- After some calls. -/
def BaS (w : World) (o mb po n k : Nat) (W : World) : Prop := ∃ l L F, BA w W o mb po n k l L F
theorem BaTo.some {w W : World} {o mb po n k : Nat} {hs : List Hq} {L : List Bool} (h : BaTo w o mb po n k hs L W) : BaS w o mb po n k W := by
  obtain ⟨l, F, _, h⟩ := h
  exact ⟨l, L, F, h⟩
end Go.Proofs.YtpffldfpabglbaaGreatDoor
end

/- Rows of heads of the call's own: one row appended to another one; sorted. -/
section
namespace Go.Proofs.YtpffldfpabglbaaGreatDoor
open Go.RowKit Go.Sort
set_option linter.unusedVariables false

theorem gro_tch {w w' : World} {row : Option Nat} (g : w.grownBy w' row) : Tch (fun b => row = some b) w w' := ⟨g.os, g.tape, g.output, g.size, fun k hk hn => g.block k hk (fun e => hn e.symm)⟩
/-- Append of whatever reads as a list; where the result lies. -/
theorem own_appP {α : Type} {P : Program} {ST T : TypeId} {sz bytes : Nat} {row : α → List Value} (E : Elem P ST T sz bytes row) {w : World} {g0 : Nat} {v v2 : Value} {l sg : List α} (h : Own T sz row w g0 v l) (h2 : Rd sz row w v2 sg) (hsm : l.length + sg.length ≤ 100000) (hg0 : g0 ≤ w.heap.size) :
    ∃ v' w1, (Builtin.append_ #[ST, ST] ST #[v, v2]).run P w = .ok v' w1 ∧ Own T sz row w1 g0 v' (l ++ sg) ∧ w.grownBy w1 v.ownBlock ∧ (v'.ownBlock = v.ownBlock ∨ v'.ownBlock = some w.heap.size) := by
  obtain ⟨a, c, rfl, ⟨rfl, h0⟩ | ⟨b, o, rfl, hc⟩⟩ := h2
  · cases a with
    | none =>
      obtain rfl := h0 rfl
      obtain ⟨i0, z, hi, hz0, hz1, hz2, hz3⟩ := E.inf
      exact ⟨_, _, run_append_owned_none (P := P) w g0 ST ST T i0 sz E.und hi _ _ _ h, by rw [List.append_nil]; exact h, (Nw.refl w).grownBy _, .inl rfl⟩
    | some ad => exact Own.many E h [] ad c (fun j u hu => by simp [rowsOf] at hu) hsm hg0
  · exact Own.many E h sg ⟨b, o, none⟩ c (hc.flat E.len E.pos) hsm hg0
theorem newV_le {n m : Nat} {v : Value} (h : newV n v) (k : m ≤ n) : newV m v := fun a c d e => Nat.le_trans k (h a c d e)
theorem HdsAt.lm {w : World} {o : Nat} {v : Value} {hs : List Hq} (h : HdsAt w o v hs) : ∃ lm, HmOwn w (o + 1) v lm ∧ lm.map Hm.h = hs ∧ ∀ x ∈ lm, HmOk w o v.ownBlock x := h
theorem hds_nil (w : World) (o : Nat) : HdsAt w o (.slice none 0 0) [] := ⟨[], World.ownsRow_nil _ _ _ _, rfl, fun x hx => by cases hx⟩
theorem HdsAt.form {w : World} {o : Nat} {v : Value} {hs : List Hq} (h : HdsAt w o v hs) : (v = .slice none 0 0 ∧ hs = []) ∨ ∃ g cap, v = .slice (some ⟨g, 0, none⟩) hs.length cap ∧ o < g ∧ g < w.heap.size := by
  obtain ⟨lm, h1, rfl, h3⟩ := h
  rcases oform h1 with ⟨rfl, e⟩ | ⟨g, cap, rfl⟩
  · exact .inl ⟨rfl, by rw [List.length_eq_zero_iff.1 e]; rfl⟩
  · exact .inr ⟨g, cap, by rw [List.length_map], oge h1 rfl, olt h1 rfl⟩
theorem HdsAt.app {w : World} {o o2 : Nat} {v v2 : Value} {hs hs2 : List Hq} (h : HdsAt w o v hs) (h2 : HdsAt w o2 v2 hs2) (ho : o ≤ o2) (hv : ∀ b, v.ownBlock = some b → b ≤ o2) (hsm : hs.length + hs2.length ≤ 100000) :
    ∃ v' w1, (Builtin.append_ #[40, 40] 40 #[v, v2]).run Tryz.prog w = .ok v' w1 ∧ HdsAt w1 o v' (hs ++ hs2) ∧ w.grownBy w1 v.ownBlock ∧ (v'.ownBlock = v.ownBlock ∨ v'.ownBlock = some w.heap.size) := by
  rcases h2.form with ⟨rfl, rfl⟩ | ⟨g2, cap2, e2, hg2, hg2'⟩
  · obtain ⟨lm, h1, rfl, h3⟩ := h
    obtain ⟨i0, z, hi, hz0, hz1, hz2, hz3⟩ := elemHm.inf
    exact ⟨_, _, run_append_owned_none (P := Tryz.prog) w (o + 1) 40 40 63 i0 4 elemHm.und hi _ _ _ h1, ⟨lm, h1, by rw [List.append_nil], h3⟩, (Nw.refl w).grownBy _, .inl rfl⟩
  have hol : o < w.heap.size := by omega
  clear e2
  obtain ⟨lm, h1, rfl, h3⟩ := h
  obtain ⟨lm2, k1, rfl, k3⟩ := h2
  obtain ⟨v', w1, hr, hO, hg, hp⟩ := own_appP elemHm h1 (Own.rd elemHm.len k1) (by simpa using hsm) hol
  have t := gro_tch hg
  refine ⟨v', w1, hr, ⟨lm ++ lm2, hO, by rw [List.map_append], fun x hx => ?_⟩, hg, hp⟩
  rcases List.mem_append.1 hx with q | q
  · have k := (h3 x q).tchS t (fun b e hq e2 => (h3 x q).off b e hq e2)
    refine ⟨k.rd, k.cap, k.len, k.new, fun b e hq e2 => ?_⟩
    rcases hp with hp | hp
    · exact (h3 x q).off b e hq (hp ▸ e2)
    · have h5 := rq_low (h3 x q).rd e hq
      rw [hp] at e2
      have := Option.some.inj e2
      omega
  · have hb : ∀ b, x.a = some b → o2 + 1 ≤ b.block := fun b e => (k3 x q).new b x.h.q.length x.c (by unfold hmV; rw [e])
    have k := (k3 x q).tchS t (fun b e hq e2 => by have := hv _ e2; have := hb b e; omega)
    refine ⟨k.rd, k.cap, k.len, newV_le k.new (by omega), fun b e hq e2 => ?_⟩
    rcases hp with hp | hp
    · rw [hp] at e2
      have := hv _ e2
      have := hb b e
      omega
    · have h5 := rq_low (k3 x q).rd e hq
      rw [hp] at e2
      have := Option.some.inj e2
      omega
/-- A row whose cells were put into another order. -/
theorem HdsAt.sort {w w' : World} {o g cap : Nat} {lm l : List Hm} (h1 : HmOwn w (o + 1) (.slice (some ⟨g, 0, none⟩) lm.length cap) lm) (h3 : ∀ x ∈ lm, HmOk w o (some g) x) (p : l.Perm lm) (h2 : HmOwn w' (o + 1) (.slice (some ⟨g, 0, none⟩) l.length cap) l) (t : Tch (fun b => b = g) w w') :
    HdsAt w' o (.slice (some ⟨g, 0, none⟩) l.length cap) (l.map Hm.h) :=
  ⟨l, h2, rfl, fun x hx => (h3 x (p.mem_iff.1 hx)).tchS t (fun b e hq e2 => (h3 x (p.mem_iff.1 hx)).off b e hq (congrArg some e2.symm))⟩
end Go.Proofs.YtpffldfpabglbaaGreatDoor
end
