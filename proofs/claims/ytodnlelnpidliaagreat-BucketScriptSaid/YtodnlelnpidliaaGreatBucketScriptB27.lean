/- Texts merged: PoR, PoRE, PoG, PoL, PoS, BeA, QvT, QvU, BeB, NameA, NameB, NameC, NameD -/
import Derived.Test.YtodnlelnpidliaaGreatBucketScriptB26
import Derived.WalkKit
import Derived.ProofKit
import Derived.OpenShut
import Derived.ShutString
import Derived.ChangeOld
import Derived.Below
import Derived.Deep.Slices
import Derived.Deep.Fields
import Derived.ChangeSame
import Derived.Lib.SmallJoins
import Derived.Outline
import Derived.Deep.QuietTactic
import Derived.BigQuiet
import Derived.Deep.RegionHeld3
import Derived.Deep.WholeRow
import Derived.LoopTactic
import Derived.WalkSpells

/- The document's own pool. -/
section
namespace Go.Proofs.YtodnlelnpidliaaGreat
open Go.RowKit
set_option linter.unusedVariables false

/-- The document's own pool in memory: a row of truths. -/
structure Rp (W : World) (o g : Nat) (L : List Bool) : Prop where
  p0 : W.cell? ⟨o, 0, none⟩ = some (.slice (some ⟨g, 0, none⟩) L.length L.length)
  cs : ∀ i, i < L.length → W.cell? ⟨g, i, none⟩ = some (.bool (L.getD i false)) ∧ W.frozen? ⟨g, i, none⟩ = false
  ol : o < W.heap.size
  gl : g < W.heap.size
  og : g ≠ o
  sz : L.length ≤ 128
theorem Rp.tch {S : Nat → Prop} {W W' : World} {o g : Nat} {L : List Bool} (h : Rp W o g L) (k : Tch S W W') (ho : ¬ S o) (hg : ¬ S g) : Rp W' o g L :=
  ⟨(k.cell h.ol ho).trans h.p0, fun i hi => ⟨(k.cell h.gl hg).trans (h.cs i hi).1, (k.froz h.gl hg).trans (h.cs i hi).2⟩, Nat.lt_of_lt_of_le h.ol k.size, Nat.lt_of_lt_of_le h.gl k.size, h.og, h.sz⟩
theorem Rp.nw {W W' : World} {o g : Nat} {L : List Bool} (h : Rp W o g L) (k : Nw W W') : Rp W' o g L := h.tch (Tch.nw (S := fun _ => False) k) (fun e => e) (fun e => e)
def RpTo (W : World) (o g : Nat) (L : List Bool) (W' : World) : Prop := Rp W' o g L ∧ Tch (fun k => k = g) W W'
theorem Rp.keep {W : World} {o g : Nat} {L : List Bool} (h : Rp W o g L) : RpTo W o g L W := ⟨h, Tch.refl _ W⟩
theorem Rp.put {W : World} {o g : Nat} {L : List Bool} (h : Rp W o g L) {i : Nat} (b : Bool) (hi : i < L.length) : RpTo W o g (L.set i b) (W.setCell ⟨g, i, none⟩ (.bool b)) := by
  have t := setCell_at W ⟨g, i, none⟩ (.bool b)
  refine ⟨⟨by rw [List.length_set]; exact (t.cell h.ol (fun e => h.og e.symm)).trans h.p0, fun j hj => ?_, by simpa using h.ol, by simpa using h.gl, h.og, by rw [List.length_set]; exact h.sz⟩, t⟩
  rw [List.length_set] at hj
  refine ⟨?_, by rw [World.frozen?_setCell]; exact (h.cs j hj).2⟩
  by_cases q : i = j
  · subst q
    rw [getD_at (by simpa using hj), List.getElem_set_self]
    exact World.cell?_setCell_same _ _ _ (h.cs _ hj).1
  · rw [getD_at (by simpa using hj), List.getElem_set_ne q, ← getD_at hj]
    exact (World.cell?_setCell_other _ _ _ _ (fun r => q (congrArg Addr.off r))).trans (h.cs j hj).1

theorem rhas_at {o g : Nat} {L : List Bool} {W : World} (h : Rp W o g L) (n : Int) : Calls Tryz.prog 107 #[.pointer (some ⟨o, 0, none⟩), .int .i64 n] W fun e W' => e = .returned (.bool (hsL L n)) ∧ W = W' := by
  have hr := h.p0
  have hsz := h.sz
  have hg := h.gl
  by_cases hn : 0 ≤ n
  · obtain ⟨i, rfl⟩ := Int.eq_ofNat_of_zero_le hn
    by_cases hi : i < L.length
    · have hc := (h.cs i hi).1
      have e : hsL L i = L.getD i false := by simp [hsL]
      rw [e]
      generalize L.getD i false = b at *
      generalize L.length = N at *
      clear h e hn
      go_enter Tryz.func107, Tryz.ntmps107
      go_wp2
      go_ret
      exact ⟨rfl, rfl⟩
    · have e : hsL L i = false := by simp [hsL, List.getElem?_eq_none (show L.length ≤ i by omega)]
      rw [e]
      generalize L.length = N at *
      have hd : decide (i < N) = false := by simpa using hi
      clear h e hn hi
      go_enter Tryz.func107, Tryz.ntmps107
      go_wp2
      go_ret
      exact ⟨rfl, rfl⟩
  · have e : hsL L n = false := by simp [hsL, hn]
    rw [e]
    clear h e hr
    generalize L.length = N at *
    go_enter Tryz.func107, Tryz.ntmps107
    go_wp2
    go_ret
    exact ⟨rfl, rfl⟩
theorem rmost_at {o g : Nat} {L : List Bool} {W : World} (h : Rp W o g L) : Calls Tryz.prog 81 #[.pointer (some ⟨o, 0, none⟩)] W fun e W' => e = .returned (.int .i64 L.length) ∧ W = W' := by
  have hr := h.p0
  clear h
  go_enter Tryz.func81, Tryz.ntmps81
  go_wp2
  go_ret
  exact ⟨rfl, rfl⟩
theorem rgive_at {o g : Nat} {L : List Bool} {W : World} (h : Rp W o g L) (n : Int) : Calls Tryz.prog 76 #[.pointer (some ⟨o, 0, none⟩), .int .i64 n] W fun e W' => e = .returned (.int .i64 (gvR L n)) ∧ RpTo W o g (gvL L n) W' := by
  have HH := Lib.hid (rhas_at h n)
  rcases q : hsL L n with _ | _
  · rw [gvL_bad q, show gvR L n = 5 by simp [gvR, q]]
    rw [q] at HH
    have HK := Lib.hid h.keep
    clear h q
    go_enter Tryz.func76, Tryz.ntmps76
    go_wp2_with (go_at_call 107; refine HH.out.mono ?_; rintro e w' ⟨rfl, rfl⟩)
    go_ret
    exact ⟨rfl, HK.out⟩
  · rw [show gvR L n = 0 by simp [gvR, q]]
    rw [q] at HH
    obtain ⟨i, rfl, hi, e⟩ := hsL_at q
    rw [gvL_nat L i (by rw [getD_at hi]; exact e)]
    have HK := Lib.hid (h.put false hi)
    have hr := h.p0
    obtain ⟨hc, hf⟩ := h.cs i hi
    have hgl := h.gl
    have hsz := h.sz
    clear h q e
    generalize L.getD i false = b at *
    generalize L.length = N at *
    go_enter Tryz.func76, Tryz.ntmps76
    go_wp2_with (go_at_call 107; refine HH.out.mono ?_; rintro e w' ⟨rfl, rfl⟩)
    go_ret
    exact ⟨rfl, HK.out⟩
theorem rtake_at {o g : Nat} {L : List Bool} {W : World} (h : Rp W o g L) : Calls Tryz.prog 82 #[.pointer (some ⟨o, 0, none⟩)] W fun e W' => e = .returned (.tuple #[.int .i64 (tkR L).1, .int .i64 (tkR L).2]) ∧ RpTo W o g (tkL L) W' := by
  have hr := h.p0
  have hgl := h.gl
  have hsz := h.sz
  have hfl := fre_le L
  have H := Lib.hid h
  clear h
  obtain ⟨a, b, hab⟩ : ∃ a b, tkR L = (a, b) := ⟨_, _, rfl⟩
  have HR := Lib.hid hab
  rw [hab]
  clear hab
  go_enter Tryz.func82, Tryz.ntmps82
  go_wp2
  go_loopw [4] (fun i wr => ∃ k : Nat, k ≤ fre L ∧ i = .int .i64 k ∧ W = wr) (fun i _ => L.length - (intOf i).toNat)
  case atStart => exact ⟨0, Nat.zero_le _, rfl, rfl⟩
  case round =>
    obtain ⟨k, hk, rfl, rfl⟩ := hrel
    by_cases hlt : k < L.length
    · obtain ⟨c, f⟩ := H.out.cs k hlt
      have hlti : (k : Int) < (L.length : Int) := by omega
      by_cases hkf : k < fre L
      · rw [getD_at hlt, fre_below L k hlt hkf] at c
        go_wp2
        go_roundw
        case rel => exact ⟨k + 1, by omega, by go_num, trivial⟩
        case measure => simp [intOf]; omega
      · obtain rfl : k = fre L := by omega
        rw [getD_at hlt, fre_free L hlt] at c
        have e1 : tkL L = L.set (fre L) true := if_pos hlt
        have HP := Lib.hid (H.out.put true hlt)
        rw [← e1] at HP
        have e2 : ((fre L : Int), (0 : Int)) = (a, b) := by rw [← HR.out]; exact (if_pos hlt).symm
        simp only [Prod.mk.injEq] at e2
        obtain ⟨rfl, rfl⟩ := e2
        clear e1 hkf
        go_wp2
        exact bodyPost_ret (v := .tuple #[.int .i64 (fre L), .int .i64 0]) (by simp [results, Tryz.results82, go_sem]) rfl ⟨rfl, HP.out⟩
    · have hq : ¬ fre L < L.length := by omega
      have e2 : ((0 : Int), (8 : Int)) = (a, b) := by rw [← HR.out]; exact (if_neg hq).symm
      simp only [Prod.mk.injEq] at e2
      obtain ⟨rfl, rfl⟩ := e2
      have HK := Lib.hid H.out.keep
      rw [← tkL_full hq] at HK
      have hd : decide ((k : Int) < (L.length : Int)) = false := by simp; omega
      clear hq
      go_wp2
      exact bodyPost_ret (v := .tuple #[.int .i64 0, .int .i64 8]) (by simp [results, Tryz.results82, go_sem]) rfl ⟨rfl, HK.out⟩
theorem rp_new (w : World) (N : Nat) (hN : N ≤ 128) (T U : TypeId) : Rp ((w.alloc (.cells (Array.replicate N (.bool false)) T)).alloc (.cells #[.slice (some ⟨w.heap.size, 0, none⟩) N N] U)) (w.heap.size + 1) w.heap.size (List.replicate N false) := by
  refine ⟨by simp [go_sem], fun i hi => ?_, by simp, by simp; omega, by omega, by simpa using hN⟩
  rw [List.length_replicate] at hi
  have e : (List.replicate N false).getD i false = false := by simp [List.getD, hi]
  rw [e]
  constructor <;> simp [go_sem, hi]
theorem rpnew_any (N : Nat) (hN : N ≤ 128) (w : World) : Calls Tryz.prog 10 #[.int .i64 N] w fun e W => ∃ o g, e = .returned (.tuple #[.pointer (some ⟨o, 0, none⟩), .int .i64 0]) ∧ Rp W o g (List.replicate N false) ∧ w.heap.size ≤ o ∧ w.heap.size ≤ g ∧ Nw w W := by
  have km := fun w => mk_bools w N (by omega)
  have HS := Lib.hid (rp_new w N hN 4 77)
  have hd2 : decide ((128 : Int) < (N : Int)) = false := by simp; omega
  have hd : decide (128 < N) = false := by simp; omega
  go_enter Tryz.func10, Tryz.ntmps10
  go_wp2
  exact bodyPost_ret (v := .tuple #[.pointer (some ⟨w.heap.size + 1, 0, none⟩), .int .i64 0]) (by simp [results, Tryz.results10, go_sem]) rfl ⟨_, _, rfl, HS.out, Nat.le_succ _, Nat.le_refl _, ((Nw.refl w).alloc _).alloc _⟩
end Go.Proofs.YtodnlelnpidliaaGreat
end

/- The document's own pool: Each, Live. -/
section
namespace Go.Proofs.YtodnlelnpidliaaGreat
open Go.RowKit
set_option linter.unusedVariables false

theorem pwpList_append_run {P : Program} {w : World} {ops : Array Oper} {rest : List Oper} {o : Oper} {a : Act} {Q : Exit → Act → World → Prop}
    (hgd : Region.wanted o (yielded ops a.tmps) = true) (s x : Operand) (t : TypeId) (hop : o.op = Op.call { callee := Callee.builtin Builtin.append, args := #[s, x], argTypes := #[t, t] })
    (v u v' : Value) (w' : World) (hs : a.eval s = v) (hx : a.eval x = u) (hr : (Builtin.append_ #[t, t] o.type #[v, u]).run P w = .ok v' w') (h : wpList P ops Q rest (a.put o.dst v') w') : wpList P ops Q (o :: rest) a w := by
  refine wpList_step fun _ hK => ?_
  rw [if_pos hgd]
  unfold Oper.wp execOp
  simp only [hop, resolve, invoke, builtin, Sem.run_bind, Sem.run_pure, Result.andThen_ok, List.map_toArray, List.map_cons, List.map_nil, hs, hx, hr]
  exact hK _ _ h
/-- A call that returns a new list of numbers, or nil. -/
def PNewIS (w : World) (zs : List Int) (e : Ending) (w' : World) : Prop := ∃ v, e = .returned v ∧ IS w' v zs ∧ (∀ k, v.ownBlock = some k → w.heap.size ≤ k) ∧ Nw w w'
theorem castL_app (l m : List Nat) : castL (l ++ m) = castL l ++ castL m := List.map_append
theorem lntI_succ (L : List Bool) (k : Nat) : castL (lntT L (k + 1)) = castL (lntT L k) ++ (if L.getD k false = true then [(k : Int)] else []) := by
  rw [lntT_succ, castL_app]
  congr 1
  split <;> rfl
theorem castL_len (l : List Nat) : (castL l).length = l.length := by simp [castL]
set_option maxHeartbeats 1000000 in
theorem reach_at {o g : Nat} {L : List Bool} {W : World} (h : Rp W o g L) : Calls Tryz.prog 50 #[.pointer (some ⟨o, 0, none⟩)] W (PNewIS W (castL (lnt L))) := by
  have H := Lib.hid h
  have hsz := h.sz
  have hr := h.p0
  clear h
  go_enter Tryz.func50, Tryz.ntmps50
  go_wp2
  go_loopw [3, 4] (fun v i wr => ∃ k : Nat, k ≤ L.length ∧ i = .int .i64 k ∧ IS wr v (castL (lntT L k)) ∧ (∀ k, v.ownBlock = some k → W.heap.size ≤ k) ∧ Nw W wr) (fun _ i _ => L.length - (intOf i).toNat)
  case atStart => exact ⟨0, Nat.zero_le _, rfl, IS.nil _, fun k e => by simp [Value.ownBlock] at e, Nw.refl _⟩
  case round =>
    obtain ⟨k, hk, rfl, hv, ho, hG⟩ := hrel
    have hp := (H.out.nw hG).p0
    have hln : (castL (lntT L k)).length ≤ 128 := by rw [castL_len]; have := lntT_len L k; omega
    by_cases hlt : k < L.length
    · obtain ⟨c, _⟩ := (H.out.nw hG).cs k hlt
      have hlti : (k : Int) < (L.length : Int) := by omega
      have hS := lntI_succ L k
      cases hb : L.getD k false with
      | true =>
        rw [hb] at c hS
        simp only [if_true] at hS
        obtain ⟨v', w1, hrun, q1, q2, q3, g', cap', rfl⟩ := IS.push wr _ (castL (lntT L k)) k hv (by omega)
        rw [← hS] at q1
        have HQ := Lib.hid (And.intro q1 (And.intro q2 q3))
        have HR := Lib.hid hrun
        have HH := Lib.hid (And.intro hv (And.intro ho hG))
        clear q1 q2 q3 hrun hS hb hr ho
        obtain ⟨ao, cap, rfl, _⟩ := hv.box
        clear hv
        generalize hNN : (castL (lntT L k)).length = M at *
        go_wp2_with (at_builtin; refine pwpList_append_run (by rfl) (.tmp 21) (.tmp 23) 57 rfl _ _ _ _ rfl rfl HR.out ?_)
        go_roundw
        case rel => exact ⟨k + 1, by omega, by go_num, HQ.out.1, fun j e => (HQ.out.2.2 j e).elim (HH.out.2.1 j) (fun q => Nat.le_trans hG.sz q), nw_tch hG HQ.out.2.1 (fun i e => HH.out.2.1 i e)⟩
        case measure => simp [intOf]; omega
      | false =>
        rw [hb] at c hS
        simp only [Bool.false_eq_true, if_false, List.append_nil] at hS
        rw [← hS] at hv
        have HH := Lib.hid (And.intro hv (And.intro ho hG))
        obtain ⟨ao, cap, rfl, _⟩ := hv.box
        clear hv ho hS hb hr hln
        generalize hNN : (castL (lntT L (k + 1))).length = M at *
        go_wp2
        go_roundw
        case rel => exact ⟨k + 1, by omega, by go_num, HH.out.1, HH.out.2.1, hG⟩
        case measure => simp [intOf]; omega
    · obtain rfl : k = L.length := by omega
      have HH := Lib.hid (And.intro hv (And.intro ho hG))
      obtain ⟨ao, cap, rfl, _⟩ := hv.box
      clear hv ho hr
      have hd : decide ((L.length : Int) < (L.length : Int)) = false := by simp
      go_wp2
      go_ret
      exact ⟨_, rfl, HH.out⟩
theorem rlive_at {o g : Nat} {L : List Bool} {W : World} (h : Rp W o g L) : Calls Tryz.prog 19 #[.pointer (some ⟨o, 0, none⟩)] W fun e W' => e = .returned (.int .i64 (liv L)) ∧ Nw W W' := by
  have HE := Lib.hid (reach_at h)
  have e1 : (castL (lnt L)).length = liv L := by rw [castL_len, liv_lnt]
  have e2 := liv_le L
  have hsz := h.sz
  clear h
  generalize liv L = M at *
  go_enter Tryz.func19, Tryz.ntmps19
  go_wp2_with fail
  refine HE.out.mono ?_
  rintro e w1 ⟨v, rfl, q1, _, q3⟩
  obtain ⟨ao, cap, rfl, _⟩ := q1.box
  rw [e1]
  clear q1 e1
  go_wp2
  go_ret
  exact ⟨rfl, q3⟩
end Go.Proofs.YtodnlelnpidliaaGreat
end

/- A pool: Each and its iterator. -/
section
namespace Go.Proofs.YtodnlelnpidliaaGreat
open Go.RowKit Go.Shelf
set_option linter.unusedVariables false
attribute [local go_sem] Oper.semAt_some

/-- A value that reads as a row of truths of the call's own. -/
abbrev BS (w : World) (v : Value) (L : List Bool) : Prop := w.ownsRow 0 4 1 v L.length (L.map Value.bool)
theorem BS.form {w : World} {v : Value} {l : List Bool} (h : BS w v l) : (v = .slice none 0 0 ∧ l = []) ∨ ∃ g cap, v = .slice (some ⟨g, 0, none⟩) l.length cap := by
  rcases h.2 with ⟨rfl, h0⟩ | ⟨g, cap, cur, rfl, _⟩
  · exact .inl ⟨rfl, List.length_eq_zero_iff.1 h0⟩
  · exact .inr ⟨g, cap, rfl⟩
theorem BS.cell {w : World} {g cap : Nat} {l : List Bool} (h : BS w (.slice (some ⟨g, 0, none⟩) l.length cap) l) (i : Nat) (hi : i < l.length) : w.cell? ⟨g, i, none⟩ = some (.bool (l.getD i false)) :=
  (World.ownsRow.cellAt h i (by omega)).trans (by simp [List.getD, hi])
end Go.Proofs.YtodnlelnpidliaaGreat
end

/- What the law's own loop over Each collects; lives. -/
section
namespace Go.Proofs.YtodnlelnpidliaaGreat
open Go.RowKit Go.Shelf
set_option linter.unusedVariables false
attribute [local go_sem] Oper.semAt_some

theorem tch_put {S : Nat → Prop} {A : World} {D : Nat} (o : Obj) (h : S D) : Tch S A (A.putObj D o) := ⟨rfl, rfl, rfl, by simp, fun k _ hk => World.putObj_heap_other (fun e => hk (e ▸ h))⟩

/-- The answer of the law's own lent. -/
def LentP (w : World) (l : List Int) (e : Ending) (W : World) : Prop := ∃ v, e = .returned (.tuple #[v, .bool true]) ∧ IS W v l ∧ (∀ k, v.ownBlock = some k → w.heap.size ≤ k) ∧ Nw w W
/-- Between two rounds: s is the size of the heap at the law's start. -/
structure LnI (w : World) (S : Nat → Prop) (pre : List Int) (A : World) (v : Value) : Prop where
  nw : Nw w A
  is : IS A v pre
  own : ∀ k, v.ownBlock = some k → w.heap.size + 6 ≤ k ∧ ¬ S k
  out : A.cell? ⟨w.heap.size + 3, 0, none⟩ = some v ∧ A.frozen? ⟨w.heap.size + 3, 0, none⟩ = false
  r1 : A.cell? ⟨w.heap.size, 0, none⟩ = some (.slice none 0 0) ∧ A.frozen? ⟨w.heap.size, 0, none⟩ = false
  r2 : A.cell? ⟨w.heap.size + 1, 0, none⟩ = some (.bool false) ∧ A.frozen? ⟨w.heap.size + 1, 0, none⟩ = false
  sb : ∀ k, S k → w.heap.size + 4 ≤ k ∧ k < A.heap.size
theorem LnI.tch {w A B : World} {S T : Nat → Prop} {pre : List Int} {v : Value} (h : LnI w S pre A v) (k : Tch T A B) (hT : ∀ i, T i → w.heap.size + 4 ≤ i ∧ v.ownBlock ≠ some i) : LnI w S pre B v := by
  have hlt : w.heap.size + 3 < A.heap.size := World.block_lt_of_cell? _ _ h.out.1
  have n3 : ¬ T (w.heap.size + 3) := fun e => by have := (hT _ e).1; omega
  have n1 : ¬ T (w.heap.size + 1) := fun e => by have := (hT _ e).1; omega
  have n0 : ¬ T w.heap.size := fun e => by have := (hT _ e).1; omega
  exact ⟨nw_tch h.nw k (fun i e => by have := (hT _ e).1; omega), h.is.tch k (fun g e q => (hT _ q).2 e), h.own, ⟨(k.cell hlt n3).trans h.out.1, (k.froz hlt n3).trans h.out.2⟩,
    ⟨(k.cell (by omega) n0).trans h.r1.1, (k.froz (by omega) n0).trans h.r1.2⟩, ⟨(k.cell (by omega) n1).trans h.r2.1, (k.froz (by omega) n1).trans h.r2.2⟩, fun i e => ⟨(h.sb i e).1, Nat.lt_of_lt_of_le (h.sb i e).2 k.size⟩⟩
theorem LnI.push {w A w1 : World} {S : Nat → Prop} {pre : List Int} {v : Value} {x : Int} {g cap : Nat} (h : LnI w S pre A v) (hA : w.heap.size + 6 ≤ A.heap.size) (q1 : IS w1 (.slice (some ⟨g, 0, none⟩) (pre.length + 1) cap) (pre ++ [x])) (q2 : Tch (fun k => v.ownBlock = some k) A w1)
    (q3 : ∀ k, (Value.slice (some ⟨g, 0, none⟩) (pre.length + 1) cap).ownBlock = some k → v.ownBlock = some k ∨ A.heap.size ≤ k) :
    LnI w S (pre ++ [x]) (w1.setCell ⟨w.heap.size + 3, 0, none⟩ (.slice (some ⟨g, 0, none⟩) (pre.length + 1) cap)) (.slice (some ⟨g, 0, none⟩) (pre.length + 1) cap) ∧
    KpI S A (w1.setCell ⟨w.heap.size + 3, 0, none⟩ (.slice (some ⟨g, 0, none⟩) (pre.length + 1) cap)) ∧
    (∀ k, (k = w.heap.size + 4 ∨ k = w.heap.size + 5) → (w1.setCell ⟨w.heap.size + 3, 0, none⟩ (.slice (some ⟨g, 0, none⟩) (pre.length + 1) cap)).heap[k]? = A.heap[k]?) ∧
    w1.cell? ⟨w.heap.size + 3, 0, none⟩ = some v ∧ w1.frozen? ⟨w.heap.size + 3, 0, none⟩ = false := by
  have hg := q3 g rfl
  have hgo : w.heap.size + 6 ≤ g ∧ ¬ S g := by
    rcases hg with e | e
    · exact h.own g e
    · exact ⟨by omega, fun q => by have := (h.sb g q).2; omega⟩
  have no : ∀ i, i < w.heap.size + 6 → ¬ (v.ownBlock = some i) := fun i hi e => by have := (h.own i e).1; omega
  have t2 := setCell_at w1 ⟨w.heap.size + 3, 0, none⟩ (.slice (some ⟨g, 0, none⟩) (pre.length + 1) cap)
  have c3 := (q2.cell (o := 0) (show w.heap.size + 3 < A.heap.size by omega) (no _ (by omega))).trans h.out.1
  have f3 := (q2.froz (o := 0) (show w.heap.size + 3 < A.heap.size by omega) (no _ (by omega))).trans h.out.2
  have sz := q2.size
  have c : ∀ b, b < w.heap.size + 6 → b ≠ w.heap.size + 3 → (w1.setCell ⟨w.heap.size + 3, 0, none⟩ (.slice (some ⟨g, 0, none⟩) (pre.length + 1) cap)).heap[b]? = A.heap[b]? := fun b hb hn =>
    (t2.block b (by omega) hn).trans (q2.block b (by omega) (no _ hb))
  refine ⟨⟨nw_tch (nw_tch h.nw q2 (fun i e => by have := (h.own i e).1; omega)) t2 (fun i e => by simp at e; omega), q1.tch t2 (fun b e => by simp [Value.ownBlock] at e; subst e; simp; omega), fun k e => by simp [Value.ownBlock] at e; subst e; exact hgo, ⟨World.cell?_setCell_same _ _ _ c3, by rw [World.frozen?_setCell]; exact f3⟩, ?_, ?_, fun i e => ⟨(h.sb i e).1, by have := (h.sb i e).2; simp; omega⟩⟩, ⟨by simp; omega, fun k e => ?_⟩, fun k e => ?_, c3, f3⟩
  · exact ⟨(World.cell?_of_block (c w.heap.size (by omega) (by omega))).trans h.r1.1, (World.frozen?_of_block (c w.heap.size (by omega) (by omega))).trans h.r1.2⟩
  · exact ⟨(World.cell?_of_block (c (w.heap.size + 1) (by omega) (by omega))).trans h.r2.1, (World.frozen?_of_block (c (w.heap.size + 1) (by omega) (by omega))).trans h.r2.2⟩
  · have hk := h.sb k e
    exact (t2.block k (by omega) (by simp; omega)).trans (q2.block k hk.2 (fun q => (h.own k q).2 e))
  · rcases e with rfl | rfl
    · exact c _ (by omega) (by omega)
    · exact c _ (by omega) (by omega)
theorem LnI.done {w A : World} {S : Nat → Prop} {pre : List Int} {v : Value} (h : LnI w S pre A v) (hK : A.heap[w.heap.size + 4]? = some (.deferred (some []))) :
    LentP w pre (.returned (.tuple #[v, .bool true])) (((A.setCell ⟨w.heap.size, 0, none⟩ v).setCell ⟨w.heap.size + 1, 0, none⟩ (.bool true)).putObj (w.heap.size + 4) (.deferred none)) ∧
    (((A.setCell ⟨w.heap.size, 0, none⟩ v).setCell ⟨w.heap.size + 1, 0, none⟩ (.bool true)).putObj (w.heap.size + 4) (.deferred none)).cell? ⟨w.heap.size, 0, none⟩ = some v ∧
    (((A.setCell ⟨w.heap.size, 0, none⟩ v).setCell ⟨w.heap.size + 1, 0, none⟩ (.bool true)).putObj (w.heap.size + 4) (.deferred none)).cell? ⟨w.heap.size + 1, 0, none⟩ = some (.bool true) ∧
    ((A.setCell ⟨w.heap.size, 0, none⟩ v).setCell ⟨w.heap.size + 1, 0, none⟩ (.bool true)).heap[w.heap.size + 4]? = some (.deferred (some [])) := by
  have hlt : w.heap.size + 4 < A.heap.size := (Array.getElem?_eq_some_iff.1 hK).1
  have t1 : Tch (fun k => k = w.heap.size ∨ k = w.heap.size + 1) A ((A.setCell ⟨w.heap.size, 0, none⟩ v).setCell ⟨w.heap.size + 1, 0, none⟩ (.bool true)) :=
    Tch.set (S := fun k => k = w.heap.size ∨ k = w.heap.size + 1) (p := ⟨w.heap.size + 1, 0, none⟩) (Tch.set (S := fun k => k = w.heap.size ∨ k = w.heap.size + 1) (p := ⟨w.heap.size, 0, none⟩) (Tch.refl _ A) (.inl (.inl rfl)) v) (.inl (.inr rfl)) _
  have t2 : Tch (fun k => k = w.heap.size + 4) _ (((A.setCell ⟨w.heap.size, 0, none⟩ v).setCell ⟨w.heap.size + 1, 0, none⟩ (.bool true)).putObj (w.heap.size + 4) (.deferred none)) := tch_put _ rfl
  have t3 := (t1.mono (S' := fun k => k = w.heap.size ∨ k = w.heap.size + 1 ∨ k = w.heap.size + 4) (fun k _ e => by omega)).trans (t2.mono (fun k _ e => by omega))
  have hs : A.heap.size ≤ ((A.setCell ⟨w.heap.size, 0, none⟩ v).setCell ⟨w.heap.size + 1, 0, none⟩ (.bool true)).heap.size := t1.size
  refine ⟨⟨v, rfl, h.is.tch t3 (fun g e q => by have := (h.own g e).1; omega), fun k e => by have := (h.own k e).1; omega, nw_tch h.nw t3 (fun i e => by omega)⟩, ?_, ?_, ?_⟩
  · rw [t2.cell (by omega) (by omega), World.cell?_setCell_other _ _ _ _ (by simp)]
    exact World.cell?_setCell_same _ _ _ h.r1.1
  · rw [t2.cell (by omega) (by omega)]
    exact World.cell?_setCell_same _ _ _ (by rw [World.cell?_setCell_other _ _ _ _ (by simp)]; exact h.r2.1)
  · exact (t1.block _ hlt (by omega)).trans hK
end Go.Proofs.YtodnlelnpidliaaGreat
end

/- A pool of the call's own, step by step; lives; rows of numbers that came in. -/
section
namespace Go.Proofs.YtodnlelnpidliaaGreat
open Go.RowKit
set_option linter.unusedVariables false

/-- A pool of the call's own: nothing that was there has changed. -/
structure PAcc (w W : World) (p : Nat) (L : List Bool) (F : Nat → Prop) : Prop where
  po : Pol W p L F
  new : ∀ k, F k → w.heap.size ≤ k
  nw : Nw w W
theorem PAcc.step {w W W' : World} {p : Nat} {L : List Bool} {F : Nat → Prop} (h : PAcc w W p L F) (k : Nw W W') : PAcc w W' p L F := ⟨h.po.nw k, h.new, h.nw.trans k⟩
/-- A step of such a pool: what else changes. -/
def PAccTo (w W : World) (p : Nat) (F : Nat → Prop) (L : List Bool) (W' : World) : Prop := ∃ F', PAcc w W' p L F' ∧ (∀ k, F' k → F k ∨ W.heap.size ≤ k) ∧ Tch F W W'
theorem PAcc.to {w W W' : World} {p : Nat} {L L' : List Bool} {F : Nat → Prop} (h : PAcc w W p L F) (k : PolTo W p F L' W') : PAccTo w W p F L' W' := by
  obtain ⟨F', h1, h2, h3⟩ := k
  exact ⟨F', ⟨h1, fun k e => (h2 k e).elim (h.new k) (fun q => Nat.le_trans h.nw.sz q), nw_tch h.nw h3 h.new⟩, h2, h3⟩
/-- What the walk is told of a slice of numbers that came in. -/
def IsNum (w : World) (a : Option Addr) (len cap : Nat) (zs : List Int) : Prop :=
  (a = none ∧ len = 0 ∧ cap = 0 ∧ zs = []) ∨
  ∃ x, a = some x ∧ len ≤ cap ∧ cap ≤ maxLen ∧ zs.length = cap ∧ (∀ i, i < zs.length → w.cell? (x.add i) = some (.int .i64 (zs.getD i 0))) ∧ ∀ n ∈ zs, (Lit.int .i64 n).wf = true
theorem IsNum.at {w : World} {a : Option Addr} {len cap : Nat} {zs : List Int} (h : IsNum w a len cap zs) (hl : 0 < len) : ∃ b o, a = some ⟨b, o, none⟩ ∧ len ≤ maxLen ∧ b < w.heap.size ∧ (∀ i, i < len → w.cell? ⟨b, o + i, none⟩ = some (.int .i64 (zs.getD i 0))) ∧ ∀ i, i < len → (Lit.int .i64 (zs.getD i 0)).wf = true := by
  rcases h with ⟨_, h0, _⟩ | ⟨x, rfl, h1, h2, h3, h4, h5⟩
  · omega
  · obtain ⟨b, o, spot⟩ := x
    have hs : spot = none := by simpa [Addr.add] using World.cell?_spot (h4 0 (by omega))
    subst hs
    have hc : ∀ i, i < len → w.cell? ⟨b, o + i, none⟩ = some (.int .i64 (zs.getD i 0)) := fun i hi => by
      have := h4 i (by omega)
      rwa [Addr.add_lit] at this
    refine ⟨b, o, rfl, by omega, World.block_lt_of_cell? _ _ (hc 0 hl), hc, fun i hi => h5 _ ?_⟩
    have : i < zs.length := by omega
    simp [List.getD, this]
end Go.Proofs.YtodnlelnpidliaaGreat
end

/- The laws of buckets: a bucket and its pool of the call's own; made, lives, call. -/
section
namespace Go.Proofs.YtodnlelnpidliaaGreat
open Go.RowKit Go.Shelf
set_option linter.unusedVariables false      -- a contract need not use every name

structure BA (w W : World) (o mb po n k : Nat) (l : List Hp) (L : List Bool) (F : Nat → Prop) : Prop where
  db : Db W o mb po n l L F
  inv : BInv n k (hsP l) L
  nw : Nw w W
  mn : w.heap.size ≤ mb
  new : ∀ k, F k → w.heap.size ≤ k
theorem BA.step {w W W' : World} {o mb po n k : Nat} {l : List Hp} {L : List Bool} {F : Nat → Prop} (h : BA w W o mb po n k l L F) (g : Nw W W') : BA w W' o mb po n k l L F := ⟨h.db.nw g, h.inv, h.nw.trans g, h.mn, h.new⟩
theorem BA.to {w W W' : World} {o mb po n k : Nat} {l l' : List Hp} {L L' : List Bool} {F : Nat → Prop} (h : BA w W o mb po n k l L F) (d : DbTo W o mb po n F l W' l' L') (b : BInv n (k + 1) (hsP l') L') : ∃ F', BA w W' o mb po n (k + 1) l' L' F' := by
  obtain ⟨F', h1, h2, h3, _⟩ := d
  exact ⟨F', h1, b, nw_tch h.nw h3 (fun i e => e.elim (fun e => e ▸ h.mn) (h.new i)), h.mn, fun i e => (h2 i e).elim (h.new i) (fun q => Nat.le_trans h.nw.sz q)⟩
/-- What a call leaves. -/
def BaTo (w : World) (o mb po n k : Nat) (hs : List Hq) (L : List Bool) (W : World) : Prop := ∃ l F, hsP l = hs ∧ BA w W o mb po n k l L F
section
variable {w W : World} {o mb po n k : Nat} {l : List Hp} {L : List Bool} {F : Nat → Prop}
theorem ba_ask (h : BA w W o mb po n k l L F) (hk : k ≤ 800) (hn : n ≤ 64) (t r txn m : Int) (wa : wfN (t, r)) (i : Int) (g : Bool) (E : Int) (hR : askBR n (hsP l) L t r txn m = (i, g, E)) :
    Calls Tryz.prog 28 #[.pointer (some ⟨o, 0, none⟩), .agg #[.int .i64 t, .int .i64 r], .int .i64 txn, .int .i64 m] W fun e W' => e = .returned (.tuple #[.int .i64 i, .bool g, .int .i64 E]) ∧ BaTo w o mb po n (k + 1) (askBS n (hsP l) L t r txn m).1 (askBS n (hsP l) L t r txn m).2 W' := by
  refine (ask_d h.db h.inv hk hn t r txn m wa).mono ?_
  rintro e W' ⟨h1, l', h2, h3⟩
  rw [hR] at h1
  obtain ⟨F', h4⟩ := h.to h3 (by rw [h2]; exact binv_ask h.inv (by omega) t r txn m)
  exact ⟨h1, l', F', h2, h4⟩
theorem BA.low (h : BA w W o mb po n k l L F) : mb < W.heap.size ∧ ∀ k, F k → k < W.heap.size := ⟨h.db.map.lt, h.db.pol.own⟩
theorem ba_get (h : BA w W o mb po n k l L F) (id t r b0 b1 b2 b3 b4 : Int) (y : Bool) (hR : getBD (hsP l) id = (t, r, ⟨b0, b1, b2, b3, b4⟩, y)) :
    Calls Tryz.prog 20 #[.pointer (some ⟨o, 0, none⟩), .int .i64 id] W fun e W' => e = .returned (.tuple #[.agg #[.int .i64 t, .int .i64 r], .agg #[.int .i64 b0, .int .i64 b1, .int .i64 b2, .int .i64 b3, .int .i64 b4], .bool y]) ∧ Nw W W' := by
  have := get_d h.db (fun x hx => (h.db.ok x hx).len) id
  rw [hR] at this
  exact this
theorem ba_find (h : BA w W o mb po n k l L F) (t r txn : Int) (wa : wfN (t, r)) (i : Int) (y : Bool) (hR : findB (hsP l) t r txn = (i, y)) :
    Calls Tryz.prog 22 #[.pointer (some ⟨o, 0, none⟩), .agg #[.int .i64 t, .int .i64 r], .int .i64 txn] W fun e W' => e = .returned (.tuple #[.int .i64 i, .bool y]) ∧ Nw W W' := by
  have := find_d h.db (fun x hx => (h.db.ok x hx).len) t r txn wa
  rw [hR] at this
  exact this
theorem ba_live (h : BA w W o mb po n k l L F) (K : Nat) (hR : liv L = K) : Calls Tryz.prog 18 #[.pointer (some ⟨po, 0, none⟩)] W fun e W' => e = .returned (.int .i64 K) ∧ Nw W W' := by
  subst hR
  obtain ⟨g, v, l, hp, _⟩ := h.db.pol
  exact live_at hp
end
/-- Heads stay where their blocks do. -/
theorem HdsAt.keep {w w' : World} {o : Nat} {v : Value} {hs : List Hq} (h : HdsAt w o v hs) (hk : ∀ k, o < k → k < w.heap.size → w'.heap[k]? = w.heap[k]?) : HdsAt w' o v hs := by
  obtain ⟨lm, h1, h2, h3⟩ := h
  refine ⟨lm, ⟨h1.1, ?_⟩, h2, fun x hx => (h3 x hx).blk fun b j z e hq hc => ⟨hk _ (by have := (h3 x hx).new b _ _ (by unfold hmV; rw [e]); omega) (World.block_lt_of_cell? _ ⟨b.block, j, none⟩ hc), (h3 x hx).off b e hq⟩⟩
  have hge : ∀ g, v.ownBlock = some g → o + 1 ≤ g ∧ g < w.heap.size := fun g e => ⟨oge h1 e, olt h1 e⟩
  rcases h1.2 with h0 | ⟨g, cap, cur, rfl, hb, hg, rest⟩
  · exact .inl h0
  · have := hge g rfl
    exact .inr ⟨g, cap, cur, rfl, hb, (hk g (by omega) this.2).trans hg, rest⟩
/-- What made gives. -/
def MadeD (w W : World) (n N : Nat) (e : Ending) (W' : World) : Prop := ∃ o mb po F, e = .returned (.tuple #[.pointer (some ⟨o, 0, none⟩), .pointer (some ⟨po, 0, none⟩), .bool true]) ∧ BA w W' o mb po n 0 [] (List.replicate N false) F
set_option maxHeartbeats 1000000 in
theorem made_d (w W : World) (g0 : Nw w W) (n N : Nat) (h1 : 1 ≤ n) (h2 : n ≤ 64) (hN : N ≤ 128) : Calls Tryz.prog 9 #[.int .i64 n, .int .i64 N] W (MadeD w W n N) := by
  have HP := Lib.hid (pnew_any N hN W)
  have HG := Lib.hid (And.intro h1 (And.intro h2 g0))
  clear h1 h2 hN g0
  go_enter Tryz.func9, Tryz.ntmps9
  go_wp2_with fail
  refine HP.out.mono ?_
  rintro e w1 ⟨po, F, rfl, hp, g1, hF⟩
  have HN := Lib.hid (new_d hp n HG.out.1 HG.out.2.1)
  have HI := Lib.hid (And.intro hp (And.intro g1 hF))
  clear hp g1 hF HP
  go_wp2_with fail
  refine HN.out.mono ?_
  rintro e w2 ⟨o, mb, rfl, hd, g2, ho, hm⟩
  have HE : Hid (MadeD w W n N (.returned (.tuple #[.pointer (some ⟨o, 0, none⟩), .pointer (some ⟨po, 0, none⟩), .bool true])) w2) :=
    ⟨o, mb, po, F, rfl, hd, binv_nil n N, HG.out.2.2.trans (HI.out.2.1.trans g2), Nat.le_trans HG.out.2.2.sz (Nat.le_trans HI.out.2.1.sz hm), fun k e => Nat.le_trans HG.out.2.2.sz (HI.out.2.2 k e)⟩
  clear hd g2 ho hm HN HI HG
  go_wp2_with fail
  exact bodyPost_ret (v := .tuple #[.pointer (some ⟨o, 0, none⟩), .pointer (some ⟨po, 0, none⟩), .bool true]) (by simp [results, Tryz.results9, go_sem, *]) rfl HE.out
theorem kit_T (t : Int) (w : World) : Calls Tryz.prog 33 #[.int .i64 t] w fun e w' => e = .returned (.agg #[.int .i64 t, .int .i64 (-1)]) ∧ Nw w w' := by
  go_enter Tryz.func33, Tryz.ntmps33
  go_wp2
  exact bodyPost_ret (v := .agg #[.int .i64 t, .int .i64 (-1)]) (by simp [results, Tryz.results33, go_sem, *]) rfl ⟨rfl, (Nw.refl w).alloc _⟩
theorem lives_a1 : askBR 1 [] (List.replicate 4 false) 0 (-1) 1 6 = (0, true, 0) := by decide +kernel
theorem lives_s1 : askBS 1 [] (List.replicate 4 false) 0 (-1) 1 6 = ([⟨0, -1, 0, [⟨0, 1, 6, 6, 0⟩]⟩], [true, false, false, false]) := by kernel_rfl
theorem lives_a2 : askBR 1 [⟨0, -1, 0, [⟨0, 1, 6, 6, 0⟩]⟩] [true, false, false, false] 1 (-1) 1 6 = (0, false, 8) := by decide +kernel
theorem wf_T0 : wfN (0, -1) := ⟨by decide +kernel, by decide +kernel⟩
theorem wf_T1 : wfN (1, -1) := ⟨by decide +kernel, by decide +kernel⟩
set_option maxHeartbeats 1000000 in
theorem lives_b (W : World) : Calls Tryz.prog 7 #[] W fun e w' => e = .returned (.bool true) ∧ Nw W w' := by
  have HM := Lib.hid (made_d W W (Nw.refl W) 1 4 (by omega) (by omega) (by omega))
  go_enter Tryz.func7, Tryz.ntmps7
  go_wp2_with fail
  refine HM.out.mono ?_
  rintro e w1 ⟨o, mb, po, F, rfl, hb⟩
  have HB := Lib.hid hb
  clear hb HM
  go_wp2_with fail
  refine (kit_T 0 w1).mono ?_
  rintro e w2 ⟨rfl, g2⟩
  have HB2 := Lib.hid (HB.out.step g2)
  clear g2 HB
  go_wp2_with fail
  refine (ba_ask HB2.out (by omega) (by omega) 0 (-1) 1 6 wf_T0 0 true 0 lives_a1).mono ?_
  rintro e w3 ⟨rfl, hb⟩
  have HB3 := Lib.hid hb
  clear hb HB2
  go_wp2_with fail
  refine (kit_T 1 w3).mono ?_
  rintro e w4 ⟨rfl, g2⟩
  obtain ⟨l, F', hl, hb⟩ := HB3.out
  have hL : (askBS 1 (hsP []) (List.replicate 4 false) 0 (-1) 1 6) = ([⟨0, -1, 0, [⟨0, 1, 6, 6, 0⟩]⟩], [true, false, false, false]) := lives_s1
  rw [hL] at hl hb
  simp only at hl hb
  have HB4 := Lib.hid (ba_ask (hb.step g2) (by omega) (by omega) 1 (-1) 1 6 wf_T1 0 false 8 (by rw [hl]; exact lives_a2))
  clear g2 hb hl hL HB3
  go_wp2_with fail
  refine HB4.out.mono ?_
  rintro e w5 ⟨rfl, l2, F2, _, hb⟩
  have HG := Lib.hid hb.nw
  clear hb HB4
  go_wp2_with fail
  go_ret
  exact ⟨rfl, HG.out⟩
/-- After some calls. -/
def BaS (w : World) (o mb po n k : Nat) (W : World) : Prop := ∃ l L F, BA w W o mb po n k l L F
theorem BaTo.some {w W : World} {o mb po n k : Nat} {hs : List Hq} {L : List Bool} (h : BaTo w o mb po n k hs L W) : BaS w o mb po n k W := by
  obtain ⟨l, F, _, h⟩ := h
  exact ⟨l, L, F, h⟩
end Go.Proofs.YtodnlelnpidliaaGreat
end

/- Law 9: empty, lives; the kit's LightHeads. -/
section
namespace Go.Proofs.YtodnlelnpidliaaGreat
open Go.RowKit
set_option linter.unusedVariables false      -- a contract need not use every name

/-- A head in a box. -/
def HB (w : World) (B : Nat) (t r : Int) (v : Value) (W : Int) : Prop := w.heap[B]? = some (.cells #[.int .i64 t, .int .i64 r, v, .int .i64 W] 56)
theorem HB.made (w : World) (t r : Int) (v : Value) (W : Int) : HB (w.alloc (.cells #[.int .i64 t, .int .i64 r, v, .int .i64 W] 56)) w.heap.size t r v W := allocAt w _
theorem HB.nw {w w' : World} {B : Nat} {t r W : Int} {v : Value} (h : HB w B t r v W) (g : Nw w w') : HB w' B t r v W := g.at' h
end Go.Proofs.YtodnlelnpidliaaGreat
end

/- Arguments: a request, a slice of requests, a head; the kit's LightHeads. -/
section
namespace Go.Proofs.YtodnlelnpidliaaGreat
open Go.ChangeShapes Go.WideShapes Go.ChangeAt Go.RowKit Go.Deep
set_option linter.unusedVariables false

theorem list_of {α : Type} {n : Nat} {Q : Nat → α → Prop} (h : ∀ i, i < n → ∃ x, Q i x) : ∃ l : List α, l.length = n ∧ ∀ i (hi : i < l.length), Q i l[i] := by
  induction n with
  | zero => exact ⟨[], rfl, fun i hi => by simp at hi⟩
  | succ n ih =>
    obtain ⟨l, hl, hq⟩ := ih fun i hi => h i (by omega)
    obtain ⟨x, hx⟩ := h n (by omega)
    refine ⟨l ++ [x], by simp [hl], fun i hi => ?_⟩
    rw [List.length_append, List.length_singleton] at hi
    by_cases q : i < l.length
    · rw [List.getElem_append_left q]; exact hq i q
    · have : i = n := by omega
      subst this
      rw [List.getElem_append_right (by omega)]
      simpa using hx
theorem cellsI : Tryz.prog.cellsOf 3 = 1 := by kernel_rfl
theorem cellsMode : Tryz.prog.cellsOf 39 = 1 := by kernel_rfl
theorem cellsNm : Tryz.prog.cellsOf 38 = 2 := by kernel_rfl
section
variable {H : Type} {enc : TypeId × Value → H} {w : World} {base : Nat} {spare : Nat → Bool} {held : Bool}
theorem some_of {α : Type} {xs : List α} {i : Nat} (h : i < xs.length) : ∃ y, xs[i]? = some y := ⟨_, List.getElem?_eq_getElem h⟩
end
end Go.Proofs.YtodnlelnpidliaaGreat
end

/- The bucket laws: calls that come in. -/
section
namespace Go.Proofs.YtodnlelnpidliaaGreat
open Go.ChangeShapes Go.WideShapes Go.ChangeAt Go.RowKit Go.Deep
set_option linter.unusedVariables false

/-- A call: its kind, a name, a request, a transaction, a mode. -/
structure Cl where
  k : Int
  t : Int
  r : Int
  id : Int
  tx : Int
  md : Int
def clrow (a : Cl) : List Value := [.int .i64 a.k, .int .i64 a.t, .int .i64 a.r, .int .i64 a.id, .int .i64 a.tx, .int .i64 a.md]
/-- Its name is of numbers that an int holds. -/
def Cl.ok (a : Cl) : Prop := (Lit.int .i64 a.t).wf = true ∧ (Lit.int .i64 a.r).wf = true
theorem len6 {cs : List Value} (h : cs.length = 6) : ∃ v0 v1 v2 v3 v4 v5, cs = [v0, v1, v2, v3, v4, v5] := by
  match cs, h with
  | [v0, v1, v2, v3, v4, v5], _ => exact ⟨v0, v1, v2, v3, v4, v5, rfl⟩
theorem cellsCl : Tryz.prog.cellsOf 41 = 6 := by kernel_rfl
section
variable {H : Type} {enc : TypeId × Value → H} {w : World} {base : Nat} {spare : Nat → Bool} {held : Bool}
theorem open_nm {fuel : Nat} {v0 v1 : Value} {x : DataW H × List MemPlace} (f0 : DataW.trod enc Tryz.prog w base spare held fuel 38 [v0, v1] = some x) : ∃ a b, v0 = .int .i64 a ∧ v1 = .int .i64 b ∧ (Lit.int .i64 a).wf = true ∧ (Lit.int .i64 b).wf = true := by
  obtain ⟨xs', n', _, _, hl', hxl', hf'⟩ := DataW.trod_struct Tryz.underlying38 f0
  have g0 : DataW.trod enc Tryz.prog w base spare held n' 3 (([v0, v1].drop 0).take (Tryz.prog.cellsOf 3)) = xs'[0]? := hf' 0 _ rfl
  have g1 : DataW.trod enc Tryz.prog w base spare held n' 3 (([v0, v1].drop 1).take (Tryz.prog.cellsOf 3)) = xs'[1]? := hf' 1 _ rfl
  simp at hxl'
  obtain ⟨z0, r0⟩ := some_of (xs := xs') (i := 0) (by omega)
  obtain ⟨z1, r1⟩ := some_of (xs := xs') (i := 1) (by omega)
  rw [r0] at g0
  rw [r1] at g1
  simp only [cellsI, List.drop_succ_cons, List.drop_zero, List.take_succ_cons, List.take_zero] at g0 g1
  obtain ⟨a0, q0, _, u0⟩ := DataW.trod_int Tryz.underlying3 g0
  obtain ⟨a1, q1, _, u1⟩ := DataW.trod_int Tryz.underlying3 g1
  exact ⟨a0, a1, (List.cons.inj q0).1, (List.cons.inj q1).1, u0, u1⟩
theorem open_cl {fuel : Nat} {cs : List Value} {x : DataW H × List MemPlace} (h : DataW.trod enc Tryz.prog w base spare held fuel 41 cs = some x) : ∃ R : Cl, cs = clrow R ∧ R.ok := by
  obtain ⟨xs, n, _, _, hl, hxl, hf⟩ := DataW.trod_struct Tryz.underlying41 h
  rw [cellsCl] at hl
  obtain ⟨v0, v1, v2, v3, v4, v5, rfl⟩ := len6 hl
  have f0 : DataW.trod enc Tryz.prog w base spare held n 3 (([v0, v1, v2, v3, v4, v5].drop 0).take (Tryz.prog.cellsOf 3)) = xs[0]? := hf 0 _ rfl
  have f1 : DataW.trod enc Tryz.prog w base spare held n 38 (([v0, v1, v2, v3, v4, v5].drop 1).take (Tryz.prog.cellsOf 38)) = xs[1]? := hf 1 _ rfl
  have f2 : DataW.trod enc Tryz.prog w base spare held n 3 (([v0, v1, v2, v3, v4, v5].drop 3).take (Tryz.prog.cellsOf 3)) = xs[2]? := hf 2 _ rfl
  have f3 : DataW.trod enc Tryz.prog w base spare held n 3 (([v0, v1, v2, v3, v4, v5].drop 4).take (Tryz.prog.cellsOf 3)) = xs[3]? := hf 3 _ rfl
  have f4 : DataW.trod enc Tryz.prog w base spare held n 39 (([v0, v1, v2, v3, v4, v5].drop 5).take (Tryz.prog.cellsOf 39)) = xs[4]? := hf 4 _ rfl
  simp at hxl
  obtain ⟨y0, e0⟩ := some_of (xs := xs) (i := 0) (by omega)
  obtain ⟨y1, e1⟩ := some_of (xs := xs) (i := 1) (by omega)
  obtain ⟨y2, e2⟩ := some_of (xs := xs) (i := 2) (by omega)
  obtain ⟨y3, e3⟩ := some_of (xs := xs) (i := 3) (by omega)
  obtain ⟨y4, e4⟩ := some_of (xs := xs) (i := 4) (by omega)
  rw [e0] at f0
  rw [e1] at f1
  rw [e2] at f2
  rw [e3] at f3
  rw [e4] at f4
  simp only [cellsI, cellsMode, cellsNm, List.drop_succ_cons, List.drop_zero, List.take_succ_cons, List.take_zero] at f0 f1 f2 f3 f4
  obtain ⟨a0, q0, _, u0⟩ := DataW.trod_int Tryz.underlying3 f0
  obtain ⟨a2, q2, _, u2⟩ := DataW.trod_int Tryz.underlying3 f2
  obtain ⟨a3, q3, _, u3⟩ := DataW.trod_int Tryz.underlying3 f3
  obtain ⟨a4, q4, _, u4⟩ := DataW.trod_int Tryz.underlying39 f4
  obtain ⟨b0, b1, rfl, rfl, w0, w1⟩ := open_nm f1
  obtain rfl := (List.cons.inj q0).1
  obtain rfl := (List.cons.inj q2).1
  obtain rfl := (List.cons.inj q3).1
  obtain rfl := (List.cons.inj q4).1
  exact ⟨⟨a0, b0, b1, a2, a3, a4⟩, rfl, w0, w1⟩
theorem open_cls {fuel : Nat} {v : Value} {x : DataW H × List MemPlace} (h : DataW.trod enc Tryz.prog w base spare held fuel 22 [v] = some x) : ∃ l, Rd 6 clrow w v l ∧ ∀ R ∈ l, Cl.ok R := by
  rcases open_slice Tryz.underlying22 h with ⟨hcs, _⟩ | ⟨a, len, cap, m, n, D, Pl, hcs, _, hl, hm, hmm, _, hi⟩
  · simp only [List.cons.injEq, and_true] at hcs
    subst hcs
    exact ⟨[], Rd.nil w, fun R hR => by simp at hR⟩
  · simp only [List.cons.injEq, and_true] at hcs
    subst hcs
    have hlm : len ≤ m := by rw [hmm]; split <;> omega
    have each : ∀ i, i < len → ∃ R : Cl, R.ok ∧ ∀ j u, (clrow R)[j]? = some u → w.cell? (a.add (i * 6 + j)) = some u := by
      intro i hil
      obtain ⟨cs', hc, ht⟩ := hi i (by omega)
      rw [cellsCl] at hc
      obtain ⟨R, rfl, hF⟩ := open_cl ht
      obtain ⟨_, hcl, hat⟩ := World.cells?_some hc
      have key : ∀ j, j < 6 → w.cell? (a.add (i * 6 + j)) = (clrow R)[j]? := fun j hj => by rw [← Go.Deep.add_add]; exact hat j hj
      refine ⟨R, hF, fun j u hj => ?_⟩
      have hj6 : j < 6 := by have := (List.getElem?_eq_some_iff.1 hj).1; simpa [clrow] using this
      rw [key j hj6]; exact hj
    obtain ⟨l, hll, hq⟩ := list_of each
    refine ⟨l, ?_, fun R hR => by obtain ⟨i, hi, rfl⟩ := List.getElem_of_mem hR; exact (hq i (by omega)).1⟩
    subst hll
    rcases Nat.eq_zero_or_pos l.length with h0 | h0
    · obtain rfl := List.length_eq_zero_iff.1 h0
      exact ⟨some a, cap, rfl, .inl ⟨rfl, fun e => by cases e⟩⟩
    · have hu := (hq 0 h0).2 0 _ rfl
      obtain ⟨b, o, spot⟩ := a
      have hs : spot = none := by simpa [Addr.add] using World.cell?_spot hu
      subst hs
      refine ⟨some ⟨b, o, none⟩, cap, rfl, .inr ⟨b, o, rfl, ⟨?_, fun i hi c u hu => ?_⟩⟩⟩
      · rw [Addr.add_lit] at hu
        exact World.block_lt_of_cell? _ _ hu
      · have := (hq i hi).2 c u hu
        rw [Addr.add_lit, ← Nat.add_assoc] at this
        exact this
end
end Go.Proofs.YtodnlelnpidliaaGreat
end

/- Contracts of package name, first part: Database, numbered, Level, Check. -/
section
namespace Go.Proofs.YtodnlelnpidliaaGreat
open Go.ChangeShapes Go.WideShapes Go.ChangeAt Go.RowKit

/-- A name as a value. -/
def nm (t r : Int) : Value := .agg #[.int .i64 t, .int .i64 r]

end Go.Proofs.YtodnlelnpidliaaGreat
end

/- Contracts of package name, second part: Level at every name, Check, Table, Record, Parent, Ancestors; T, DB, R of the checker's kit. -/
section
namespace Go.Proofs.YtodnlelnpidliaaGreat
open Go.ChangeShapes Go.WideShapes Go.ChangeAt Go.RowKit

def lvl (t r : Int) : Int := if t = -1 ∧ r = -1 then 0 else if 0 ≤ t ∧ t < 100 then (if r = -1 then 1 else if 0 ≤ r ∧ r < 100 then 2 else -1) else -1
/-! ### Names out of numbers -/
theorem Nw.set {w a : World} (h : Nw w a) {p : Addr} (hp : w.heap.size ≤ p.block) (u : Value) : Nw w (a.setCell p u) := Below.setCell h hp u

/-! ### Rows of names -/
/-- The cells of a slice of names over a row that is there. -/
def NCells (w : World) (b o : Nat) (zs : List (Int × Int)) : Prop := b < w.heap.size ∧ ∀ k (h : k < zs.length), w.cell? ⟨b, o + k * 2, none⟩ = some (.int .i64 zs[k].1) ∧ w.cell? ⟨b, o + k * 2 + 1, none⟩ = some (.int .i64 zs[k].2)
theorem NCells.grown {w w' : World} {b o : Nat} {zs : List (Int × Int)} (h : NCells w b o zs) (g : Nw w w') : NCells w' b o zs :=
  ⟨Nat.lt_of_lt_of_le h.1 g.sz, fun k hk => ⟨(g.cell h.1).trans (h.2 k hk).1, (g.cell h.1).trans (h.2 k hk).2⟩⟩
/-- A new row of names, by its cells. -/
def flat : List (Int × Int) → List Value
  | [] => []
  | z :: r => .int .i64 z.1 :: .int .i64 z.2 :: flat r
end Go.Proofs.YtodnlelnpidliaaGreat
end

/- Contracts of package name, third part: Compare (with cmp.Compare, cmp.Or), slices.Index and Contains over names, Under. -/
section
namespace Go.Proofs.YtodnlelnpidliaaGreat
open Go.ChangeShapes Go.WideShapes Go.ChangeAt Go.RowKit

/-- -1, 0 or 1. -/
def c3 (a b : Int) : Int := if a < b then -1 else if b < a then 1 else 0
theorem c3_lt (a b : Int) (h : a < b) : c3 a b = -1 := if_pos h
theorem c3_gt (a b : Int) (h : b < a) : c3 a b = 1 := by unfold c3; rw [if_neg (by omega), if_pos h]
theorem c3_eq (a : Int) : c3 a a = 0 := by unfold c3; simp
def or2 (x y : Int) : Int := if x = 0 then y else x
/-! ### slices.Index and Contains over names -/
end Go.Proofs.YtodnlelnpidliaaGreat
end

/- Contracts of package name, fourth part: Under. -/
section
namespace Go.Proofs.YtodnlelnpidliaaGreat
open Go.ChangeShapes Go.WideShapes Go.ChangeAt Go.RowKit

/-- One name is under another one. -/
def und (t r t' r' : Int) : Bool := decide (lvl t r ≠ -1 ∧ lvl t' r' ≠ -1 ∧ ((t' = -1 ∧ r' = -1) ∨ (t' = t ∧ (r' = -1 ∨ r' = r))))
end Go.Proofs.YtodnlelnpidliaaGreat
end
