/- Texts merged: PoR, PoRE, PoG, PoL, PoS, BeA, QvT, QvU, BeB, BeE -/
import Derived.Test.YtodnlelnpidliaaGreatBucketHandsB26
import Derived.WalkKit
import Derived.ProofKit
import Derived.OpenShut
import Derived.ShutString
import Derived.ChangeOld
import Derived.Below
import Derived.Deep.Slices
import Derived.Deep.Fields
import Derived.ChangeSame
import Derived.Lib.SmallJoins

/- The document's own pool. -/
section
namespace Go.Proofs.YtodnlelnpidliaaGreat
open Go.RowKit
set_option linter.unusedVariables false

/-- The document's own pool in memory: a row of truths. -/
structure Rp (W : World) (o g : Nat) (L : List Bool) : Prop where
  p0 : W.cell? ⟨o, 0, none⟩ = some (.slice (some ⟨g, 0, none⟩) L.length L.length)
  cs : ∀ i, i < L.length → W.cell? ⟨g, i, none⟩ = some (.bool (L.getD i false)) ∧ W.frozen? ⟨g, i, none⟩ = false
  ol : o < W.heap.size
  gl : g < W.heap.size
  og : g ≠ o
  sz : L.length ≤ 128
theorem Rp.tch {S : Nat → Prop} {W W' : World} {o g : Nat} {L : List Bool} (h : Rp W o g L) (k : Tch S W W') (ho : ¬ S o) (hg : ¬ S g) : Rp W' o g L :=
  ⟨(k.cell h.ol ho).trans h.p0, fun i hi => ⟨(k.cell h.gl hg).trans (h.cs i hi).1, (k.froz h.gl hg).trans (h.cs i hi).2⟩, Nat.lt_of_lt_of_le h.ol k.size, Nat.lt_of_lt_of_le h.gl k.size, h.og, h.sz⟩
theorem Rp.nw {W W' : World} {o g : Nat} {L : List Bool} (h : Rp W o g L) (k : Nw W W') : Rp W' o g L := h.tch (Tch.nw (S := fun _ => False) k) (fun e => e) (fun e => e)
def RpTo (W : World) (o g : Nat) (L : List Bool) (W' : World) : Prop := Rp W' o g L ∧ Tch (fun k => k = g) W W'
theorem Rp.keep {W : World} {o g : Nat} {L : List Bool} (h : Rp W o g L) : RpTo W o g L W := ⟨h, Tch.refl _ W⟩
theorem Rp.put {W : World} {o g : Nat} {L : List Bool} (h : Rp W o g L) {i : Nat} (b : Bool) (hi : i < L.length) : RpTo W o g (L.set i b) (W.setCell ⟨g, i, none⟩ (.bool b)) := by
  have t := setCell_at W ⟨g, i, none⟩ (.bool b)
  refine ⟨⟨by rw [List.length_set]; exact (t.cell h.ol (fun e => h.og e.symm)).trans h.p0, fun j hj => ?_, by simpa using h.ol, by simpa using h.gl, h.og, by rw [List.length_set]; exact h.sz⟩, t⟩
  rw [List.length_set] at hj
  refine ⟨?_, by rw [World.frozen?_setCell]; exact (h.cs j hj).2⟩
  by_cases q : i = j
  · subst q
    rw [getD_at (by simpa using hj), List.getElem_set_self]
    exact World.cell?_setCell_same _ _ _ (h.cs _ hj).1
  · rw [getD_at (by simpa using hj), List.getElem_set_ne q, ← getD_at hj]
    exact (World.cell?_setCell_other _ _ _ _ (fun r => q (congrArg Addr.off r))).trans (h.cs j hj).1

theorem rhas_at {o g : Nat} {L : List Bool} {W : World} (h : Rp W o g L) (n : Int) : Calls Tryz.prog 107 #[.pointer (some ⟨o, 0, none⟩), .int .i64 n] W fun e W' => e = .returned (.bool (hsL L n)) ∧ W = W' := by
  have hr := h.p0
  have hsz := h.sz
  have hg := h.gl
  by_cases hn : 0 ≤ n
  · obtain ⟨i, rfl⟩ := Int.eq_ofNat_of_zero_le hn
    by_cases hi : i < L.length
    · have hc := (h.cs i hi).1
      have e : hsL L i = L.getD i false := by simp [hsL]
      rw [e]
      generalize L.getD i false = b at *
      generalize L.length = N at *
      clear h e hn
      go_enter Tryz.func107, Tryz.ntmps107
      go_wp2
      go_ret
      exact ⟨rfl, rfl⟩
    · have e : hsL L i = false := by simp [hsL, List.getElem?_eq_none (show L.length ≤ i by omega)]
      rw [e]
      generalize L.length = N at *
      have hd : decide (i < N) = false := by simpa using hi
      clear h e hn hi
      go_enter Tryz.func107, Tryz.ntmps107
      go_wp2
      go_ret
      exact ⟨rfl, rfl⟩
  · have e : hsL L n = false := by simp [hsL, hn]
    rw [e]
    clear h e hr
    generalize L.length = N at *
    go_enter Tryz.func107, Tryz.ntmps107
    go_wp2
    go_ret
    exact ⟨rfl, rfl⟩
theorem rmost_at {o g : Nat} {L : List Bool} {W : World} (h : Rp W o g L) : Calls Tryz.prog 81 #[.pointer (some ⟨o, 0, none⟩)] W fun e W' => e = .returned (.int .i64 L.length) ∧ W = W' := by
  have hr := h.p0
  clear h
  go_enter Tryz.func81, Tryz.ntmps81
  go_wp2
  go_ret
  exact ⟨rfl, rfl⟩
theorem rgive_at {o g : Nat} {L : List Bool} {W : World} (h : Rp W o g L) (n : Int) : Calls Tryz.prog 76 #[.pointer (some ⟨o, 0, none⟩), .int .i64 n] W fun e W' => e = .returned (.int .i64 (gvR L n)) ∧ RpTo W o g (gvL L n) W' := by
  have HH := Lib.hid (rhas_at h n)
  rcases q : hsL L n with _ | _
  · rw [gvL_bad q, show gvR L n = 5 by simp [gvR, q]]
    rw [q] at HH
    have HK := Lib.hid h.keep
    clear h q
    go_enter Tryz.func76, Tryz.ntmps76
    go_wp2_with (go_at_call 107; refine HH.out.mono ?_; rintro e w' ⟨rfl, rfl⟩)
    go_ret
    exact ⟨rfl, HK.out⟩
  · rw [show gvR L n = 0 by simp [gvR, q]]
    rw [q] at HH
    obtain ⟨i, rfl, hi, e⟩ := hsL_at q
    rw [gvL_nat L i (by rw [getD_at hi]; exact e)]
    have HK := Lib.hid (h.put false hi)
    have hr := h.p0
    obtain ⟨hc, hf⟩ := h.cs i hi
    have hgl := h.gl
    have hsz := h.sz
    clear h q e
    generalize L.getD i false = b at *
    generalize L.length = N at *
    go_enter Tryz.func76, Tryz.ntmps76
    go_wp2_with (go_at_call 107; refine HH.out.mono ?_; rintro e w' ⟨rfl, rfl⟩)
    go_ret
    exact ⟨rfl, HK.out⟩
theorem rtake_at {o g : Nat} {L : List Bool} {W : World} (h : Rp W o g L) : Calls Tryz.prog 82 #[.pointer (some ⟨o, 0, none⟩)] W fun e W' => e = .returned (.tuple #[.int .i64 (tkR L).1, .int .i64 (tkR L).2]) ∧ RpTo W o g (tkL L) W' := by
  have hr := h.p0
  have hgl := h.gl
  have hsz := h.sz
  have hfl := fre_le L
  have H := Lib.hid h
  clear h
  obtain ⟨a, b, hab⟩ : ∃ a b, tkR L = (a, b) := ⟨_, _, rfl⟩
  have HR := Lib.hid hab
  rw [hab]
  clear hab
  go_enter Tryz.func82, Tryz.ntmps82
  go_wp2
  go_loopw [4] (fun i wr => ∃ k : Nat, k ≤ fre L ∧ i = .int .i64 k ∧ W = wr) (fun i _ => L.length - (intOf i).toNat)
  case atStart => exact ⟨0, Nat.zero_le _, rfl, rfl⟩
  case round =>
    obtain ⟨k, hk, rfl, rfl⟩ := hrel
    by_cases hlt : k < L.length
    · obtain ⟨c, f⟩ := H.out.cs k hlt
      have hlti : (k : Int) < (L.length : Int) := by omega
      by_cases hkf : k < fre L
      · rw [getD_at hlt, fre_below L k hlt hkf] at c
        go_wp2
        go_roundw
        case rel => exact ⟨k + 1, by omega, by go_num, trivial⟩
        case measure => simp [intOf]; omega
      · obtain rfl : k = fre L := by omega
        rw [getD_at hlt, fre_free L hlt] at c
        have e1 : tkL L = L.set (fre L) true := if_pos hlt
        have HP := Lib.hid (H.out.put true hlt)
        rw [← e1] at HP
        have e2 : ((fre L : Int), (0 : Int)) = (a, b) := by rw [← HR.out]; exact (if_pos hlt).symm
        simp only [Prod.mk.injEq] at e2
        obtain ⟨rfl, rfl⟩ := e2
        clear e1 hkf
        go_wp2
        exact bodyPost_ret (v := .tuple #[.int .i64 (fre L), .int .i64 0]) (by simp [results, Tryz.results82, go_sem]) rfl ⟨rfl, HP.out⟩
    · have hq : ¬ fre L < L.length := by omega
      have e2 : ((0 : Int), (8 : Int)) = (a, b) := by rw [← HR.out]; exact (if_neg hq).symm
      simp only [Prod.mk.injEq] at e2
      obtain ⟨rfl, rfl⟩ := e2
      have HK := Lib.hid H.out.keep
      rw [← tkL_full hq] at HK
      have hd : decide ((k : Int) < (L.length : Int)) = false := by simp; omega
      clear hq
      go_wp2
      exact bodyPost_ret (v := .tuple #[.int .i64 0, .int .i64 8]) (by simp [results, Tryz.results82, go_sem]) rfl ⟨rfl, HK.out⟩
theorem rpnew_bad (n : Int) (w : World) (q : ¬ (0 ≤ n ∧ n ≤ 128)) : Calls Tryz.prog 10 #[.int .i64 n] w fun e W' => e = .returned (.tuple #[.pointer none, .int .i64 2]) ∧ w = W' := by
  by_cases d : n < 0
  · clear q
    go_enter Tryz.func10, Tryz.ntmps10
    go_wp2
    exact bodyPost_ret (v := .tuple #[.pointer none, .int .i64 2]) (by simp [results, Tryz.results10, go_sem]) rfl ⟨rfl, rfl⟩
  · have d2 : (128 : Int) < n := by omega
    clear q
    go_enter Tryz.func10, Tryz.ntmps10
    go_wp2
    exact bodyPost_ret (v := .tuple #[.pointer none, .int .i64 2]) (by simp [results, Tryz.results10, go_sem]) rfl ⟨rfl, rfl⟩
theorem rp_new (w : World) (N : Nat) (hN : N ≤ 128) (T U : TypeId) : Rp ((w.alloc (.cells (Array.replicate N (.bool false)) T)).alloc (.cells #[.slice (some ⟨w.heap.size, 0, none⟩) N N] U)) (w.heap.size + 1) w.heap.size (List.replicate N false) := by
  refine ⟨by simp [go_sem], fun i hi => ?_, by simp, by simp; omega, by omega, by simpa using hN⟩
  rw [List.length_replicate] at hi
  have e : (List.replicate N false).getD i false = false := by simp [List.getD, hi]
  rw [e]
  constructor <;> simp [go_sem, hi]
theorem rpnew_any (N : Nat) (hN : N ≤ 128) (w : World) : Calls Tryz.prog 10 #[.int .i64 N] w fun e W => ∃ o g, e = .returned (.tuple #[.pointer (some ⟨o, 0, none⟩), .int .i64 0]) ∧ Rp W o g (List.replicate N false) ∧ w.heap.size ≤ o ∧ w.heap.size ≤ g ∧ Nw w W := by
  have km := fun w => mk_bools w N (by omega)
  have HS := Lib.hid (rp_new w N hN 4 77)
  have hd2 : decide ((128 : Int) < (N : Int)) = false := by simp; omega
  have hd : decide (128 < N) = false := by simp; omega
  go_enter Tryz.func10, Tryz.ntmps10
  go_wp2
  exact bodyPost_ret (v := .tuple #[.pointer (some ⟨w.heap.size + 1, 0, none⟩), .int .i64 0]) (by simp [results, Tryz.results10, go_sem]) rfl ⟨_, _, rfl, HS.out, Nat.le_succ _, Nat.le_refl _, ((Nw.refl w).alloc _).alloc _⟩
end Go.Proofs.YtodnlelnpidliaaGreat
end

/- The document's own pool: Each, Live. -/
section
namespace Go.Proofs.YtodnlelnpidliaaGreat
open Go.RowKit
set_option linter.unusedVariables false

theorem pwpList_append_run {P : Program} {w : World} {ops : Array Oper} {rest : List Oper} {o : Oper} {a : Act} {Q : Exit → Act → World → Prop}
    (hgd : Region.wanted o (yielded ops a.tmps) = true) (s x : Operand) (t : TypeId) (hop : o.op = Op.call { callee := Callee.builtin Builtin.append, args := #[s, x], argTypes := #[t, t] })
    (v u v' : Value) (w' : World) (hs : a.eval s = v) (hx : a.eval x = u) (hr : (Builtin.append_ #[t, t] o.type #[v, u]).run P w = .ok v' w') (h : wpList P ops Q rest (a.put o.dst v') w') : wpList P ops Q (o :: rest) a w := by
  refine wpList_step fun _ hK => ?_
  rw [if_pos hgd]
  unfold Oper.wp execOp
  simp only [hop, resolve, invoke, builtin, Sem.run_bind, Sem.run_pure, Result.andThen_ok, List.map_toArray, List.map_cons, List.map_nil, hs, hx, hr]
  exact hK _ _ h
/-- A call that returns a new list of numbers, or nil. -/
def PNewIS (w : World) (zs : List Int) (e : Ending) (w' : World) : Prop := ∃ v, e = .returned v ∧ IS w' v zs ∧ (∀ k, v.ownBlock = some k → w.heap.size ≤ k) ∧ Nw w w'
theorem castL_app (l m : List Nat) : castL (l ++ m) = castL l ++ castL m := List.map_append
theorem lntI_succ (L : List Bool) (k : Nat) : castL (lntT L (k + 1)) = castL (lntT L k) ++ (if L.getD k false = true then [(k : Int)] else []) := by
  rw [lntT_succ, castL_app]
  congr 1
  split <;> rfl
theorem castL_len (l : List Nat) : (castL l).length = l.length := by simp [castL]
set_option maxHeartbeats 1000000 in
theorem reach_at {o g : Nat} {L : List Bool} {W : World} (h : Rp W o g L) : Calls Tryz.prog 50 #[.pointer (some ⟨o, 0, none⟩)] W (PNewIS W (castL (lnt L))) := by
  have H := Lib.hid h
  have hsz := h.sz
  have hr := h.p0
  clear h
  go_enter Tryz.func50, Tryz.ntmps50
  go_wp2
  go_loopw [3, 4] (fun v i wr => ∃ k : Nat, k ≤ L.length ∧ i = .int .i64 k ∧ IS wr v (castL (lntT L k)) ∧ (∀ k, v.ownBlock = some k → W.heap.size ≤ k) ∧ Nw W wr) (fun _ i _ => L.length - (intOf i).toNat)
  case atStart => exact ⟨0, Nat.zero_le _, rfl, IS.nil _, fun k e => by simp [Value.ownBlock] at e, Nw.refl _⟩
  case round =>
    obtain ⟨k, hk, rfl, hv, ho, hG⟩ := hrel
    have hp := (H.out.nw hG).p0
    have hln : (castL (lntT L k)).length ≤ 128 := by rw [castL_len]; have := lntT_len L k; omega
    by_cases hlt : k < L.length
    · obtain ⟨c, _⟩ := (H.out.nw hG).cs k hlt
      have hlti : (k : Int) < (L.length : Int) := by omega
      have hS := lntI_succ L k
      cases hb : L.getD k false with
      | true =>
        rw [hb] at c hS
        simp only [if_true] at hS
        obtain ⟨v', w1, hrun, q1, q2, q3, g', cap', rfl⟩ := IS.push wr _ (castL (lntT L k)) k hv (by omega)
        rw [← hS] at q1
        have HQ := Lib.hid (And.intro q1 (And.intro q2 q3))
        have HR := Lib.hid hrun
        have HH := Lib.hid (And.intro hv (And.intro ho hG))
        clear q1 q2 q3 hrun hS hb hr ho
        obtain ⟨ao, cap, rfl, _⟩ := hv.box
        clear hv
        generalize hNN : (castL (lntT L k)).length = M at *
        go_wp2_with (at_builtin; refine pwpList_append_run (by rfl) (.tmp 21) (.tmp 23) 57 rfl _ _ _ _ rfl rfl HR.out ?_)
        go_roundw
        case rel => exact ⟨k + 1, by omega, by go_num, HQ.out.1, fun j e => (HQ.out.2.2 j e).elim (HH.out.2.1 j) (fun q => Nat.le_trans hG.sz q), nw_tch hG HQ.out.2.1 (fun i e => HH.out.2.1 i e)⟩
        case measure => simp [intOf]; omega
      | false =>
        rw [hb] at c hS
        simp only [Bool.false_eq_true, if_false, List.append_nil] at hS
        rw [← hS] at hv
        have HH := Lib.hid (And.intro hv (And.intro ho hG))
        obtain ⟨ao, cap, rfl, _⟩ := hv.box
        clear hv ho hS hb hr hln
        generalize hNN : (castL (lntT L (k + 1))).length = M at *
        go_wp2
        go_roundw
        case rel => exact ⟨k + 1, by omega, by go_num, HH.out.1, HH.out.2.1, hG⟩
        case measure => simp [intOf]; omega
    · obtain rfl : k = L.length := by omega
      have HH := Lib.hid (And.intro hv (And.intro ho hG))
      obtain ⟨ao, cap, rfl, _⟩ := hv.box
      clear hv ho hr
      have hd : decide ((L.length : Int) < (L.length : Int)) = false := by simp
      go_wp2
      go_ret
      exact ⟨_, rfl, HH.out⟩
theorem rlive_at {o g : Nat} {L : List Bool} {W : World} (h : Rp W o g L) : Calls Tryz.prog 19 #[.pointer (some ⟨o, 0, none⟩)] W fun e W' => e = .returned (.int .i64 (liv L)) ∧ Nw W W' := by
  have HE := Lib.hid (reach_at h)
  have e1 : (castL (lnt L)).length = liv L := by rw [castL_len, liv_lnt]
  have e2 := liv_le L
  have hsz := h.sz
  clear h
  generalize liv L = M at *
  go_enter Tryz.func19, Tryz.ntmps19
  go_wp2_with fail
  refine HE.out.mono ?_
  rintro e w1 ⟨v, rfl, q1, _, q3⟩
  obtain ⟨ao, cap, rfl, _⟩ := q1.box
  rw [e1]
  clear q1 e1
  go_wp2
  go_ret
  exact ⟨rfl, q3⟩
end Go.Proofs.YtodnlelnpidliaaGreat
end

/- A pool: Each and its iterator. -/
section
namespace Go.Proofs.YtodnlelnpidliaaGreat
open Go.RowKit Go.Shelf
set_option linter.unusedVariables false
attribute [local go_sem] Oper.semAt_some

/-- A value that reads as a row of truths of the call's own. -/
abbrev BS (w : World) (v : Value) (L : List Bool) : Prop := w.ownsRow 0 4 1 v L.length (L.map Value.bool)
theorem BS.form {w : World} {v : Value} {l : List Bool} (h : BS w v l) : (v = .slice none 0 0 ∧ l = []) ∨ ∃ g cap, v = .slice (some ⟨g, 0, none⟩) l.length cap := by
  rcases h.2 with ⟨rfl, h0⟩ | ⟨g, cap, cur, rfl, _⟩
  · exact .inl ⟨rfl, List.length_eq_zero_iff.1 h0⟩
  · exact .inr ⟨g, cap, rfl⟩
theorem BS.cell {w : World} {g cap : Nat} {l : List Bool} (h : BS w (.slice (some ⟨g, 0, none⟩) l.length cap) l) (i : Nat) (hi : i < l.length) : w.cell? ⟨g, i, none⟩ = some (.bool (l.getD i false)) :=
  (World.ownsRow.cellAt h i (by omega)).trans (by simp [List.getD, hi])
theorem beql_nil (a : Option Addr) (n c : Nat) (w : World) : Sem.run Tryz.prog (binOp .eql 75 (.slice a n c) (.slice none 0 0)) w = .ok (.bool a.isNone) w := by
  have h : ∀ d : Nat, (Op.equalIn (d + 1) 75 (.slice a n c) (.slice none 0 0)).run Tryz.prog w = .ok a.isNone w := fun d => by
    cases a <;> simp [Op.equalIn, run_underlying Tryz.underlying75]
  simp only [binOp]
  simp [Op.equal, Op.maxDepth, h 9999]
theorem bempty_row (w : World) : (w.alloc (.cells #[] 4)).ownsRow 0 4 1 (.slice (some ⟨w.heap.size, 0, none⟩) 0 0) 0 [] :=
  World.ownsRow_lit w #[] 0 (Nat.zero_le _) (Nat.zero_le _) rfl
/-- The copy of a row that append makes of an empty slice. -/
theorem bclone_run (g : Nat) (L : List Bool) (w : World) (hc : ∀ i, i < L.length → w.cell? ⟨g, i, none⟩ = some (.bool (L.getD i false))) (hg : g < w.heap.size) (hsm : L.length ≤ 1000) :
    ∃ v' w1, (Builtin.append_ #[75, 75] 75 #[.slice (some ⟨w.heap.size, 0, none⟩) 0 0, .slice (some ⟨g, 0, none⟩) L.length L.length]).run Tryz.prog (w.alloc (.cells #[] 4)) = .ok v' w1 ∧
      BS w1 v' L ∧ (∀ k, v'.ownBlock = some k → w.heap.size ≤ k) ∧ Nw w w1 := by
  obtain ⟨i0, hi, hz0, hz1, hz2⟩ := info_parts infoB
  have c : ∀ j u, (L.map Value.bool)[j]? = some u → (w.alloc (.cells #[] 4)).cell? ((⟨g, 0, none⟩ : Addr).add j) = some u := fun j u hu => by
    have hj : j < L.length := by
      rcases Nat.lt_or_ge j L.length with q | q
      · exact q
      · rw [List.getElem?_eq_none (by simpa using q)] at hu; cases hu
    have e : u = .bool (L.getD j false) := by
      rw [List.getElem?_map, List.getElem?_eq_getElem hj] at hu
      rw [getD_at hj]
      exact (Option.some.inj hu).symm
    subst e
    have := (((Nw.refl w).alloc (.cells #[] 4)).cell (o := j) hg).trans (hc j hj)
    rw [show (⟨g, 0, none⟩ : Addr).add j = ⟨g, j, none⟩ by cases j <;> simp [Addr.add]]
    exact this
  obtain ⟨v', w1, hrun, ho, hgr, hp⟩ := run_append_fresh (P := Tryz.prog) (w.alloc (.cells #[] 4)) 0 75 75 4 i0 _ 1 1 Tryz.underlying75 hi hz0 hz1 hz2 rfl (by decide) _ 0 [] (bempty_row w)
    ⟨g, 0, none⟩ L.length L.length (L.map Value.bool) (by simp) c (by
      intro u hu
      obtain ⟨x, _, rfl⟩ := List.mem_map.1 hu
      rfl) (by unfold maxLen; omega) (by omega) (Nat.zero_le _)
  rw [Nat.zero_add, List.nil_append] at ho
  refine ⟨v', w1, hrun, ho, fun k e => ?_, ?_⟩
  · rcases hp with q | q
    · rw [q] at e; simp [Value.ownBlock] at e; omega
    · rw [q] at e; simp at e; omega
  · exact (Tch.grown (S := fun _ => False) (Tch.nw ((Nw.refl w).alloc _)) hgr (fun k e => by simp [Value.ownBlock] at e; exact .inr (by omega))).toNw
theorem lntT_pre (L : List Bool) : ∀ d k, castL (lntT L k) <+: castL (lntT L (k + d))
  | 0, k => List.prefix_refl _
  | d + 1, k => by
    refine (lntT_pre L d k).trans ?_
    rw [show k + (d + 1) = k + d + 1 by omega, lntI_succ]
    exact List.prefix_append _ _
theorem lnt_pre (L : List Bool) {k : Nat} (h : k ≤ L.length) : castL (lntT L k) <+: castL (lnt L) := by
  have := lntT_pre L (L.length - k) k
  rwa [show k + (L.length - k) = L.length by omega] at this
end Go.Proofs.YtodnlelnpidliaaGreat
end

/- What the law's own loop over Each collects; lives. -/
section
namespace Go.Proofs.YtodnlelnpidliaaGreat
open Go.RowKit Go.Shelf
set_option linter.unusedVariables false
attribute [local go_sem] Oper.semAt_some

theorem peql_fn (f : Fn) (a b : Array Value) (w : World) : Sem.run Tryz.prog (binOp .eql 171 (.func f a b) .nilFunc) w = .ok (.bool false) w := by
  have h : ∀ d : Nat, (Op.equalIn (d + 1) 171 (.func f a b) .nilFunc).run Tryz.prog w = .ok false w := fun d => by
    simp [Op.equalIn, run_underlying Tryz.underlying171]
  simp only [binOp]
  simp [Op.equal, Op.maxDepth, h 9999]
theorem pwpListIn_append_run {F : Fence} {n : Nat} {P : Program} {w : World} {ops : Array Oper} {rest : List Oper} {o : Oper} {a : Act} {Q : Exit → Act → World → Prop}
    (hg : o.guard = none) (s x : Operand) (t : TypeId) (hop : o.op = Op.call { callee := Callee.builtin Builtin.append, args := #[s, x], argTypes := #[t, t] })
    (v u v' : Value) (w' : World) (hs : a.eval s = v) (hx : a.eval x = u) (hr : (Builtin.append_ #[t, t] o.type #[v, u]).run P w = .ok v' w') (h : wpListIn F n P ops Q rest (a.put o.dst v') w') : wpListIn F n P ops Q (o :: rest) a w := by
  refine wpListIn_plain hg fun K hK' => ?_
  unfold Oper.wpIn
  refine ⟨?_, ?_⟩
  · simp [Oper.about, hop, resolve, Target.leads, Sem.run_pure]
  · rw [Oper.semAt_plain F _ _ (by rw [hop]; intro c hc'; cases hc')]
    simp [execOp, hop, resolve, invoke, builtin, hs, hx, hr, Result.andThen]
    exact hK' _ _ h
theorem tch_put {S : Nat → Prop} {A : World} {D : Nat} (o : Obj) (h : S D) : Tch S A (A.putObj D o) := ⟨rfl, rfl, rfl, by simp, fun k _ hk => World.putObj_heap_other (fun e => hk (e ▸ h))⟩

/-- The answer of the law's own lent. -/
def LentP (w : World) (l : List Int) (e : Ending) (W : World) : Prop := ∃ v, e = .returned (.tuple #[v, .bool true]) ∧ IS W v l ∧ (∀ k, v.ownBlock = some k → w.heap.size ≤ k) ∧ Nw w W
/-- Between two rounds: s is the size of the heap at the law's start. -/
structure LnI (w : World) (S : Nat → Prop) (pre : List Int) (A : World) (v : Value) : Prop where
  nw : Nw w A
  is : IS A v pre
  own : ∀ k, v.ownBlock = some k → w.heap.size + 6 ≤ k ∧ ¬ S k
  out : A.cell? ⟨w.heap.size + 3, 0, none⟩ = some v ∧ A.frozen? ⟨w.heap.size + 3, 0, none⟩ = false
  r1 : A.cell? ⟨w.heap.size, 0, none⟩ = some (.slice none 0 0) ∧ A.frozen? ⟨w.heap.size, 0, none⟩ = false
  r2 : A.cell? ⟨w.heap.size + 1, 0, none⟩ = some (.bool false) ∧ A.frozen? ⟨w.heap.size + 1, 0, none⟩ = false
  sb : ∀ k, S k → w.heap.size + 4 ≤ k ∧ k < A.heap.size
theorem LnI.tch {w A B : World} {S T : Nat → Prop} {pre : List Int} {v : Value} (h : LnI w S pre A v) (k : Tch T A B) (hT : ∀ i, T i → w.heap.size + 4 ≤ i ∧ v.ownBlock ≠ some i) : LnI w S pre B v := by
  have hlt : w.heap.size + 3 < A.heap.size := World.block_lt_of_cell? _ _ h.out.1
  have n3 : ¬ T (w.heap.size + 3) := fun e => by have := (hT _ e).1; omega
  have n1 : ¬ T (w.heap.size + 1) := fun e => by have := (hT _ e).1; omega
  have n0 : ¬ T w.heap.size := fun e => by have := (hT _ e).1; omega
  exact ⟨nw_tch h.nw k (fun i e => by have := (hT _ e).1; omega), h.is.tch k (fun g e q => (hT _ q).2 e), h.own, ⟨(k.cell hlt n3).trans h.out.1, (k.froz hlt n3).trans h.out.2⟩,
    ⟨(k.cell (by omega) n0).trans h.r1.1, (k.froz (by omega) n0).trans h.r1.2⟩, ⟨(k.cell (by omega) n1).trans h.r2.1, (k.froz (by omega) n1).trans h.r2.2⟩, fun i e => ⟨(h.sb i e).1, Nat.lt_of_lt_of_le (h.sb i e).2 k.size⟩⟩
theorem LnI.push {w A w1 : World} {S : Nat → Prop} {pre : List Int} {v : Value} {x : Int} {g cap : Nat} (h : LnI w S pre A v) (hA : w.heap.size + 6 ≤ A.heap.size) (q1 : IS w1 (.slice (some ⟨g, 0, none⟩) (pre.length + 1) cap) (pre ++ [x])) (q2 : Tch (fun k => v.ownBlock = some k) A w1)
    (q3 : ∀ k, (Value.slice (some ⟨g, 0, none⟩) (pre.length + 1) cap).ownBlock = some k → v.ownBlock = some k ∨ A.heap.size ≤ k) :
    LnI w S (pre ++ [x]) (w1.setCell ⟨w.heap.size + 3, 0, none⟩ (.slice (some ⟨g, 0, none⟩) (pre.length + 1) cap)) (.slice (some ⟨g, 0, none⟩) (pre.length + 1) cap) ∧
    KpI S A (w1.setCell ⟨w.heap.size + 3, 0, none⟩ (.slice (some ⟨g, 0, none⟩) (pre.length + 1) cap)) ∧
    (∀ k, (k = w.heap.size + 4 ∨ k = w.heap.size + 5) → (w1.setCell ⟨w.heap.size + 3, 0, none⟩ (.slice (some ⟨g, 0, none⟩) (pre.length + 1) cap)).heap[k]? = A.heap[k]?) ∧
    w1.cell? ⟨w.heap.size + 3, 0, none⟩ = some v ∧ w1.frozen? ⟨w.heap.size + 3, 0, none⟩ = false := by
  have hg := q3 g rfl
  have hgo : w.heap.size + 6 ≤ g ∧ ¬ S g := by
    rcases hg with e | e
    · exact h.own g e
    · exact ⟨by omega, fun q => by have := (h.sb g q).2; omega⟩
  have no : ∀ i, i < w.heap.size + 6 → ¬ (v.ownBlock = some i) := fun i hi e => by have := (h.own i e).1; omega
  have t2 := setCell_at w1 ⟨w.heap.size + 3, 0, none⟩ (.slice (some ⟨g, 0, none⟩) (pre.length + 1) cap)
  have c3 := (q2.cell (o := 0) (show w.heap.size + 3 < A.heap.size by omega) (no _ (by omega))).trans h.out.1
  have f3 := (q2.froz (o := 0) (show w.heap.size + 3 < A.heap.size by omega) (no _ (by omega))).trans h.out.2
  have sz := q2.size
  have c : ∀ b, b < w.heap.size + 6 → b ≠ w.heap.size + 3 → (w1.setCell ⟨w.heap.size + 3, 0, none⟩ (.slice (some ⟨g, 0, none⟩) (pre.length + 1) cap)).heap[b]? = A.heap[b]? := fun b hb hn =>
    (t2.block b (by omega) hn).trans (q2.block b (by omega) (no _ hb))
  refine ⟨⟨nw_tch (nw_tch h.nw q2 (fun i e => by have := (h.own i e).1; omega)) t2 (fun i e => by simp at e; omega), q1.tch t2 (fun b e => by simp [Value.ownBlock] at e; subst e; simp; omega), fun k e => by simp [Value.ownBlock] at e; subst e; exact hgo, ⟨World.cell?_setCell_same _ _ _ c3, by rw [World.frozen?_setCell]; exact f3⟩, ?_, ?_, fun i e => ⟨(h.sb i e).1, by have := (h.sb i e).2; simp; omega⟩⟩, ⟨by simp; omega, fun k e => ?_⟩, fun k e => ?_, c3, f3⟩
  · exact ⟨(World.cell?_of_block (c w.heap.size (by omega) (by omega))).trans h.r1.1, (World.frozen?_of_block (c w.heap.size (by omega) (by omega))).trans h.r1.2⟩
  · exact ⟨(World.cell?_of_block (c (w.heap.size + 1) (by omega) (by omega))).trans h.r2.1, (World.frozen?_of_block (c (w.heap.size + 1) (by omega) (by omega))).trans h.r2.2⟩
  · have hk := h.sb k e
    exact (t2.block k (by omega) (by simp; omega)).trans (q2.block k hk.2 (fun q => (h.own k q).2 e))
  · rcases e with rfl | rfl
    · exact c _ (by omega) (by omega)
    · exact c _ (by omega) (by omega)
theorem LnI.done {w A : World} {S : Nat → Prop} {pre : List Int} {v : Value} (h : LnI w S pre A v) (hK : A.heap[w.heap.size + 4]? = some (.deferred (some []))) :
    LentP w pre (.returned (.tuple #[v, .bool true])) (((A.setCell ⟨w.heap.size, 0, none⟩ v).setCell ⟨w.heap.size + 1, 0, none⟩ (.bool true)).putObj (w.heap.size + 4) (.deferred none)) ∧
    (((A.setCell ⟨w.heap.size, 0, none⟩ v).setCell ⟨w.heap.size + 1, 0, none⟩ (.bool true)).putObj (w.heap.size + 4) (.deferred none)).cell? ⟨w.heap.size, 0, none⟩ = some v ∧
    (((A.setCell ⟨w.heap.size, 0, none⟩ v).setCell ⟨w.heap.size + 1, 0, none⟩ (.bool true)).putObj (w.heap.size + 4) (.deferred none)).cell? ⟨w.heap.size + 1, 0, none⟩ = some (.bool true) ∧
    ((A.setCell ⟨w.heap.size, 0, none⟩ v).setCell ⟨w.heap.size + 1, 0, none⟩ (.bool true)).heap[w.heap.size + 4]? = some (.deferred (some [])) := by
  have hlt : w.heap.size + 4 < A.heap.size := (Array.getElem?_eq_some_iff.1 hK).1
  have t1 : Tch (fun k => k = w.heap.size ∨ k = w.heap.size + 1) A ((A.setCell ⟨w.heap.size, 0, none⟩ v).setCell ⟨w.heap.size + 1, 0, none⟩ (.bool true)) :=
    Tch.set (S := fun k => k = w.heap.size ∨ k = w.heap.size + 1) (p := ⟨w.heap.size + 1, 0, none⟩) (Tch.set (S := fun k => k = w.heap.size ∨ k = w.heap.size + 1) (p := ⟨w.heap.size, 0, none⟩) (Tch.refl _ A) (.inl (.inl rfl)) v) (.inl (.inr rfl)) _
  have t2 : Tch (fun k => k = w.heap.size + 4) _ (((A.setCell ⟨w.heap.size, 0, none⟩ v).setCell ⟨w.heap.size + 1, 0, none⟩ (.bool true)).putObj (w.heap.size + 4) (.deferred none)) := tch_put _ rfl
  have t3 := (t1.mono (S' := fun k => k = w.heap.size ∨ k = w.heap.size + 1 ∨ k = w.heap.size + 4) (fun k _ e => by omega)).trans (t2.mono (fun k _ e => by omega))
  have hs : A.heap.size ≤ ((A.setCell ⟨w.heap.size, 0, none⟩ v).setCell ⟨w.heap.size + 1, 0, none⟩ (.bool true)).heap.size := t1.size
  refine ⟨⟨v, rfl, h.is.tch t3 (fun g e q => by have := (h.own g e).1; omega), fun k e => by have := (h.own k e).1; omega, nw_tch h.nw t3 (fun i e => by omega)⟩, ?_, ?_, ?_⟩
  · rw [t2.cell (by omega) (by omega), World.cell?_setCell_other _ _ _ _ (by simp)]
    exact World.cell?_setCell_same _ _ _ h.r1.1
  · rw [t2.cell (by omega) (by omega)]
    exact World.cell?_setCell_same _ _ _ (by rw [World.cell?_setCell_other _ _ _ _ (by simp)]; exact h.r2.1)
  · exact (t1.block _ hlt (by omega)).trans hK
theorem ln_start (w : World) (p : Nat) (T U V X : TypeId) (w0 : World) (h0 : (((w.alloc (.cells #[.slice none 0 0] T)).alloc (.cells #[.bool false] U)).alloc (.cells #[.pointer (some ⟨p, 0, none⟩)] V)).alloc (.cells #[.slice none 0 0] X) = w0) :
    Nw w w0 ∧ w0.heap.size = w.heap.size + 4 ∧ w0.cell? ⟨w.heap.size + 2, 0, none⟩ = some (.pointer (some ⟨p, 0, none⟩)) ∧
    (∀ S W, Nw w0 W → (∀ k, S k → w0.heap.size ≤ k ∧ k < W.heap.size) → LnI w S [] W (.slice none 0 0)) := by
  have nw : Nw w w0 := by rw [← h0]; exact ((((Nw.refl w).alloc _).alloc _).alloc _).alloc _
  have sz : w0.heap.size = w.heap.size + 4 := by rw [← h0]; simp
  refine ⟨nw, sz, by rw [← h0]; simp [go_sem], fun S W g hS => ?_⟩
  refine ⟨nw.trans g, IS.nil _, fun k e => by simp [Value.ownBlock] at e, ⟨(g.cell (by omega)).trans ?_, (World.frozen?_of_block (g.block (w.heap.size + 3) (by omega))).trans ?_⟩, ⟨(g.cell (by omega)).trans ?_, (World.frozen?_of_block (g.block w.heap.size (by omega))).trans ?_⟩, ⟨(g.cell (by omega)).trans ?_, (World.frozen?_of_block (g.block (w.heap.size + 1) (by omega))).trans ?_⟩, fun k e => by have := hS k e; omega⟩
  all_goals (rw [← h0]; simp [go_sem])
end Go.Proofs.YtodnlelnpidliaaGreat
end

/- A pool of the call's own, step by step; lives; rows of numbers that came in. -/
section
namespace Go.Proofs.YtodnlelnpidliaaGreat
open Go.RowKit
set_option linter.unusedVariables false

/-- A pool of the call's own: nothing that was there has changed. -/
structure PAcc (w W : World) (p : Nat) (L : List Bool) (F : Nat → Prop) : Prop where
  po : Pol W p L F
  new : ∀ k, F k → w.heap.size ≤ k
  nw : Nw w W
theorem PAcc.step {w W W' : World} {p : Nat} {L : List Bool} {F : Nat → Prop} (h : PAcc w W p L F) (k : Nw W W') : PAcc w W' p L F := ⟨h.po.nw k, h.new, h.nw.trans k⟩
/-- A step of such a pool: what else changes. -/
def PAccTo (w W : World) (p : Nat) (F : Nat → Prop) (L : List Bool) (W' : World) : Prop := ∃ F', PAcc w W' p L F' ∧ (∀ k, F' k → F k ∨ W.heap.size ≤ k) ∧ Tch F W W'
theorem PAcc.to {w W W' : World} {p : Nat} {L L' : List Bool} {F : Nat → Prop} (h : PAcc w W p L F) (k : PolTo W p F L' W') : PAccTo w W p F L' W' := by
  obtain ⟨F', h1, h2, h3⟩ := k
  exact ⟨F', ⟨h1, fun k e => (h2 k e).elim (h.new k) (fun q => Nat.le_trans h.nw.sz q), nw_tch h.nw h3 h.new⟩, h2, h3⟩
theorem pacc_new (w W : World) (hW : Nw w W) (n : Int) (N : Nat) (hn : n = N) (hN : N ≤ 128) :
    Calls Tryz.prog 34 #[.int .i64 n] W fun e W' => ∃ p F, e = .returned (.tuple #[.pointer (some ⟨p, 0, none⟩), .int .i64 0]) ∧ PAcc w W' p (List.replicate N false) F ∧ Nw W W' ∧ (∀ k, F k → W.heap.size ≤ k) := by
  subst hn
  refine (pnew_any N hN W).mono ?_
  rintro e W' ⟨p, F, rfl, h1, h2, h3⟩
  exact ⟨p, F, rfl, ⟨h1, fun k e => Nat.le_trans hW.sz (h3 k e), hW.trans h2⟩, h2, h3⟩
theorem pacc_take {w W : World} {p : Nat} {L : List Bool} {F : Nat → Prop} (h : PAcc w W p L F) (x E : Int) (L' : List Bool) (hR : tkR L = (x, E)) (hS : tkL L = L') :
    Calls Tryz.prog 66 #[.pointer (some ⟨p, 0, none⟩)] W fun e W' => e = .returned (.tuple #[.int .i64 x, .int .i64 E]) ∧ PAccTo w W p F L' W' := by
  refine (take_any h.po).mono ?_
  rintro e W' ⟨h1, h2⟩
  rw [hR] at h1
  rw [hS] at h2
  exact ⟨h1, h.to h2⟩
theorem pacc_give {w W : World} {p : Nat} {L : List Bool} {F : Nat → Prop} (h : PAcc w W p L F) (n E : Int) (L' : List Bool) (hR : gvR L n = E) (hS : gvL L n = L') :
    Calls Tryz.prog 67 #[.pointer (some ⟨p, 0, none⟩), .int .i64 n] W fun e W' => e = .returned (.int .i64 E) ∧ PAccTo w W p F L' W' := by
  refine (give_any h.po n).mono ?_
  rintro e W' ⟨h1, h2⟩
  rw [hR] at h1
  rw [hS] at h2
  exact ⟨h1, h.to h2⟩
theorem pacc_give_bad {w W : World} {p : Nat} {L : List Bool} {F : Nat → Prop} (h : PAcc w W p L F) (n : Int) (q : hsL L n = false) :
    Calls Tryz.prog 67 #[.pointer (some ⟨p, 0, none⟩), .int .i64 n] W fun e W' => e = .returned (.int .i64 5) ∧ W = W' := by
  obtain ⟨g, v, l, hp, _⟩ := h.po
  exact give_bad hp n q
theorem pacc_full {w W : World} {p : Nat} {L : List Bool} {F : Nat → Prop} (h : PAcc w W p L F) (q : ¬ fre L < L.length) :
    Calls Tryz.prog 66 #[.pointer (some ⟨p, 0, none⟩)] W fun e W' => e = .returned (.tuple #[.int .i64 0, .int .i64 8]) ∧ W = W' := by
  obtain ⟨g, v, l, hp, _⟩ := h.po
  exact take_full hp q
theorem pacc_has {w W : World} {p : Nat} {L : List Bool} {F : Nat → Prop} (h : PAcc w W p L F) (n : Int) (b : Bool) (hR : hsL L n = b) :
    Calls Tryz.prog 27 #[.pointer (some ⟨p, 0, none⟩), .int .i64 n] W fun e W' => e = .returned (.bool b) ∧ W = W' := by
  subst hR
  obtain ⟨g, v, l, hp, _⟩ := h.po
  exact has_at hp n
theorem pacc_live {w W : World} {p : Nat} {L : List Bool} {F : Nat → Prop} (h : PAcc w W p L F) (K : Nat) (hR : liv L = K) :
    Calls Tryz.prog 18 #[.pointer (some ⟨p, 0, none⟩)] W fun e W' => e = .returned (.int .i64 K) ∧ Nw W W' := by
  subst hR
  obtain ⟨g, v, l, hp, _⟩ := h.po
  exact live_at hp
theorem pacc_most {w W : World} {p : Nat} {L : List Bool} {F : Nat → Prop} (h : PAcc w W p L F) (K : Nat) (hR : L.length = K) :
    Calls Tryz.prog 30 #[.pointer (some ⟨p, 0, none⟩)] W fun e W' => e = .returned (.int .i64 K) ∧ W = W' := by
  subst hR
  obtain ⟨g, v, l, hp, _⟩ := h.po
  exact most_at hp
/-- What the walk is told of a slice of numbers that came in. -/
def IsNum (w : World) (a : Option Addr) (len cap : Nat) (zs : List Int) : Prop :=
  (a = none ∧ len = 0 ∧ cap = 0 ∧ zs = []) ∨
  ∃ x, a = some x ∧ len ≤ cap ∧ cap ≤ maxLen ∧ zs.length = cap ∧ (∀ i, i < zs.length → w.cell? (x.add i) = some (.int .i64 (zs.getD i 0))) ∧ ∀ n ∈ zs, (Lit.int .i64 n).wf = true
theorem IsNum.at {w : World} {a : Option Addr} {len cap : Nat} {zs : List Int} (h : IsNum w a len cap zs) (hl : 0 < len) : ∃ b o, a = some ⟨b, o, none⟩ ∧ len ≤ maxLen ∧ b < w.heap.size ∧ (∀ i, i < len → w.cell? ⟨b, o + i, none⟩ = some (.int .i64 (zs.getD i 0))) ∧ ∀ i, i < len → (Lit.int .i64 (zs.getD i 0)).wf = true := by
  rcases h with ⟨_, h0, _⟩ | ⟨x, rfl, h1, h2, h3, h4, h5⟩
  · omega
  · obtain ⟨b, o, spot⟩ := x
    have hs : spot = none := by simpa [Addr.add] using World.cell?_spot (h4 0 (by omega))
    subst hs
    have hc : ∀ i, i < len → w.cell? ⟨b, o + i, none⟩ = some (.int .i64 (zs.getD i 0)) := fun i hi => by
      have := h4 i (by omega)
      rwa [Addr.add_lit] at this
    refine ⟨b, o, rfl, by omega, World.block_lt_of_cell? _ _ (hc 0 hl), hc, fun i hi => h5 _ ?_⟩
    have : i < zs.length := by omega
    simp [List.getD, this]
end Go.Proofs.YtodnlelnpidliaaGreat
end

/- The laws of buckets: a bucket and its pool of the call's own; made, lives, call. -/
section
namespace Go.Proofs.YtodnlelnpidliaaGreat
open Go.RowKit Go.Shelf
set_option linter.unusedVariables false      -- a contract need not use every name

structure BA (w W : World) (o mb po n k : Nat) (l : List Hp) (L : List Bool) (F : Nat → Prop) : Prop where
  db : Db W o mb po n l L F
  inv : BInv n k (hsP l) L
  nw : Nw w W
  mn : w.heap.size ≤ mb
  new : ∀ k, F k → w.heap.size ≤ k
theorem BA.step {w W W' : World} {o mb po n k : Nat} {l : List Hp} {L : List Bool} {F : Nat → Prop} (h : BA w W o mb po n k l L F) (g : Nw W W') : BA w W' o mb po n k l L F := ⟨h.db.nw g, h.inv, h.nw.trans g, h.mn, h.new⟩
theorem BA.to {w W W' : World} {o mb po n k : Nat} {l l' : List Hp} {L L' : List Bool} {F : Nat → Prop} (h : BA w W o mb po n k l L F) (d : DbTo W o mb po n F l W' l' L') (b : BInv n (k + 1) (hsP l') L') : ∃ F', BA w W' o mb po n (k + 1) l' L' F' := by
  obtain ⟨F', h1, h2, h3, _⟩ := d
  exact ⟨F', h1, b, nw_tch h.nw h3 (fun i e => e.elim (fun e => e ▸ h.mn) (h.new i)), h.mn, fun i e => (h2 i e).elim (h.new i) (fun q => Nat.le_trans h.nw.sz q)⟩
/-- What a call leaves. -/
def BaTo (w : World) (o mb po n k : Nat) (hs : List Hq) (L : List Bool) (W : World) : Prop := ∃ l F, hsP l = hs ∧ BA w W o mb po n k l L F
section
variable {w W : World} {o mb po n k : Nat} {l : List Hp} {L : List Bool} {F : Nat → Prop}
theorem BA.toB (h : BA w W o mb po n k l L F) : BaTo w o mb po n k (hsP l) L W := ⟨l, F, rfl, h⟩
theorem ba_ask (h : BA w W o mb po n k l L F) (hk : k ≤ 800) (hn : n ≤ 64) (t r txn m : Int) (wa : wfN (t, r)) (i : Int) (g : Bool) (E : Int) (hR : askBR n (hsP l) L t r txn m = (i, g, E)) :
    Calls Tryz.prog 28 #[.pointer (some ⟨o, 0, none⟩), .agg #[.int .i64 t, .int .i64 r], .int .i64 txn, .int .i64 m] W fun e W' => e = .returned (.tuple #[.int .i64 i, .bool g, .int .i64 E]) ∧ BaTo w o mb po n (k + 1) (askBS n (hsP l) L t r txn m).1 (askBS n (hsP l) L t r txn m).2 W' := by
  refine (ask_d h.db h.inv hk hn t r txn m wa).mono ?_
  rintro e W' ⟨h1, l', h2, h3⟩
  rw [hR] at h1
  obtain ⟨F', h4⟩ := h.to h3 (by rw [h2]; exact binv_ask h.inv (by omega) t r txn m)
  exact ⟨h1, l', F', h2, h4⟩
theorem ba_askT (h : BA w W o mb po n k l L F) (hk : k ≤ 800) (hn : n ≤ 64) (t r txn m : Int) (wa : wfN (t, r)) (i : Int) (g : Bool) (E : Int) (hR : askBR n (hsP l) L t r txn m = (i, g, E)) :
    Calls Tryz.prog 28 #[.pointer (some ⟨o, 0, none⟩), .agg #[.int .i64 t, .int .i64 r], .int .i64 txn, .int .i64 m] W fun e W' => e = .returned (.tuple #[.int .i64 i, .bool g, .int .i64 E]) ∧ Tch (fun b => b = mb ∨ F b) W W' ∧ BaTo w o mb po n (k + 1) (askBS n (hsP l) L t r txn m).1 (askBS n (hsP l) L t r txn m).2 W' := by
  refine (ask_d h.db h.inv hk hn t r txn m wa).mono ?_
  rintro e W' ⟨h1, l', h2, h3⟩
  rw [hR] at h1
  obtain ⟨F', h4⟩ := h.to h3 (by rw [h2]; exact binv_ask h.inv (by omega) t r txn m)
  obtain ⟨_, _, _, h5, _⟩ := h3
  exact ⟨h1, h5, l', F', h2, h4⟩
theorem BA.low (h : BA w W o mb po n k l L F) : mb < W.heap.size ∧ ∀ k, F k → k < W.heap.size := ⟨h.db.map.lt, h.db.pol.own⟩
theorem ba_most (h : BA w W o mb po n k l L F) (K : Nat) (hR : L.length = K) : Calls Tryz.prog 30 #[.pointer (some ⟨po, 0, none⟩)] W fun e W' => e = .returned (.int .i64 K) ∧ W = W' := by
  subst hR
  obtain ⟨g, v, l, hp, _⟩ := h.db.pol
  exact most_at hp
theorem ba_upgrade (h : BA w W o mb po n k l L F) (hk : k ≤ 800) (hn : n ≤ 64) (id m : Int) (g : Bool) (E : Int) (hG : upBG (hsP l) id m = g) (hE : upBE (hsP l) id m = E) :
    Calls Tryz.prog 36 #[.pointer (some ⟨o, 0, none⟩), .int .i64 id, .int .i64 m] W fun e W' => e = .returned (.tuple #[.bool g, .int .i64 E]) ∧ BaTo w o mb po n (k + 1) (upBS (hsP l) id m) L W' := by
  refine (upgrade_d h.db h.inv hk hn id m).mono ?_
  rintro e W' ⟨h1, l', h2, h3⟩
  rw [hG, hE] at h1
  obtain ⟨F', h4⟩ := h.to h3 (by rw [h2]; exact binv_up h.inv (by omega) id m)
  exact ⟨h1, l', F', h2, h4⟩
theorem ba_leave (h : BA w W o mb po n k l L F) (hk : k ≤ 800) (hn : n ≤ 64) (id E : Int) (hE : (lvBR (hsP l) id).2 = E) :
    Calls Tryz.prog 31 #[.pointer (some ⟨o, 0, none⟩), .int .i64 id] W fun e W' => ∃ vi, e = .returned (.tuple #[vi, .int .i64 E]) ∧ IS W' vi (lvBR (hsP l) id).1 ∧ BaTo w o mb po n (k + 1) (lvBS (hsP l) L id).1 (lvBS (hsP l) L id).2 W' := by
  refine (leave_d h.db h.inv hk hn id).mono ?_
  rintro e W' ⟨vi, l', h1, h0, h2, h3, _⟩
  rw [hE] at h1
  obtain ⟨F', h4⟩ := h.to h3 (by rw [h2]; exact binv_lv h.inv id)
  exact ⟨vi, h1, h0, l', F', h2, h4⟩
theorem ba_abandon (h : BA w W o mb po n k l L F) (hk : k ≤ 800) (hn : n ≤ 64) (id E : Int) (hE : (abBR (hsP l) id).2 = E) :
    Calls Tryz.prog 40 #[.pointer (some ⟨o, 0, none⟩), .int .i64 id] W fun e W' => ∃ vi, e = .returned (.tuple #[vi, .int .i64 E]) ∧ IS W' vi (abBR (hsP l) id).1 ∧ BaTo w o mb po n (k + 1) (abBS (hsP l) L id).1 (abBS (hsP l) L id).2 W' := by
  refine (abandon_d h.db h.inv hk hn id).mono ?_
  rintro e W' ⟨vi, l', h1, h0, h2, h3, _⟩
  rw [hE] at h1
  obtain ⟨F', h4⟩ := h.to h3 (by rw [h2]; exact binv_ab h.inv id)
  exact ⟨vi, h1, h0, l', F', h2, h4⟩
theorem ba_hand (h : BA w W o mb po n k l L F) (hk : k ≤ 800) (hn : n ≤ 64) (id a E : Int) (hE : hnBE (hsP l) id a = E) :
    Calls Tryz.prog 32 #[.pointer (some ⟨o, 0, none⟩), .int .i64 id, .int .i64 a] W fun e W' => e = .returned (.int .i64 E) ∧ BaTo w o mb po n (k + 1) (hnBS (hsP l) id a) L W' := by
  refine (hand_d h.db h.inv hk hn id a).mono ?_
  rintro e W' ⟨h1, l', h2, h3⟩
  rw [hE] at h1
  obtain ⟨F', h4⟩ := h.to h3 (by rw [h2]; exact binv_hn h.inv id a)
  exact ⟨h1, l', F', h2, h4⟩
theorem ba_get (h : BA w W o mb po n k l L F) (id t r b0 b1 b2 b3 b4 : Int) (y : Bool) (hR : getBD (hsP l) id = (t, r, ⟨b0, b1, b2, b3, b4⟩, y)) :
    Calls Tryz.prog 20 #[.pointer (some ⟨o, 0, none⟩), .int .i64 id] W fun e W' => e = .returned (.tuple #[.agg #[.int .i64 t, .int .i64 r], .agg #[.int .i64 b0, .int .i64 b1, .int .i64 b2, .int .i64 b3, .int .i64 b4], .bool y]) ∧ Nw W W' := by
  have := get_d h.db (fun x hx => (h.db.ok x hx).len) id
  rw [hR] at this
  exact this
theorem ba_find (h : BA w W o mb po n k l L F) (t r txn : Int) (wa : wfN (t, r)) (i : Int) (y : Bool) (hR : findB (hsP l) t r txn = (i, y)) :
    Calls Tryz.prog 22 #[.pointer (some ⟨o, 0, none⟩), .agg #[.int .i64 t, .int .i64 r], .int .i64 txn] W fun e W' => e = .returned (.tuple #[.int .i64 i, .bool y]) ∧ Nw W W' := by
  have := find_d h.db (fun x hx => (h.db.ok x hx).len) t r txn wa
  rw [hR] at this
  exact this
theorem ba_heads (h : BA w W o mb po n k l L F) : Calls Tryz.prog 14 #[.pointer (some ⟨o, 0, none⟩)] W (HdPost W (hsP l)) := heads_d h.db
theorem ba_live (h : BA w W o mb po n k l L F) (K : Nat) (hR : liv L = K) : Calls Tryz.prog 18 #[.pointer (some ⟨po, 0, none⟩)] W fun e W' => e = .returned (.int .i64 K) ∧ Nw W W' := by
  subst hR
  obtain ⟨g, v, l, hp, _⟩ := h.db.pol
  exact live_at hp
end
/-- Heads stay where their blocks do. -/
theorem HdsAt.keep {w w' : World} {o : Nat} {v : Value} {hs : List Hq} (h : HdsAt w o v hs) (hk : ∀ k, o < k → k < w.heap.size → w'.heap[k]? = w.heap[k]?) : HdsAt w' o v hs := by
  obtain ⟨lm, h1, h2, h3⟩ := h
  refine ⟨lm, ⟨h1.1, ?_⟩, h2, fun x hx => (h3 x hx).blk fun b j z e hq hc => ⟨hk _ (by have := (h3 x hx).new b _ _ (by unfold hmV; rw [e]); omega) (World.block_lt_of_cell? _ ⟨b.block, j, none⟩ hc), (h3 x hx).off b e hq⟩⟩
  have hge : ∀ g, v.ownBlock = some g → o + 1 ≤ g ∧ g < w.heap.size := fun g e => ⟨oge h1 e, olt h1 e⟩
  rcases h1.2 with h0 | ⟨g, cap, cur, rfl, hb, hg, rest⟩
  · exact .inl h0
  · have := hge g rfl
    exact .inr ⟨g, cap, cur, rfl, hb, (hk g (by omega) this.2).trans hg, rest⟩
/-- What made gives. -/
def MadeD (w W : World) (n N : Nat) (e : Ending) (W' : World) : Prop := ∃ o mb po F, e = .returned (.tuple #[.pointer (some ⟨o, 0, none⟩), .pointer (some ⟨po, 0, none⟩), .bool true]) ∧ BA w W' o mb po n 0 [] (List.replicate N false) F
set_option maxHeartbeats 1000000 in
theorem made_d (w W : World) (g0 : Nw w W) (n N : Nat) (h1 : 1 ≤ n) (h2 : n ≤ 64) (hN : N ≤ 128) : Calls Tryz.prog 9 #[.int .i64 n, .int .i64 N] W (MadeD w W n N) := by
  have HP := Lib.hid (pnew_any N hN W)
  have HG := Lib.hid (And.intro h1 (And.intro h2 g0))
  clear h1 h2 hN g0
  go_enter Tryz.func9, Tryz.ntmps9
  go_wp2_with fail
  refine HP.out.mono ?_
  rintro e w1 ⟨po, F, rfl, hp, g1, hF⟩
  have HN := Lib.hid (new_d hp n HG.out.1 HG.out.2.1)
  have HI := Lib.hid (And.intro hp (And.intro g1 hF))
  clear hp g1 hF HP
  go_wp2_with fail
  refine HN.out.mono ?_
  rintro e w2 ⟨o, mb, rfl, hd, g2, ho, hm⟩
  have HE : Hid (MadeD w W n N (.returned (.tuple #[.pointer (some ⟨o, 0, none⟩), .pointer (some ⟨po, 0, none⟩), .bool true])) w2) :=
    ⟨o, mb, po, F, rfl, hd, binv_nil n N, HG.out.2.2.trans (HI.out.2.1.trans g2), Nat.le_trans HG.out.2.2.sz (Nat.le_trans HI.out.2.1.sz hm), fun k e => Nat.le_trans HG.out.2.2.sz (HI.out.2.2 k e)⟩
  clear hd g2 ho hm HN HI HG
  go_wp2_with fail
  exact bodyPost_ret (v := .tuple #[.pointer (some ⟨o, 0, none⟩), .pointer (some ⟨po, 0, none⟩), .bool true]) (by simp [results, Tryz.results9, go_sem, *]) rfl HE.out
theorem kit_T (t : Int) (w : World) : Calls Tryz.prog 33 #[.int .i64 t] w fun e w' => e = .returned (.agg #[.int .i64 t, .int .i64 (-1)]) ∧ Nw w w' := by
  go_enter Tryz.func33, Tryz.ntmps33
  go_wp2
  exact bodyPost_ret (v := .agg #[.int .i64 t, .int .i64 (-1)]) (by simp [results, Tryz.results33, go_sem, *]) rfl ⟨rfl, (Nw.refl w).alloc _⟩
theorem lives_a1 : askBR 1 [] (List.replicate 4 false) 0 (-1) 1 6 = (0, true, 0) := by decide +kernel
theorem lives_s1 : askBS 1 [] (List.replicate 4 false) 0 (-1) 1 6 = ([⟨0, -1, 0, [⟨0, 1, 6, 6, 0⟩]⟩], [true, false, false, false]) := by kernel_rfl
theorem lives_a2 : askBR 1 [⟨0, -1, 0, [⟨0, 1, 6, 6, 0⟩]⟩] [true, false, false, false] 1 (-1) 1 6 = (0, false, 8) := by decide +kernel
theorem wf_T0 : wfN (0, -1) := ⟨by decide +kernel, by decide +kernel⟩
theorem wf_T1 : wfN (1, -1) := ⟨by decide +kernel, by decide +kernel⟩
set_option maxHeartbeats 1000000 in
theorem lives_b (W : World) : Calls Tryz.prog 7 #[] W fun e w' => e = .returned (.bool true) ∧ Nw W w' := by
  have HM := Lib.hid (made_d W W (Nw.refl W) 1 4 (by omega) (by omega) (by omega))
  go_enter Tryz.func7, Tryz.ntmps7
  go_wp2_with fail
  refine HM.out.mono ?_
  rintro e w1 ⟨o, mb, po, F, rfl, hb⟩
  have HB := Lib.hid hb
  clear hb HM
  go_wp2_with fail
  refine (kit_T 0 w1).mono ?_
  rintro e w2 ⟨rfl, g2⟩
  have HB2 := Lib.hid (HB.out.step g2)
  clear g2 HB
  go_wp2_with fail
  refine (ba_ask HB2.out (by omega) (by omega) 0 (-1) 1 6 wf_T0 0 true 0 lives_a1).mono ?_
  rintro e w3 ⟨rfl, hb⟩
  have HB3 := Lib.hid hb
  clear hb HB2
  go_wp2_with fail
  refine (kit_T 1 w3).mono ?_
  rintro e w4 ⟨rfl, g2⟩
  obtain ⟨l, F', hl, hb⟩ := HB3.out
  have hL : (askBS 1 (hsP []) (List.replicate 4 false) 0 (-1) 1 6) = ([⟨0, -1, 0, [⟨0, 1, 6, 6, 0⟩]⟩], [true, false, false, false]) := lives_s1
  rw [hL] at hl hb
  simp only at hl hb
  have HB4 := Lib.hid (ba_ask (hb.step g2) (by omega) (by omega) 1 (-1) 1 6 wf_T1 0 false 8 (by rw [hl]; exact lives_a2))
  clear g2 hb hl hL HB3
  go_wp2_with fail
  refine HB4.out.mono ?_
  rintro e w5 ⟨rfl, l2, F2, _, hb⟩
  have HG := Lib.hid hb.nw
  clear hb HB4
  go_wp2_with fail
  go_ret
  exact ⟨rfl, HG.out⟩
/-- A call of the law's: six numbers. -/
def actV (a : Nat → Int) : Value := .agg #[.int .i64 (a 0), .int .i64 (a 1), .int .i64 (a 2), .int .i64 (a 3), .int .i64 (a 4), .int .i64 (a 5)]
/-- After some calls. -/
def BaS (w : World) (o mb po n k : Nat) (W : World) : Prop := ∃ l L F, BA w W o mb po n k l L F
theorem BaTo.some {w W : World} {o mb po n k : Nat} {hs : List Hq} {L : List Bool} (h : BaTo w o mb po n k hs L W) : BaS w o mb po n k W := by
  obtain ⟨l, F, _, h⟩ := h
  exact ⟨l, L, F, h⟩
set_option maxHeartbeats 4000000 in
theorem call_b {w W : World} {o mb po n k : Nat} (h : BaS w o mb po n k W) (hk : k ≤ 800) (hn : n ≤ 64) (a0 a1 a2 a3 a4 a5 : Int) (wa : wfN (a1, a2)) :
    Calls Tryz.prog 24 #[.pointer (some ⟨o, 0, none⟩), .agg #[.int .i64 a0, .int .i64 a1, .int .i64 a2, .int .i64 a3, .int .i64 a4, .int .i64 a5]] W fun e W' => (∃ v, e = .returned v) ∧ BaS w o mb po n (k + 1) W' := by
  obtain ⟨l, L, F, h⟩ := h
  have g1 : Nw W (W.alloc (.cells #[.int .i64 a0, .int .i64 a1, .int .i64 a2, .int .i64 a3, .int .i64 a4, .int .i64 a5] 41)) := (Nw.refl W).alloc _
  have hal := allocAt W (.cells #[.int .i64 a0, .int .i64 a1, .int .i64 a2, .int .i64 a3, .int .i64 a4, .int .i64 a5] 41)
  obtain ⟨z, hz⟩ : ∃ z, W.alloc (.cells #[.int .i64 a0, .int .i64 a1, .int .i64 a2, .int .i64 a3, .int .i64 a4, .int .i64 a5] 41) = z := ⟨_, rfl⟩
  rw [hz] at g1 hal
  have HZ := Lib.hid hz
  have H := Lib.hid (h.step g1)
  obtain ⟨⟨i, g, E⟩, hA⟩ : ∃ q, askBR n (hsP l) L a1 a2 a4 a5 = q := ⟨_, rfl⟩
  have HA := Lib.hid (ba_ask H.out hk hn a1 a2 a4 a5 wa i g E hA)
  have HU := Lib.hid (ba_upgrade H.out hk hn a3 a5 _ _ rfl rfl)
  have HL := Lib.hid (ba_leave H.out hk hn a3 _ rfl)
  have HB := Lib.hid (ba_abandon H.out hk hn a3 _ rfl)
  have HH := Lib.hid (ba_hand H.out hk hn a3 a4 _ rfl)
  have c0 := hcell (j := 0) hal
  have c1 := hcell (j := 1) hal
  have c2 := hcell (j := 2) hal
  have c3 := hcell (j := 3) hal
  have c4 := hcell (j := 4) hal
  have c5 := hcell (j := 5) hal
  have cl := hlt hal
  have HP := Lib.hid (pick_any a0 6 z (by omega) (by omega))
  obtain ⟨x, hx⟩ : ∃ x, a0 % 6 = x := ⟨_, rfl⟩
  rw [hx] at HP
  clear hz g1 hal h hA wa hx hk hn
  generalize upBG (hsP l) a3 a5 = ug at *
  generalize upBE (hsP l) a3 a5 = ue at *
  generalize (lvBR (hsP l) a3).2 = le at *
  generalize (abBR (hsP l) a3).2 = ae at *
  generalize hnBE (hsP l) a3 a4 = he at *
  obtain ⟨d2, e2⟩ : ∃ d, (x == 2) = d := ⟨_, rfl⟩
  obtain ⟨d3, e3⟩ : ∃ d, (x == 3) = d := ⟨_, rfl⟩
  obtain ⟨d4, e4⟩ : ∃ d, (x == 4) = d := ⟨_, rfl⟩
  obtain ⟨d5, e5⟩ : ∃ d, (x == 5) = d := ⟨_, rfl⟩
  go_enter Tryz.func24, Tryz.ntmps24
  go_wp2_with fail
  rw [HZ.out]
  refine HP.out.mono ?_
  rintro e z' ⟨rfl, rfl⟩
  cases d2
  · cases d3
    · cases d4
      · cases d5
        · go_wp2_with fail
          refine HA.out.mono ?_
          rintro e y ⟨rfl, hb⟩
          have HE := Lib.hid hb.some
          clear hb HA HU HL HB HH H HP HZ
          go_wp2
          exact bodyPost_end (results_none rfl _ _ _) rfl ⟨⟨_, rfl⟩, HE.out⟩
        · go_wp2_with fail
          refine HH.out.mono ?_
          rintro e y ⟨rfl, hb⟩
          have HE := Lib.hid hb.some
          clear hb HA HU HL HB HH H HP HZ
          go_wp2
          exact bodyPost_end (results_none rfl _ _ _) rfl ⟨⟨_, rfl⟩, HE.out⟩
      · go_wp2_with fail
        refine HB.out.mono ?_
        rintro e y ⟨vi, rfl, _, hb⟩
        have HE := Lib.hid hb.some
        clear hb HA HU HL HB HH H HP HZ
        go_wp2
        exact bodyPost_end (results_none rfl _ _ _) rfl ⟨⟨_, rfl⟩, HE.out⟩
    · go_wp2_with fail
      refine HL.out.mono ?_
      rintro e y ⟨vi, rfl, _, hb⟩
      have HE := Lib.hid hb.some
      clear hb HA HU HL HB HH H HP HZ
      go_wp2
      exact bodyPost_end (results_none rfl _ _ _) rfl ⟨⟨_, rfl⟩, HE.out⟩
  · go_wp2_with fail
    refine HU.out.mono ?_
    rintro e y ⟨rfl, hb⟩
    have HE := Lib.hid hb.some
    clear hb HA HU HL HB HH H HP HZ
    go_wp2
    exact bodyPost_end (results_none rfl _ _ _) rfl ⟨⟨_, rfl⟩, HE.out⟩
end Go.Proofs.YtodnlelnpidliaaGreat
end

/- Law 9: empty, lives; the kit's LightHeads. -/
section
namespace Go.Proofs.YtodnlelnpidliaaGreat
open Go.RowKit
set_option linter.unusedVariables false      -- a contract need not use every name

theorem stOk_small (q : List Rq) (h : q.length ≤ 20) : StOk (tC q) (wpl q q.length) := stOk_20 _ _ (Nat.le_trans (wpl_len q _) h)
/-- A head in a box. -/
def HB (w : World) (B : Nat) (t r : Int) (v : Value) (W : Int) : Prop := w.heap[B]? = some (.cells #[.int .i64 t, .int .i64 r, v, .int .i64 W] 56)
abbrev filld (w : World) (B : Nat) (u0 u1 u2 u3 : Value) : World := (((w.setCell ⟨B, 0, none⟩ u0).setCell ⟨B, 1, none⟩ u1).setCell ⟨B, 2, none⟩ u2).setCell ⟨B, 3, none⟩ u3
theorem HB.fill {w : World} {B : Nat} {t r W : Int} {v : Value} (h : HB w B t r v W) (t' r' W' : Int) (v' : Value) : HB (filld w B (.int .i64 t') (.int .i64 r') v' (.int .i64 W')) B t' r' v' W' :=
  hset (j := 3) _ (hset (j := 2) _ (hset (j := 1) _ (hset (j := 0) _ h)))
theorem HB.made (w : World) (t r : Int) (v : Value) (W : Int) : HB (w.alloc (.cells #[.int .i64 t, .int .i64 r, v, .int .i64 W] 56)) w.heap.size t r v W := allocAt w _
theorem HB.nw {w w' : World} {B : Nat} {t r W : Int} {v : Value} (h : HB w B t r v W) (g : Nw w w') : HB w' B t r v W := g.at' h
/-- A result stored in a box that is older. -/
theorem is_one (w : World) (x : Int) : IS (w.alloc (.cells #[.int .i64 x] 3)) (.slice (some ⟨w.heap.size, 0, none⟩) 1 1) [x] := by
  have h := World.ownsRow_lit (base := 0) (size := 1) (e := 3) w #[.int .i64 x] 1 (Nat.zero_le _) (by unfold maxLen; omega) (by simp)
  unfold IS
  simpa using h
theorem rd_fill' {w0 w : World} {v : Value} {q : List Rq} (h : RqAt w v q) (hf : Fresh w0 v q) {B : Nat} (hB : B < w0.heap.size) (u0 u1 u2 u3 : Value) : RqAt (filld w B u0 u1 u2 u3) v q := rd_fill h hf hB u0 u1 u2 u3
set_option maxRecDepth 100000 in
theorem kT (x : Int) (w : World) : Calls Tryz.prog 33 #[.int .i64 x] w fun e w' => e = .returned (.agg #[.int .i64 x, .int .i64 (-1)]) ∧ Nw w w' := by
  go_enter Tryz.func33, Tryz.ntmps33
  go_wp2
  refine bodyPost_ret (v := .agg #[.int .i64 x, .int .i64 (-1)]) (by simp [results, Tryz.results33, go_sem, *]) rfl ⟨rfl, ?_⟩
  exact (Nw.refl w).alloc _
theorem lq0 : Ok 0 [] := (okQ_iff 0 []).1 (by kernel_rfl)
theorem lq1 : Ok 0 [⟨0, 1, 3, 3, 0⟩] := (okQ_iff 0 [⟨0, 1, 3, 3, 0⟩]).1 (by kernel_rfl)
theorem lq2 : Ok 1 [⟨0, 1, 3, 3, 0⟩, ⟨1, 2, 0, 6, 1⟩] := (okQ_iff 1 [⟨0, 1, 3, 3, 0⟩, ⟨1, 2, 0, 6, 1⟩]).1 (by kernel_rfl)
theorem lq3 : Ok 2 [⟨0, 1, 3, 3, 0⟩, ⟨1, 2, 0, 6, 1⟩, ⟨2, 3, 0, 3, 2⟩] := (okQ_iff 2 [⟨0, 1, 3, 3, 0⟩, ⟨1, 2, 0, 6, 1⟩, ⟨2, 3, 0, 3, 2⟩]).1 (by kernel_rfl)
theorem lq4 : Ok 2 [⟨1, 2, 0, 6, 1⟩, ⟨2, 3, 0, 3, 2⟩] := (okQ_iff 2 [⟨1, 2, 0, 6, 1⟩, ⟨2, 3, 0, 3, 2⟩]).1 (by kernel_rfl)
theorem la0 : askR ⟨0, -1, 0, []⟩ 0 1 3 = (⟨0, -1, 0, [⟨0, 1, 3, 3, 0⟩]⟩, true, 0) := by kernel_rfl
theorem la1 : askR ⟨0, -1, 0, [⟨0, 1, 3, 3, 0⟩]⟩ 1 2 6 = (⟨0, -1, 1, [⟨0, 1, 3, 3, 0⟩, ⟨1, 2, 0, 6, 1⟩]⟩, false, 0) := by kernel_rfl
theorem la2 : askR ⟨0, -1, 1, [⟨0, 1, 3, 3, 0⟩, ⟨1, 2, 0, 6, 1⟩]⟩ 2 3 3 = (⟨0, -1, 2, [⟨0, 1, 3, 3, 0⟩, ⟨1, 2, 0, 6, 1⟩, ⟨2, 3, 0, 3, 2⟩]⟩, false, 0) := by kernel_rfl
theorem ll3 : lvR ⟨0, -1, 2, [⟨0, 1, 3, 3, 0⟩, ⟨1, 2, 0, 6, 1⟩, ⟨2, 3, 0, 3, 2⟩]⟩ 0 = (⟨0, -1, 2, [⟨1, 2, 0, 6, 1⟩, ⟨2, 3, 0, 3, 2⟩]⟩, 0) := by kernel_rfl
theorem ls4 : scanQ [⟨1, 2, 0, 6, 1⟩, ⟨2, 3, 0, 3, 2⟩] = ([1], [⟨1, 2, 6, 6, 0⟩, ⟨2, 3, 0, 3, 2⟩]) := by kernel_rfl
theorem lm5 : mdQ [⟨1, 2, 6, 6, 0⟩, ⟨2, 3, 0, 3, 2⟩] 2 = 6 ∧ mdQ [⟨1, 2, 6, 6, 0⟩, ⟨2, 3, 0, 3, 2⟩] 3 = 0 := ⟨by kernel_rfl, by kernel_rfl⟩
end Go.Proofs.YtodnlelnpidliaaGreat
end

/- Arguments: a request, a slice of requests, a head; the kit's LightHeads. -/
section
namespace Go.Proofs.YtodnlelnpidliaaGreat
open Go.ChangeShapes Go.WideShapes Go.ChangeAt Go.RowKit Go.Deep
set_option linter.unusedVariables false

theorem list_of {α : Type} {n : Nat} {Q : Nat → α → Prop} (h : ∀ i, i < n → ∃ x, Q i x) : ∃ l : List α, l.length = n ∧ ∀ i (hi : i < l.length), Q i l[i] := by
  induction n with
  | zero => exact ⟨[], rfl, fun i hi => by simp at hi⟩
  | succ n ih =>
    obtain ⟨l, hl, hq⟩ := ih fun i hi => h i (by omega)
    obtain ⟨x, hx⟩ := h n (by omega)
    refine ⟨l ++ [x], by simp [hl], fun i hi => ?_⟩
    rw [List.length_append, List.length_singleton] at hi
    by_cases q : i < l.length
    · rw [List.getElem_append_left q]; exact hq i q
    · have : i = n := by omega
      subst this
      rw [List.getElem_append_right (by omega)]
      simpa using hx
theorem len4 {cs : List Value} (h : cs.length = 4) : ∃ v0 v1 v2 v3, cs = [v0, v1, v2, v3] := by
  match cs, h with
  | [v0, v1, v2, v3], _ => exact ⟨v0, v1, v2, v3, rfl⟩
theorem len5 {cs : List Value} (h : cs.length = 5) : ∃ v0 v1 v2 v3 v4, cs = [v0, v1, v2, v3, v4] := by
  match cs, h with
  | [v0, v1, v2, v3, v4], _ => exact ⟨v0, v1, v2, v3, v4, rfl⟩
theorem cellsI : Tryz.prog.cellsOf 3 = 1 := by kernel_rfl
theorem cellsMode : Tryz.prog.cellsOf 39 = 1 := by kernel_rfl
theorem cellsNm : Tryz.prog.cellsOf 38 = 2 := by kernel_rfl
theorem cellsRq : Tryz.prog.cellsOf 47 = 5 := by kernel_rfl
theorem cellsSl : Tryz.prog.cellsOf 54 = 1 := by kernel_rfl
theorem cellsHd : Tryz.prog.cellsOf 56 = 4 := by kernel_rfl
section
variable {H : Type} {enc : TypeId × Value → H} {w : World} {base : Nat} {spare : Nat → Bool} {held : Bool}
theorem some_of {α : Type} {xs : List α} {i : Nat} (h : i < xs.length) : ∃ y, xs[i]? = some y := ⟨_, List.getElem?_eq_getElem h⟩
/-- All the numbers of a request are such as an int holds. -/
def FitU (R : Rq) : Prop := (-9223372036854775808 ≤ R.id ∧ R.id ≤ 9223372036854775807) ∧ (-9223372036854775808 ≤ R.txn ∧ R.txn ≤ 9223372036854775807) ∧ (-9223372036854775808 ≤ R.sn ∧ R.sn ≤ 9223372036854775807)
theorem of_wf {n : Int} (h : (Lit.int .i64 n).wf = true) : -9223372036854775808 ≤ n ∧ n ≤ 9223372036854775807 := by
  simp [Lit.wf, IntKind.min, IntKind.max, IntKind.signed, IntKind.bits] at h
  omega
theorem open_rq {fuel : Nat} {cs : List Value} {x : DataW H × List MemPlace} (h : DataW.trod enc Tryz.prog w base spare held fuel 47 cs = some x) : ∃ R : Rq, cs = rqrow R ∧ FitU R := by
  obtain ⟨xs, n, _, _, hl, hxl, hf⟩ := DataW.trod_struct Tryz.underlying47 h
  rw [cellsRq] at hl
  obtain ⟨v0, v1, v2, v3, v4, rfl⟩ := len5 hl
  have f0 : DataW.trod enc Tryz.prog w base spare held n 3 (([v0, v1, v2, v3, v4].drop 0).take (Tryz.prog.cellsOf 3)) = xs[0]? := hf 0 _ rfl
  have f1 : DataW.trod enc Tryz.prog w base spare held n 3 (([v0, v1, v2, v3, v4].drop 1).take (Tryz.prog.cellsOf 3)) = xs[1]? := hf 1 _ rfl
  have f2 : DataW.trod enc Tryz.prog w base spare held n 39 (([v0, v1, v2, v3, v4].drop 2).take (Tryz.prog.cellsOf 39)) = xs[2]? := hf 2 _ rfl
  have f3 : DataW.trod enc Tryz.prog w base spare held n 39 (([v0, v1, v2, v3, v4].drop 3).take (Tryz.prog.cellsOf 39)) = xs[3]? := hf 3 _ rfl
  have f4 : DataW.trod enc Tryz.prog w base spare held n 3 (([v0, v1, v2, v3, v4].drop 4).take (Tryz.prog.cellsOf 3)) = xs[4]? := hf 4 _ rfl
  simp at hxl
  obtain ⟨y0, e0⟩ := some_of (xs := xs) (i := 0) (by omega)
  obtain ⟨y1, e1⟩ := some_of (xs := xs) (i := 1) (by omega)
  obtain ⟨y2, e2⟩ := some_of (xs := xs) (i := 2) (by omega)
  obtain ⟨y3, e3⟩ := some_of (xs := xs) (i := 3) (by omega)
  obtain ⟨y4, e4⟩ := some_of (xs := xs) (i := 4) (by omega)
  rw [e0] at f0
  rw [e1] at f1
  rw [e2] at f2
  rw [e3] at f3
  rw [e4] at f4
  simp only [cellsI, cellsMode, List.drop_succ_cons, List.drop_zero, List.take_succ_cons, List.take_zero] at f0 f1 f2 f3 f4
  obtain ⟨a0, q0, _, u0⟩ := DataW.trod_int Tryz.underlying3 f0
  obtain ⟨a1, q1, _, u1⟩ := DataW.trod_int Tryz.underlying3 f1
  obtain ⟨a2, q2, _, u2⟩ := DataW.trod_int Tryz.underlying39 f2
  obtain ⟨a3, q3, _, u3⟩ := DataW.trod_int Tryz.underlying39 f3
  obtain ⟨a4, q4, _, u4⟩ := DataW.trod_int Tryz.underlying3 f4
  obtain rfl := (List.cons.inj q0).1
  obtain rfl := (List.cons.inj q1).1
  obtain rfl := (List.cons.inj q2).1
  obtain rfl := (List.cons.inj q3).1
  obtain rfl := (List.cons.inj q4).1
  exact ⟨⟨a0, a1, a2, a3, a4⟩, rfl, of_wf u0, of_wf u1, of_wf u4⟩
theorem open_rqs {fuel : Nat} {v : Value} {x : DataW H × List MemPlace} (h : DataW.trod enc Tryz.prog w base spare held fuel 54 [v] = some x) : ∃ l, RqAt w v l ∧ capOk v ∧ ∀ R ∈ l, FitU R := by
  rcases open_slice Tryz.underlying54 h with ⟨hcs, _⟩ | ⟨a, len, cap, m, n, D, Pl, hcs, _, hl, hm, hmm, _, hi⟩
  · simp only [List.cons.injEq, and_true] at hcs
    subst hcs
    exact ⟨[], Rd.nil w, Nat.le_refl _, fun R hR => by simp at hR⟩
  · simp only [List.cons.injEq, and_true] at hcs
    subst hcs
    have hlm : len ≤ m := by rw [hmm]; split <;> omega
    have each : ∀ i, i < len → ∃ R : Rq, FitU R ∧ ∀ j u, (rqrow R)[j]? = some u → w.cell? (a.add (i * 5 + j)) = some u := by
      intro i hil
      obtain ⟨cs', hc, ht⟩ := hi i (by omega)
      rw [cellsRq] at hc
      obtain ⟨R, rfl, hF⟩ := open_rq ht
      obtain ⟨_, hcl, hat⟩ := World.cells?_some hc
      have key : ∀ j, j < 5 → w.cell? (a.add (i * 5 + j)) = (rqrow R)[j]? := fun j hj => by rw [← Go.Deep.add_add]; exact hat j hj
      refine ⟨R, hF, fun j u hj => ?_⟩
      have hj6 : j < 5 := by have := (List.getElem?_eq_some_iff.1 hj).1; simpa [rqrow] using this
      rw [key j hj6]; exact hj
    obtain ⟨l, hll, hq⟩ := list_of each
    refine ⟨l, ?_, hl, fun R hR => by obtain ⟨i, hi, rfl⟩ := List.getElem_of_mem hR; exact (hq i (by omega)).1⟩
    subst hll
    rcases Nat.eq_zero_or_pos l.length with h0 | h0
    · obtain rfl := List.length_eq_zero_iff.1 h0
      exact ⟨some a, cap, rfl, .inl ⟨rfl, fun e => by cases e⟩⟩
    · have hu := (hq 0 h0).2 0 _ rfl
      obtain ⟨b, o, spot⟩ := a
      have hs : spot = none := by simpa [Addr.add] using World.cell?_spot hu
      subst hs
      refine ⟨some ⟨b, o, none⟩, cap, rfl, .inr ⟨b, o, rfl, ⟨?_, fun i hi c u hu => ?_⟩⟩⟩
      · rw [Addr.add_lit] at hu
        exact World.block_lt_of_cell? _ _ hu
      · have := (hq i hi).2 c u hu
        rw [Addr.add_lit, ← Nat.add_assoc] at this
        exact this
set_option maxRecDepth 100000 in
/-- A head that is handed in. -/
theorem open_headF {v : Value} {d : DataW H} {p : List MemPlace} {r : Reach} {b0 : Nat} (hv : Value.okWide Tryz.prog w r b0 56 v) (h : DataW.Trod enc Tryz.prog w base spare held 56 v d p) :
    ∃ (t r W : Int) (vq : Value) (q : List Rq), v = hdV t r vq W ∧ RqAt w vq q ∧ capOk vq ∧ ∀ R ∈ q, FitU R := by
  obtain ⟨cs, rfl, hsz⟩ := okWide_struct Tryz.underlying56 hv
  rw [cellsHd] at hsz
  obtain ⟨fuel, hf⟩ := h
  obtain ⟨xs, n, _, _, hl, hxl, hf⟩ := DataW.trod_struct Tryz.underlying56 hf
  obtain ⟨l⟩ := cs
  simp only [Value.cells] at hl hf
  obtain ⟨v0, v1, v2, v3, rfl⟩ := len4 hsz
  have f0 : DataW.trod enc Tryz.prog w base spare held n 38 (([v0, v1, v2, v3].drop 0).take (Tryz.prog.cellsOf 38)) = xs[0]? := hf 0 _ rfl
  have f1 : DataW.trod enc Tryz.prog w base spare held n 54 (([v0, v1, v2, v3].drop 2).take (Tryz.prog.cellsOf 54)) = xs[1]? := hf 1 _ rfl
  have f2 : DataW.trod enc Tryz.prog w base spare held n 3 (([v0, v1, v2, v3].drop 3).take (Tryz.prog.cellsOf 3)) = xs[2]? := hf 2 _ rfl
  simp at hxl
  obtain ⟨y0, e0⟩ := some_of (xs := xs) (i := 0) (by omega)
  obtain ⟨y1, e1⟩ := some_of (xs := xs) (i := 1) (by omega)
  obtain ⟨y2, e2⟩ := some_of (xs := xs) (i := 2) (by omega)
  rw [e0] at f0
  rw [e1] at f1
  rw [e2] at f2
  simp only [cellsI, cellsNm, cellsSl, List.drop_succ_cons, List.drop_zero, List.take_succ_cons, List.take_zero] at f0 f1 f2
  obtain ⟨q, hq, hc, hF⟩ := open_rqs f1
  obtain ⟨a3, q3, _, _⟩ := DataW.trod_int Tryz.underlying3 f2
  obtain ⟨xs', n', _, _, hl', hxl', hf'⟩ := DataW.trod_struct Tryz.underlying38 f0
  have g0 : DataW.trod enc Tryz.prog w base spare held n' 3 (([v0, v1].drop 0).take (Tryz.prog.cellsOf 3)) = xs'[0]? := hf' 0 _ rfl
  have g1 : DataW.trod enc Tryz.prog w base spare held n' 3 (([v0, v1].drop 1).take (Tryz.prog.cellsOf 3)) = xs'[1]? := hf' 1 _ rfl
  simp at hxl'
  obtain ⟨z0, r0⟩ := some_of (xs := xs') (i := 0) (by omega)
  obtain ⟨z1, r1⟩ := some_of (xs := xs') (i := 1) (by omega)
  rw [r0] at g0
  rw [r1] at g1
  simp only [cellsI, List.drop_succ_cons, List.drop_zero, List.take_succ_cons, List.take_zero] at g0 g1
  obtain ⟨a0, q0, _, _⟩ := DataW.trod_int Tryz.underlying3 g0
  obtain ⟨a1, q1, _, _⟩ := DataW.trod_int Tryz.underlying3 g1
  obtain rfl := (List.cons.inj q0).1
  obtain rfl := (List.cons.inj q1).1
  obtain rfl := (List.cons.inj q3).1
  exact ⟨a0, a1, a3, v2, q, rfl, hq, hc, hF⟩
set_option maxRecDepth 100000 in
theorem open_head {v : Value} {d : DataW H} {p : List MemPlace} {r : Reach} {b0 : Nat} (hv : Value.okWide Tryz.prog w r b0 56 v) (h : DataW.Trod enc Tryz.prog w base spare held 56 v d p) :
    ∃ (t r W : Int) (vq : Value) (q : List Rq), v = hdV t r vq W ∧ RqAt w vq q ∧ capOk vq := by
  obtain ⟨t, r, W, vq, q, h1, h2, h3, _⟩ := open_headF hv h
  exact ⟨t, r, W, vq, q, h1, h2, h3⟩
end
end Go.Proofs.YtodnlelnpidliaaGreat
end

/- The bucket laws: calls that come in. -/
section
namespace Go.Proofs.YtodnlelnpidliaaGreat
open Go.ChangeShapes Go.WideShapes Go.ChangeAt Go.RowKit Go.Deep
set_option linter.unusedVariables false

/-- A call: its kind, a name, a request, a transaction, a mode. -/
structure Cl where
  k : Int
  t : Int
  r : Int
  id : Int
  tx : Int
  md : Int
def clrow (a : Cl) : List Value := [.int .i64 a.k, .int .i64 a.t, .int .i64 a.r, .int .i64 a.id, .int .i64 a.tx, .int .i64 a.md]
def clV (a : Cl) : Value := .agg #[.int .i64 a.k, .int .i64 a.t, .int .i64 a.r, .int .i64 a.id, .int .i64 a.tx, .int .i64 a.md]
/-- Its name is of numbers that an int holds. -/
def Cl.ok (a : Cl) : Prop := (Lit.int .i64 a.t).wf = true ∧ (Lit.int .i64 a.r).wf = true
theorem len6 {cs : List Value} (h : cs.length = 6) : ∃ v0 v1 v2 v3 v4 v5, cs = [v0, v1, v2, v3, v4, v5] := by
  match cs, h with
  | [v0, v1, v2, v3, v4, v5], _ => exact ⟨v0, v1, v2, v3, v4, v5, rfl⟩
theorem cellsCl : Tryz.prog.cellsOf 41 = 6 := by kernel_rfl
section
variable {H : Type} {enc : TypeId × Value → H} {w : World} {base : Nat} {spare : Nat → Bool} {held : Bool}
theorem open_nm {fuel : Nat} {v0 v1 : Value} {x : DataW H × List MemPlace} (f0 : DataW.trod enc Tryz.prog w base spare held fuel 38 [v0, v1] = some x) : ∃ a b, v0 = .int .i64 a ∧ v1 = .int .i64 b ∧ (Lit.int .i64 a).wf = true ∧ (Lit.int .i64 b).wf = true := by
  obtain ⟨xs', n', _, _, hl', hxl', hf'⟩ := DataW.trod_struct Tryz.underlying38 f0
  have g0 : DataW.trod enc Tryz.prog w base spare held n' 3 (([v0, v1].drop 0).take (Tryz.prog.cellsOf 3)) = xs'[0]? := hf' 0 _ rfl
  have g1 : DataW.trod enc Tryz.prog w base spare held n' 3 (([v0, v1].drop 1).take (Tryz.prog.cellsOf 3)) = xs'[1]? := hf' 1 _ rfl
  simp at hxl'
  obtain ⟨z0, r0⟩ := some_of (xs := xs') (i := 0) (by omega)
  obtain ⟨z1, r1⟩ := some_of (xs := xs') (i := 1) (by omega)
  rw [r0] at g0
  rw [r1] at g1
  simp only [cellsI, List.drop_succ_cons, List.drop_zero, List.take_succ_cons, List.take_zero] at g0 g1
  obtain ⟨a0, q0, _, u0⟩ := DataW.trod_int Tryz.underlying3 g0
  obtain ⟨a1, q1, _, u1⟩ := DataW.trod_int Tryz.underlying3 g1
  exact ⟨a0, a1, (List.cons.inj q0).1, (List.cons.inj q1).1, u0, u1⟩
theorem open_cl {fuel : Nat} {cs : List Value} {x : DataW H × List MemPlace} (h : DataW.trod enc Tryz.prog w base spare held fuel 41 cs = some x) : ∃ R : Cl, cs = clrow R ∧ R.ok := by
  obtain ⟨xs, n, _, _, hl, hxl, hf⟩ := DataW.trod_struct Tryz.underlying41 h
  rw [cellsCl] at hl
  obtain ⟨v0, v1, v2, v3, v4, v5, rfl⟩ := len6 hl
  have f0 : DataW.trod enc Tryz.prog w base spare held n 3 (([v0, v1, v2, v3, v4, v5].drop 0).take (Tryz.prog.cellsOf 3)) = xs[0]? := hf 0 _ rfl
  have f1 : DataW.trod enc Tryz.prog w base spare held n 38 (([v0, v1, v2, v3, v4, v5].drop 1).take (Tryz.prog.cellsOf 38)) = xs[1]? := hf 1 _ rfl
  have f2 : DataW.trod enc Tryz.prog w base spare held n 3 (([v0, v1, v2, v3, v4, v5].drop 3).take (Tryz.prog.cellsOf 3)) = xs[2]? := hf 2 _ rfl
  have f3 : DataW.trod enc Tryz.prog w base spare held n 3 (([v0, v1, v2, v3, v4, v5].drop 4).take (Tryz.prog.cellsOf 3)) = xs[3]? := hf 3 _ rfl
  have f4 : DataW.trod enc Tryz.prog w base spare held n 39 (([v0, v1, v2, v3, v4, v5].drop 5).take (Tryz.prog.cellsOf 39)) = xs[4]? := hf 4 _ rfl
  simp at hxl
  obtain ⟨y0, e0⟩ := some_of (xs := xs) (i := 0) (by omega)
  obtain ⟨y1, e1⟩ := some_of (xs := xs) (i := 1) (by omega)
  obtain ⟨y2, e2⟩ := some_of (xs := xs) (i := 2) (by omega)
  obtain ⟨y3, e3⟩ := some_of (xs := xs) (i := 3) (by omega)
  obtain ⟨y4, e4⟩ := some_of (xs := xs) (i := 4) (by omega)
  rw [e0] at f0
  rw [e1] at f1
  rw [e2] at f2
  rw [e3] at f3
  rw [e4] at f4
  simp only [cellsI, cellsMode, cellsNm, List.drop_succ_cons, List.drop_zero, List.take_succ_cons, List.take_zero] at f0 f1 f2 f3 f4
  obtain ⟨a0, q0, _, u0⟩ := DataW.trod_int Tryz.underlying3 f0
  obtain ⟨a2, q2, _, u2⟩ := DataW.trod_int Tryz.underlying3 f2
  obtain ⟨a3, q3, _, u3⟩ := DataW.trod_int Tryz.underlying3 f3
  obtain ⟨a4, q4, _, u4⟩ := DataW.trod_int Tryz.underlying39 f4
  obtain ⟨b0, b1, rfl, rfl, w0, w1⟩ := open_nm f1
  obtain rfl := (List.cons.inj q0).1
  obtain rfl := (List.cons.inj q2).1
  obtain rfl := (List.cons.inj q3).1
  obtain rfl := (List.cons.inj q4).1
  exact ⟨⟨a0, b0, b1, a2, a3, a4⟩, rfl, w0, w1⟩
theorem open_cls {fuel : Nat} {v : Value} {x : DataW H × List MemPlace} (h : DataW.trod enc Tryz.prog w base spare held fuel 22 [v] = some x) : ∃ l, Rd 6 clrow w v l ∧ ∀ R ∈ l, Cl.ok R := by
  rcases open_slice Tryz.underlying22 h with ⟨hcs, _⟩ | ⟨a, len, cap, m, n, D, Pl, hcs, _, hl, hm, hmm, _, hi⟩
  · simp only [List.cons.injEq, and_true] at hcs
    subst hcs
    exact ⟨[], Rd.nil w, fun R hR => by simp at hR⟩
  · simp only [List.cons.injEq, and_true] at hcs
    subst hcs
    have hlm : len ≤ m := by rw [hmm]; split <;> omega
    have each : ∀ i, i < len → ∃ R : Cl, R.ok ∧ ∀ j u, (clrow R)[j]? = some u → w.cell? (a.add (i * 6 + j)) = some u := by
      intro i hil
      obtain ⟨cs', hc, ht⟩ := hi i (by omega)
      rw [cellsCl] at hc
      obtain ⟨R, rfl, hF⟩ := open_cl ht
      obtain ⟨_, hcl, hat⟩ := World.cells?_some hc
      have key : ∀ j, j < 6 → w.cell? (a.add (i * 6 + j)) = (clrow R)[j]? := fun j hj => by rw [← Go.Deep.add_add]; exact hat j hj
      refine ⟨R, hF, fun j u hj => ?_⟩
      have hj6 : j < 6 := by have := (List.getElem?_eq_some_iff.1 hj).1; simpa [clrow] using this
      rw [key j hj6]; exact hj
    obtain ⟨l, hll, hq⟩ := list_of each
    refine ⟨l, ?_, fun R hR => by obtain ⟨i, hi, rfl⟩ := List.getElem_of_mem hR; exact (hq i (by omega)).1⟩
    subst hll
    rcases Nat.eq_zero_or_pos l.length with h0 | h0
    · obtain rfl := List.length_eq_zero_iff.1 h0
      exact ⟨some a, cap, rfl, .inl ⟨rfl, fun e => by cases e⟩⟩
    · have hu := (hq 0 h0).2 0 _ rfl
      obtain ⟨b, o, spot⟩ := a
      have hs : spot = none := by simpa [Addr.add] using World.cell?_spot hu
      subst hs
      refine ⟨some ⟨b, o, none⟩, cap, rfl, .inr ⟨b, o, rfl, ⟨?_, fun i hi c u hu => ?_⟩⟩⟩
      · rw [Addr.add_lit] at hu
        exact World.block_lt_of_cell? _ _ hu
      · have := (hq i hi).2 c u hu
        rw [Addr.add_lit, ← Nat.add_assoc] at this
        exact this
set_option maxRecDepth 100000 in
/-- A call that is handed in. -/
theorem open_clv {v : Value} {d : DataW H} {p : List MemPlace} {r : Reach} {b0 : Nat} (hv : Value.okWide Tryz.prog w r b0 41 v) (h : DataW.Trod enc Tryz.prog w base spare held 41 v d p) : ∃ R : Cl, v = clV R ∧ R.ok := by
  obtain ⟨cs, rfl, hsz⟩ := okWide_struct Tryz.underlying41 hv
  obtain ⟨fuel, hf⟩ := h
  obtain ⟨l⟩ := cs
  simp only [Value.cells] at hf
  obtain ⟨R, hR, hok⟩ := open_cl hf
  exact ⟨R, by rw [hR]; rfl, hok⟩
end
end Go.Proofs.YtodnlelnpidliaaGreat
end

/- BucketHands: the walk. -/
section
namespace Go.Proofs.YtodnlelnpidliaaGreat.bucketHands
open Go.RowKit Go.Shelf
set_option linter.unusedVariables false

theorem down (a b : Nat) (h : b < a) : a - (intOf (.int .i64 ((b : Int) + 1))).toNat < a - (intOf (.int .i64 (b : Int))).toNat := by
  show a - ((b : Int) + 1).toNat < a - (b : Int).toNat
  omega
/-- What lies from o on below a world's end stays. -/
structure Keep (A : World) (o : Nat) (W : World) : Prop where
  sz : A.heap.size ≤ W.heap.size
  blk : ∀ k, o ≤ k → k < A.heap.size → W.heap[k]? = A.heap[k]?
theorem Keep.nw {A W W' : World} {o : Nat} (h : Keep A o W) (g : Nw W W') : Keep A o W' := ⟨Nat.le_trans h.sz g.sz, fun k h1 h2 => (g.block k (Nat.lt_of_lt_of_le h2 h.sz)).trans (h.blk k h1 h2)⟩
theorem Keep.tch {A W W' : World} {o : Nat} {S : Nat → Prop} (h : Keep A o W) (t : Tch S W W') (hS : ∀ k, S k → k < o ∨ A.heap.size ≤ k) : Keep A o W' :=
  ⟨Nat.le_trans h.sz t.size, fun k h1 h2 => (t.block k (Nat.lt_of_lt_of_le h2 h.sz) (fun e => by have := hS k e; omega)).trans (h.blk k h1 h2)⟩
theorem ba_handT {w W : World} {o mb po n k : Nat} {l : List Hp} {L : List Bool} {F : Nat → Prop} (h : BA w W o mb po n k l L F) (hk : k ≤ 800) (hn : n ≤ 64) (id a E : Int) (hE : hnBE (hsP l) id a = E) :
    Calls Tryz.prog 32 #[.pointer (some ⟨o, 0, none⟩), .int .i64 id, .int .i64 a] W fun e W' => e = .returned (.int .i64 E) ∧ Tch (fun b => b = mb ∨ F b) W W' ∧ ∃ l' F', hsP l' = hnBS (hsP l) id a ∧ BA w W' o mb po n (k + 1) l' L F' ∧ ∀ k, F' k → F k ∨ W.heap.size ≤ k := by
  refine (hand_d h.db h.inv hk hn id a).mono ?_
  rintro e W' ⟨h1, l', h2, F', h3, h4, h5, _⟩
  rw [hE] at h1
  have hb : BInv n (k + 1) (hsP l') L := by rw [h2]; exact binv_hn h.inv id a
  exact ⟨h1, h5, l', F', h2, ⟨h3, hb, nw_tch h.nw h5 (fun i e => e.elim (fun e => e ▸ h.mn) (h.new i)), h.mn, fun i e => (h4 i e).elim (h.new i) (fun q => Nat.le_trans h.nw.sz q)⟩, h4⟩
theorem ba_has {w W : World} {o mb po n k : Nat} {l : List Hp} {L : List Bool} {F : Nat → Prop} (h : BA w W o mb po n k l L F) (i : Int) (b : Bool) (hR : hsL L i = b) : Calls Tryz.prog 27 #[.pointer (some ⟨po, 0, none⟩), .int .i64 i] W fun e W' => e = .returned (.bool b) ∧ W = W' := by
  subst hR
  obtain ⟨g, v, l, hp, _⟩ := h.db.pol
  exact has_at hp i
theorem got_err {hs : List Hq} {id txn : Int} (h : hnBE hs id txn ≠ 0) : ∃ t r b0 b1 b2 b3 b4 y, getBD hs id = (t, r, ⟨b0, b1, b2, b3, b4⟩, y) ∧ (y = true ∨ hnBE hs id txn = 5) := by
  unfold getBD
  cases e : ofId hs id with
  | none => exact ⟨0, 0, 0, 0, 0, 0, 0, false, rfl, .inr ((hn_err h).2 e)⟩
  | some x => exact ⟨_, _, _, _, _, _, _, true, rfl, .inl rfl⟩
theorem got_hand {most k : Nat} {hs : List Hq} {L : List Bool} (b : BInv most k hs L) {id txn : Int} (he : hnBE hs id txn = 0) :
    ∃ t r b0 b1 b2 b3, (∃ h ∈ hs, nmH h = (t, r)) ∧ getBD hs id = (t, r, ⟨b0, b1, b2, b3, 0⟩, true) ∧ getBD (hnBS hs id txn) id = (t, r, ⟨b0, txn, b2, b3, 0⟩, true) ∧ findB (hnBS hs id txn) t r txn = (id, true) ∧ hnBE (hnBS hs id txn) id b1 = 0 ∧ hnBS (hnBS hs id txn) id b1 = hs ∧ hsL L id = true := by
  obtain ⟨h, r, h2, e1, e2, e3, e4, e5, e6, e7, e8, e9, e10, e11⟩ := hands b he
  obtain ⟨b0, b1, b2, b3, b4⟩ := r
  simp only at e3
  subst e3
  refine ⟨h.t, h.r, b0, b1, b2, b3, ⟨h, List.mem_of_find?_eq_some e1, rfl⟩, ?_, ?_, e7, e10, e11, e4⟩
  · unfold getBD
    rw [e1]
    simp only
    unfold rqB
    rw [e2]
    rfl
  · unfold getBD
    rw [e5]
    simp only
    unfold rqB
    rw [e6, e8, e9]
    rfl
set_option maxRecDepth 100000 in
set_option maxHeartbeats 8000000 in
theorem walk (i0 i1 : Int) (n N : Nat) (e0 : 1 + i0 % 5 = n) (e1 : i1 % 12 = N) (h1 : 1 ≤ n) (h4 : n ≤ 5) (hN : N < 12) (v : Value) (l : List Cl) (id txn : Int) (w : World) (hl : Rd 6 clrow w v l) (hok : ∀ R ∈ l, Cl.ok R) (h0 : l.length ≤ 50) :
    Calls Tryz.prog 6 #[.int .i64 i0, .int .i64 i1, v, .int .i64 id, .int .i64 txn] w fun e w' => e = .returned (.bool true) ∧ Nw w w' := by
  have HL := Lib.hid (And.intro hl hok)
  obtain ⟨va, vc, rfl, _⟩ := hl
  have d0 : decide ((50 : Int) < (l.length : Int)) = false := by rw [decide_eq_false_iff_not]; omega
  obtain ⟨x0, hx0⟩ : ∃ x, i0 % 5 = x := ⟨_, rfl⟩
  have hw0 : wrap64 (1 + x0) = (n : Int) := by rw [hx0] at e0; rw [e0]; unfold wrap64; omega
  have HP0 := Lib.hid (fun W => pick_any i0 5 W (by omega) (by omega))
  have HP1 := Lib.hid (fun W => pick_any i1 12 W (by omega) (by omega))
  rw [hx0] at HP0
  rw [e1] at HP1
  have HB := Lib.hid (And.intro h1 (And.intro h4 (And.intro hN h0)))
  clear hok e0 e1 hx0 h1 h4 hN h0
  go_enter Tryz.func6, Tryz.ntmps6
  go_wp2_with fail
  refine (lives_b w).mono ?_
  rintro e w1 ⟨rfl, g1⟩
  have HG1 := Lib.hid g1
  clear g1
  go_wp2_with (go_at_call 8; (first | (with_reducible refine (HP0.out _).mono ?_) | (with_reducible refine (HP1.out _).mono ?_)); rintro e w' ⟨rfl, rfl⟩)
  refine (made_d w w1 HG1.out n N HB.out.1 (by have := HB.out.2.1; omega) (by have := HB.out.2.2.1; omega)).mono ?_
  rintro e w2 ⟨o, mb, po, F, rfl, hb⟩
  have HS := Lib.hid (show BaS w o mb po n 0 w2 from ⟨_, _, _, hb⟩)
  clear hb HG1 HP0 HP1
  go_wp2_with fail
  go_loopw [14] (fun vi wr => ∃ j : Nat, vi = .int .i64 j ∧ j ≤ l.length ∧ Hid (BaS w o mb po n j wr)) (fun vi _ => l.length - (intOf vi).toNat)
  case atStart => exact ⟨0, rfl, Nat.zero_le _, HS⟩
  case round =>
    clear HS
    obtain ⟨j, rfl, hj, HK⟩ := hrel
    by_cases hjl : j < l.length
    · obtain ⟨a', c', e, ⟨q, _⟩ | ⟨b, ob, e2, hc⟩⟩ := HL.out.1
      · rw [q] at hjl; simp at hjl
      subst e2
      cases e
      have hwj : wrap64 ((j : Int) + 1) = (j : Int) + 1 := by have := HB.out.2.2.2; unfold wrap64; omega
      have hji : (j : Int) < (l.length : Int) := by omega
      obtain ⟨l0, L0, F0, hba⟩ := HK.out
      have hce := (hc.nw hba.nw).cell j hjl
      have hwf := HL.out.2 _ (List.getElem_mem hjl)
      clear hba hc
      generalize l[j] = R at *
      obtain ⟨b0, b1, b2, b3, b4, b5⟩ := R
      have c0 := hce 0 _ rfl
      have c1 := hce 1 _ rfl
      have c2 := hce 2 _ rfl
      have c3 := hce 3 _ rfl
      have c4 := hce 4 _ rfl
      have c5 := hce 5 _ rfl
      simp only [Nat.add_zero] at c0
      have HC := Lib.hid (call_b HK.out (by have := HB.out.2.2.2; omega) (by have := HB.out.2.1; omega) b0 b1 b2 b3 b4 b5 hwf)
      clear hce hwf HK
      go_wp2_with fail
      refine HC.out.mono ?_
      rintro e w3 ⟨⟨v3, rfl⟩, hs⟩
      have HK := Lib.hid hs
      clear hs HC c0 c1 c2 c3 c4 c5
      go_wp2_with fail
      go_roundw
      case rel => exact ⟨j + 1, congrArg (Value.int .i64) (by omega), by omega, HK⟩
      case measure =>
        rw [hwj]
        exact down l.length j hjl
    · obtain rfl : j = l.length := by omega
      obtain ⟨l0, L0, F0, hba⟩ := HK.out
      have HBa := Lib.hid hba
      clear HK hba
      have hkk : l.length ≤ 800 := by have := HB.out.2.2.2; omega
      have hnn : n ≤ 64 := by have := HB.out.2.1; omega
      have hkk2 : l.length + 1 ≤ 800 := by have := HB.out.2.2.2; omega
      have HHd := Lib.hid (ba_heads HBa.out)
      have HLo := Lib.hid HBa.out.low
      obtain ⟨ob, hob⟩ : ∃ ob, wr.heap.size = ob := ⟨_, rfl⟩
      have HOb := Lib.hid hob
      clear hj hjl hob
      go_wp2_with fail
      refine HHd.out.mono ?_
      rintro e y1 ⟨v0, rfl, hh0, g1⟩
      rw [HOb.out] at hh0
      have HH0 := Lib.hid hh0
      have HB1 := Lib.hid (HBa.out.step g1)
      have hs1 : ob ≤ y1.heap.size := by rw [← HOb.out]; exact g1.sz
      obtain ⟨s0, s1, s2, hs0⟩ : ∃ a b c, v0 = .slice a b c := by
        obtain ⟨lm, ho, _⟩ := hh0
        rcases oform ho with ⟨e, _⟩ | ⟨_, _, e⟩
        · exact ⟨_, _, _, e⟩
        · exact ⟨_, _, _, e⟩
      clear hh0 g1 HHd HBa
      subst hs0
      by_cases he : hnBE (hsP l0) id txn = 0
      · obtain ⟨t, r, b0, b1, b2, b3, hnm, hG, hG2, hFi, hE2, hS2, hHas⟩ := got_hand HB1.out.inv he
        have HGt := Lib.hid (ba_get HB1.out id _ _ _ _ _ _ _ _ hG)
        have HWf := Lib.hid (show wfN (t, r) by
          obtain ⟨h, hh, e⟩ := hnm
          obtain ⟨x, hx, rfl⟩ := List.mem_map.1 hh
          rw [← e]
          exact HB1.out.db.map.wf x hx)
        have HF := Lib.hid (And.intro hG2 (And.intro hFi (And.intro hE2 (And.intro hS2 (And.intro hHas he)))))
        clear hnm hG hG2 hFi hE2 hS2 hHas he
        go_wp2_with fail
        refine HGt.out.mono ?_
        rintro e y2 ⟨rfl, g2⟩
        obtain ⟨y3, hy3⟩ : ∃ y3, (y2.alloc (.cells #[.int .i64 t, .int .i64 r] 38)).alloc (.cells #[.int .i64 b0, .int .i64 b1, .int .i64 b2, .int .i64 b3, .int .i64 0] 47) = y3 := ⟨_, rfl⟩
        have hal2 := ((Nw.refl _).alloc (.cells #[.int .i64 b0, .int .i64 b1, .int .i64 b2, .int .i64 b3, .int .i64 0] 47)).at' (allocAt y2 (.cells #[.int .i64 t, .int .i64 r] 38))
        have hal3 := allocAt (y2.alloc (.cells #[.int .i64 t, .int .i64 r] 38)) (.cells #[.int .i64 b0, .int .i64 b1, .int .i64 b2, .int .i64 b3, .int .i64 0] 47)
        rw [hy3] at hal2
        rw [World.size_alloc, hy3] at hal3
        have g3 : Nw y2 y3 := by rw [← hy3]; exact ((Nw.refl y2).alloc _).alloc _
        have HY3 := Lib.hid hy3
        have hs2 : ob ≤ y2.heap.size := Nat.le_trans hs1 g2.sz
        have HB3 := Lib.hid (HB1.out.step (g2.trans g3))
        have HH3 := Lib.hid (HH0.out.nw (g2.trans g3))
        have HK3 := Lib.hid (show Keep y3 ob y3 from ⟨Nat.le_refl _, fun _ _ _ => rfl⟩)
        have HA3 := Lib.hid (And.intro hal2 hal3)
        have HHn := Lib.hid (ba_handT HB3.out hkk hnn id txn 0 HF.out.2.2.2.2.2)
        clear hy3 hal2 hal3 g2 g3 hs1 HB1 HH0 HGt
        go_wp2_with fail
        rw [HY3.out]
        generalize y2.heap.size = q0 at *
        refine HHn.out.mono ?_
        rintro e y4 ⟨rfl, ht4, l4, F4, hl4, hb4, hf4⟩
        have HK4 := Lib.hid (HK3.out.tch ht4 (fun k e => .inl (by have := HLo.out; rw [HOb.out] at this; exact e.elim (fun e => by omega) (fun e => this.2 k e))))
        have HB4 := Lib.hid hb4
        have HL4 := Lib.hid hl4
        have HF4 := Lib.hid hf4
        have HG4 := Lib.hid (ba_get hb4 id _ _ _ _ _ _ _ _ ((congrArg (fun h => getBD h id) hl4).trans HF.out.1))
        clear ht4 hl4 hb4 hf4 HHn HB3
        go_wp2_with fail
        refine HG4.out.mono ?_
        rintro e y5 ⟨rfl, g5⟩
        obtain ⟨y6, hy6⟩ : ∃ y6, (y5.alloc (.cells #[.int .i64 t, .int .i64 r] 38)).alloc (.cells #[.int .i64 b0, .int .i64 txn, .int .i64 b2, .int .i64 b3, .int .i64 0] 47) = y6 := ⟨_, rfl⟩
        have hal6 := allocAt (y5.alloc (.cells #[.int .i64 t, .int .i64 r] 38)) (.cells #[.int .i64 b0, .int .i64 txn, .int .i64 b2, .int .i64 b3, .int .i64 0] 47)
        rw [World.size_alloc, hy6] at hal6
        have g6 : Nw y5 y6 := by rw [← hy6]; exact ((Nw.refl y5).alloc _).alloc _
        have HY6 := Lib.hid hy6
        have HB6 := Lib.hid (HB4.out.step (g5.trans g6))
        have HK6 := Lib.hid (HK4.out.nw (g5.trans g6))
        have HK5 := Lib.hid (HK4.out.nw g5)
        have hn5 := (HK5.out.blk q0 hs2 (hlt HA3.out.1)).trans HA3.out.1
        have n0 := hcell (j := 0) hn5
        have n1 := hcell (j := 1) hn5
        have nl := hlt hn5
        have HFd := Lib.hid (ba_find HB6.out t r txn HWf.out id true (by rw [HL4.out]; exact HF.out.2.1))
        clear hy6 g5 g6 hn5 HK4 HB4 HG4
        go_wp2_with fail
        rw [HY6.out]
        generalize y5.heap.size = q1 at *
        refine HFd.out.mono ?_
        rintro e y7 ⟨rfl, g7⟩
        have HB7 := Lib.hid (HB6.out.step g7)
        have HK7 := Lib.hid (HK6.out.nw g7)
        have hr7 := g7.at' hal6
        have hq7 := (HK7.out.blk (q0 + 1) (by omega) (hlt HA3.out.2)).trans HA3.out.2
        have r1 := hcell (j := 1) hr7
        have r2 := hcell (j := 2) hr7
        have rl := hlt hr7
        have p1 := hcell (j := 1) hq7
        have p2 := hcell (j := 2) hq7
        have p4 := hcell (j := 4) hq7
        have pl := hlt hq7
        have HHn := Lib.hid (ba_handT HB7.out hkk2 hnn id b1 0 (by rw [HL4.out]; exact HF.out.2.2.1))
        clear g7 hal6 hr7 hq7 HB6 HK6 HFd n0 n1 nl HK5
        go_wp2_with fail
        refine HHn.out.mono ?_
        rintro e y8 ⟨rfl, ht8, l8, F8, hl8, hb8, _⟩
        rw [HL4.out, HF.out.2.2.2.1] at hl8
        have HK8 := Lib.hid (HK7.out.tch ht8 (fun k e => e.elim (fun e => .inl (by have := HLo.out.1; rw [HOb.out] at this; omega)) (fun e => (HF4.out k e).elim (fun e => .inl (by have := HLo.out.2 k e; rw [HOb.out] at this; exact this)) .inr)))
        have HB8 := Lib.hid hb8
        have HL8 := Lib.hid hl8
        have HHd := Lib.hid (ba_heads hb8)
        clear ht8 hl8 hb8 HHn HB7 HK7 r1 r2 rl p1 p2 p4 pl
        go_wp2_with fail
        refine HHd.out.mono ?_
        rintro e y9 ⟨v1, rfl, hh1, g9⟩
        rw [HL8.out] at hh1
        have HB9 := Lib.hid (HB8.out.step g9)
        have HK9 := Lib.hid (HK8.out.nw g9)
        have HH9 := Lib.hid (HH3.out.keep (w' := y9) fun k h1 h2 => HK9.out.blk k (by omega) h2)
        have HSm := Lib.hid (sameHs_any (by have := HB9.out.inv.len; rw [HL8.out] at this; omega) hh1 HH9.out)
        clear hh1 g9 HB8 HK8 HHd
        go_wp2_with fail
        refine HSm.out.mono ?_
        rintro e y10 ⟨rfl, g10⟩
        have HB10 := Lib.hid (HB9.out.step g10)
        have HHs := Lib.hid (ba_has HB10.out id true HF.out.2.2.2.2.1)
        clear g10 HB9 HSm
        go_wp2_with fail
        refine HHs.out.mono ?_
        rintro e y11 ⟨rfl, rfl⟩
        have HN := Lib.hid HB10.out.nw
        clear HB10 HHs
        go_wp2
        go_ret
        exact ⟨rfl, HN.out⟩
      · obtain ⟨t, r, b0, b1, b2, b3, b4, y, hG, hy⟩ := got_err he
        have HGt := Lib.hid (ba_get HB1.out id _ _ _ _ _ _ _ _ hG)
        obtain ⟨E, hE⟩ : ∃ E, hnBE (hsP l0) id txn = E := ⟨_, rfl⟩
        have HE := Lib.hid hE
        have HS := Lib.hid (hn_err he).1
        rw [hE] at he hy
        have dE : (E == 0) = false := by simpa using he
        have HY := Lib.hid hy
        clear he hy hG hE
        go_wp2_with fail
        refine HGt.out.mono ?_
        rintro e y2 ⟨rfl, g2⟩
        obtain ⟨y3, hy3⟩ : ∃ y3, (y2.alloc (.cells #[.int .i64 t, .int .i64 r] 38)).alloc (.cells #[.int .i64 b0, .int .i64 b1, .int .i64 b2, .int .i64 b3, .int .i64 b4] 47) = y3 := ⟨_, rfl⟩
        have g3 : Nw y2 y3 := by rw [← hy3]; exact ((Nw.refl y2).alloc _).alloc _
        have HY3 := Lib.hid hy3
        have HB3 := Lib.hid (HB1.out.step (g2.trans g3))
        have HH3 := Lib.hid (HH0.out.nw (g2.trans g3))
        have HHn := Lib.hid (ba_handT HB3.out hkk hnn id txn E HE.out)
        clear hy3 g2 g3 HB1 HH0 HGt
        go_wp2_with fail
        rw [HY3.out]
        generalize y2.heap.size = q0 at *
        refine HHn.out.mono ?_
        rintro e y4 ⟨rfl, ht4, l4, F4, hl4, hb4, _⟩
        rw [HS.out] at hl4
        have HH4 := Lib.hid (HH3.out.keep (w' := y4) fun k h1 h2 => ht4.block k h2 (fun e => by
          have hlo := HLo.out
          rw [HOb.out] at hlo
          exact e.elim (fun e => by omega) (fun e => by have := hlo.2 k e; omega)))
        have HB4 := Lib.hid hb4
        have HL4 := Lib.hid hl4
        have HHd := Lib.hid (ba_heads hb4)
        clear ht4 hl4 hb4 HHn HB3 HH3
        go_wp2_with fail
        refine HHd.out.mono ?_
        rintro e y5 ⟨v1, rfl, hh1, g5⟩
        rw [HL4.out] at hh1
        have HB5 := Lib.hid (HB4.out.step g5)
        have HH5 := Lib.hid (HH4.out.nw g5)
        have HSm := Lib.hid (sameHs_any (by have := HB5.out.inv.len; rw [HL4.out] at this; omega) hh1 HH5.out)
        clear hh1 g5 HB4 HH4 HHd
        go_wp2_with fail
        refine HSm.out.mono ?_
        rintro e y6 ⟨rfl, g6⟩
        have HN := Lib.hid (HB5.out.nw.trans g6)
        clear g6 HB5 HSm HH5
        rcases HY.out with rfl | rfl
        · go_wp2
          go_ret
          exact ⟨rfl, HN.out⟩
        · cases y
          all_goals
            go_wp2
            go_ret
            exact ⟨rfl, HN.out⟩
set_option maxRecDepth 100000 in
set_option maxHeartbeats 2000000 in
theorem law_any (i0 i1 : Int) (v : Value) (l : List Cl) (id txn : Int) (w : World) (hl : Rd 6 clrow w v l) (hok : ∀ R ∈ l, Cl.ok R) :
    Calls Tryz.prog 6 #[.int .i64 i0, .int .i64 i1, v, .int .i64 id, .int .i64 txn] w fun e w' => e = .returned (.bool true) ∧ Nw w w' := by
  by_cases h : l.length ≤ 50
  · obtain ⟨p, hp⟩ := Int.eq_ofNat_of_zero_le (Int.emod_nonneg i0 (show (5 : Int) ≠ 0 by decide))
    obtain ⟨N, hN⟩ := Int.eq_ofNat_of_zero_le (Int.emod_nonneg i1 (show (12 : Int) ≠ 0 by decide))
    have q1 := Int.emod_lt_of_pos i0 (show (0 : Int) < 5 by decide)
    have q2 := Int.emod_lt_of_pos i1 (show (0 : Int) < 12 by decide)
    exact walk i0 i1 (p + 1) N (by omega) hN (by omega) (by omega) (by omega) v l id txn w hl hok h
  · obtain ⟨va, vc, rfl, _⟩ := hl
    have d0 : decide ((50 : Int) < (l.length : Int)) = true := by rw [decide_eq_true_eq]; omega
    have HN := Lib.hid (Nw.refl w)
    clear h hok
    go_enter Tryz.func6, Tryz.ntmps6
    go_wp2_with fail
    refine (lives_b _).mono ?_
    rintro e w1 ⟨rfl, g1⟩
    have HG1 := Lib.hid (HN.out.trans g1)
    clear g1 HN
    go_wp2_with fail
    go_ret
    exact ⟨rfl, HG1.out⟩
end Go.Proofs.YtodnlelnpidliaaGreat.bucketHands
end
