/- Texts merged: PoC, BdY, BdZ, PoE, PoR, PoRE -/
import Derived.Test.YtfemopcichmlmaaGreatRRRBucketFullB19
import Derived.RangeFuncNested
import Derived.RangeFuncBound
import Derived.RangeFuncCalls
import Derived.RangeFuncLeaves
import Derived.Shelf.RegionOpen
import Derived.OwnWalkIn
import Derived.TacticsInMore
import Derived.LoopNIn
import Derived.LoopIn

/- A pool: New. -/
section
namespace Go.Proofs.YtfemopcichmlmaaGreatRRR
open Go.RowKit
set_option linter.unusedVariables false

theorem infoB : (Tryz.prog.info? 4).map (fun i => (i.zero, i.size, i.bytes)) = some (some (.bool false), 1, 1) := by kernel_rfl
theorem mk_bools (w : World) (N : Nat) (hN : N ≤ 1000) : (Instr.makeSlice 69 (.int .i64 N) (.int .i64 N)).run Tryz.prog w = .ok (.slice (some ⟨w.heap.size, 0, none⟩) N N) (w.alloc (.cells (Array.replicate N (.bool false)) 4)) := by
  obtain ⟨i0, hi, hz0, hz1, hz2⟩ := info_parts infoB
  have h := run_make (P := Tryz.prog) w 69 4 i0 (.bool false) Tryz.underlying69 hi hz0 .i64 .i64 N N (by omega) (Int.le_refl _) (by rw [hz2]; omega) (by omega)
  have e : madeCells (Value.bool false).cells (N * 1) = Array.replicate N (.bool false) := by
    apply Array.ext
    · simp [madeCells]
    · intro j h1 h2
      simp [madeCells, Value.cells, Nat.mod_one]
  rw [h, hz1]
  simp only [Int.toNat_natCast, e]
/-- Between two rounds: the heap has the first k numbers. -/
structure NewI (w : World) (N k : Nat) (v : Value) (l : List Int) (W : World) : Prop where
  nw : Nw w W
  hv : IHv W (w.heap.size + 1) 2 v l
  hs : IHs l (castL (List.range k))
  own : ∀ b, v.ownBlock = some b → w.heap.size + 2 ≤ b
  c0 : W.cell? ⟨w.heap.size + 1, 0, none⟩ = some (.pointer none)
  f0 : W.frozen? ⟨w.heap.size + 1, 0, none⟩ = false
  c1 : W.cell? ⟨w.heap.size + 1, 1, none⟩ = some (.slice (some ⟨w.heap.size, 0, none⟩) N N)
  cs : ∀ i, i < N → W.cell? ⟨w.heap.size, i, none⟩ = some (.bool false) ∧ W.frozen? ⟨w.heap.size, i, none⟩ = false
  sz : w.heap.size + 1 < W.heap.size
theorem newI_start (w : World) (N : Nat) (T U : TypeId) : NewI w N 0 (.slice none 0 0) [] ((w.alloc (.cells (Array.replicate N (.bool false)) T)).alloc (.cells #[.pointer none, .slice (some ⟨w.heap.size, 0, none⟩) N N, .slice none 0 0] U)) := by
  refine ⟨((Nw.refl w).alloc _).alloc _, ⟨by simp [go_sem], by simp [go_sem], IS.nil _, by simp [Value.ownBlock]⟩, IHs.nil, by simp [Value.ownBlock], by simp [go_sem], by simp [go_sem], by simp [go_sem], fun i hi => ?_, by simp⟩
  constructor <;> simp [go_sem, hi]
theorem NewI.step {w W W' : World} {N k : Nat} {v : Value} {l : List Int} (h : NewI w N k v l W) (hp : IPushH W (w.heap.size + 1) 2 v (castL (List.range (k + 1))) W') : ∃ v' l', NewI w N (k + 1) v' l' W' := by
  obtain ⟨g', cap', l', hp, hs, hor, ht, hsd⟩ := hp
  have hsz := h.sz
  have n1 : ¬ IOf (w.heap.size + 1) v w.heap.size := fun e => e.elim (fun e => by omega) (fun e => by have := h.own _ e; omega)
  refine ⟨_, l', nw_tch h.nw ht (fun i e => ?_), hp.v, hs, fun b e => ?_, (hsd 0 (by omega)).1.trans h.c0, (hsd 0 (by omega)).2.trans h.f0, (hsd 1 (by omega)).1.trans h.c1, fun i hi => ⟨(ht.cell (by omega) n1).trans (h.cs i hi).1, (ht.froz (by omega) n1).trans (h.cs i hi).2⟩, by have := ht.size; omega⟩
  · rcases e with e | e
    · omega
    · have := h.own _ e; omega
  · simp [Value.ownBlock] at e
    subst e
    rcases hor with q | q
    · exact h.own _ q.symm
    · omega
/-- What New returns. -/
def PNewP (w : World) (N : Nat) (e : Ending) (W : World) : Prop := ∃ p F, e = .returned (.tuple #[.pointer (some ⟨p, 0, none⟩), .int .i64 0]) ∧ Pol W p (List.replicate N false) F ∧ Nw w W ∧ (∀ k, F k → w.heap.size ≤ k)
theorem NewI.done {w W : World} {N : Nat} {v : Value} {l : List Int} (h : NewI w N N v l W) (hN : N ≤ 128) : PNewP w N (.returned (.tuple #[.pointer (some ⟨w.heap.size + 1, 0, none⟩), .int .i64 0])) (W.setCell ⟨w.heap.size + 1, 0, none⟩ (.pointer (some ⟨w.heap.size + 1, 0, none⟩))) := by
  have t := setCell_at W ⟨w.heap.size + 1, 0, none⟩ (.pointer (some ⟨w.heap.size + 1, 0, none⟩))
  have hsz := h.sz
  have o : ∀ j, j ≠ 0 → (W.setCell ⟨w.heap.size + 1, 0, none⟩ (.pointer (some ⟨w.heap.size + 1, 0, none⟩))).cell? ⟨w.heap.size + 1, j, none⟩ = W.cell? ⟨w.heap.size + 1, j, none⟩ := fun j hj => World.cell?_setCell_other _ _ _ _ (fun r => hj (congrArg Addr.off r).symm)
  refine ⟨w.heap.size + 1, _, rfl, ⟨w.heap.size, v, l, ⟨World.cell?_setCell_same _ _ _ h.c0, by rw [List.length_replicate]; exact (o 1 (by omega)).trans h.c1, fun i hi => ?_, by simp; omega, ?_, by rw [frI_new]; exact h.hs, by omega, fun e => by have := h.own _ e; omega, by rw [List.length_replicate]; exact hN⟩, rfl⟩, nw_tch h.nw t (fun i e => by simp at e; omega), ?_⟩
  · rw [List.length_replicate] at hi
    have e : (List.replicate N false).getD i false = false := by simp [List.getD, hi]
    rw [e]
    exact ⟨(t.cell (by omega) (by simp)).trans (h.cs i hi).1, by rw [World.frozen?_setCell]; exact (h.cs i hi).2⟩
  · refine ⟨(o 2 (by omega)).trans h.hv.hd, by rw [World.frozen?_setCell]; exact h.hv.hf, IS.tch h.hv.row t (fun b e => ?_), h.hv.ne⟩
    have := h.own b e
    simp; omega
  · rintro k (e | e | e)
    · omega
    · omega
    · have := h.own _ e; omega
set_option maxRecDepth 10000 in
set_option maxHeartbeats 1000000 in
theorem pnew_any (N : Nat) (hN : N ≤ 128) (w : World) : Calls Tryz.prog 21 #[.int .i64 N] w (PNewP w N) := by
  have km := fun w => mk_bools w N (by omega)
  have HS := Lib.hid (newI_start w N 4 74)
  have hd : decide (128 < N) = false := by simp; omega
  have hd2 : decide ((128 : Int) < (N : Int)) = false := by simp; omega
  go_enter Tryz.func21, Tryz.ntmps21
  go_wp2
  go_loopw [17] (fun i wr => ∃ k : Nat, k ≤ N ∧ i = .int .i64 k ∧ ∃ v l, Hid (NewI w N k v l wr)) (fun i _ => N - (intOf i).toNat)
  case atStart => exact ⟨0, Nat.zero_le _, rfl, _, _, HS⟩
  case round =>
    obtain ⟨k, hk, rfl, v, l, HI⟩ := hrel
    by_cases hlt : k < N
    · have hp := ihpush_any (w.heap.size + 1) 2 v l (castL (List.range k)) k wr HI.out.hv HI.out.hs (by rw [HI.out.hs.len, castL_range_len]; omega)
      rw [range_ins] at hp
      have HP := Lib.hid hp
      clear hp
      go_wp2_with fail
      refine HP.out.mono ?_
      rintro e w1 ⟨rfl, hw1⟩
      obtain ⟨v', l', hI⟩ := HI.out.step hw1
      have HI' := Lib.hid hI
      clear hw1 hI
      go_wp2
      go_roundw
      case rel => exact ⟨k + 1, by omega, by go_num, v', l', HI'⟩
      case measure => simp [intOf]; omega
    · obtain rfl : k = N := by omega
      have c0 := HI.out.c0
      have f0 := HI.out.f0
      have hz := HI.out.sz
      have HD := Lib.hid (HI.out.done hN)
      go_wp2
      exact bodyPost_ret (v := .tuple #[.pointer (some ⟨w.heap.size + 1, 0, none⟩), .int .i64 0]) (by simp [results, Tryz.results21, go_sem]) rfl HD.out
theorem pnew_bad (n : Int) (w : World) (q : ¬ (0 ≤ n ∧ n ≤ 128)) : Calls Tryz.prog 21 #[.int .i64 n] w fun e W' => e = .returned (.tuple #[.pointer none, .int .i64 2]) ∧ w = W' := by
  by_cases d : n < 0
  · clear q
    go_enter Tryz.func21, Tryz.ntmps21
    go_wp2
    exact bodyPost_ret (v := .tuple #[.pointer none, .int .i64 2]) (by simp [results, Tryz.results21, go_sem]) rfl ⟨rfl, rfl⟩
  · have d2 : (128 : Int) < n := by omega
    clear q
    go_enter Tryz.func21, Tryz.ntmps21
    go_wp2
    exact bodyPost_ret (v := .tuple #[.pointer none, .int .i64 2]) (by simp [results, Tryz.results21, go_sem]) rfl ⟨rfl, rfl⟩
end Go.Proofs.YtfemopcichmlmaaGreatRRR
end

/- New. -/
section
namespace Go.Proofs.YtfemopcichmlmaaGreatRRR
open Go.RowKit Go.Shelf
set_option linter.unusedVariables false      -- a contract need not use every name

theorem hsL_neg (L : List Bool) : hsL L (-1) = false := by
  cases e : hsL L (-1) with
  | false => rfl
  | true => obtain ⟨i, hi, _⟩ := hsL_at e; omega
/-- What New returns. -/
def DNew (w : World) (po n : Nat) (L : List Bool) (F : Nat → Prop) (e : Ending) (W : World) : Prop := ∃ o mb, e = .returned (.tuple #[.pointer (some ⟨o, 0, none⟩), .int .i64 0]) ∧ Db W o mb po n [] L F ∧ Nw w W ∧ w.heap.size ≤ o ∧ w.heap.size ≤ mb
theorem dnew_made {w : World} {po n : Nat} {L : List Bool} {F : Nat → Prop} (h : Pol w po L F) (T : TypeId) :
    DNew w po n L F (.returned (.tuple #[.pointer (some ⟨w.heap.size + 1, 0, none⟩), .int .i64 0])) ((w.alloc (.map #[] 0)).alloc (.cells #[.pointer (some ⟨w.heap.size + 1, 0, none⟩), .int .i64 n, .pointer (some ⟨po, 0, none⟩), .map (some w.heap.size)] T)) := by
  have hs1 : (w.alloc (.map #[] 0)).heap.size = w.heap.size + 1 := by simp
  have hb := allocAt (w.alloc (.map #[] 0)) (.cells #[.pointer (some ⟨w.heap.size + 1, 0, none⟩), .int .i64 n, .pointer (some ⟨po, 0, none⟩), .map (some w.heap.size)] T)
  rw [hs1] at hb
  have hN : Nw w ((w.alloc (.map #[] 0)).alloc (.cells #[.pointer (some ⟨w.heap.size + 1, 0, none⟩), .int .i64 n, .pointer (some ⟨po, 0, none⟩), .map (some w.heap.size)] T)) := ((Nw.refl w).alloc _).alloc _
  have hM : MapH ((w.alloc (.map #[] 0)).alloc (.cells #[.pointer (some ⟨w.heap.size + 1, 0, none⟩), .int .i64 n, .pointer (some ⟨po, 0, none⟩), .map (some w.heap.size)] T)) w.heap.size [] := (MapH.made w).nw ((Nw.refl _).alloc _)
  generalize (w.alloc (.map #[] 0)).alloc (.cells #[.pointer (some ⟨w.heap.size + 1, 0, none⟩), .int .i64 n, .pointer (some ⟨po, 0, none⟩), .map (some w.heap.size)] T) = z at *
  have hF : ∀ k, F k → k < w.heap.size := h.own
  refine ⟨w.heap.size + 1, w.heap.size, rfl, ⟨?_, ?_, ?_, ?_, hlt hb, fun e => ?_, fun e => ?_, hM, List.Pairwise.nil, by simp, h.nw hN, by simp⟩, hN, Nat.le_succ _, Nat.le_refl _⟩
  · rw [hcell hb]; rfl
  · rw [hcell hb]; rfl
  · rw [hcell hb]; rfl
  · rw [hcell hb]; rfl
  · have := hF _ e; omega
  · have := hF _ e; omega
set_option maxRecDepth 10000 in
set_option maxHeartbeats 1000000 in
theorem new_d {w : World} {po : Nat} {L : List Bool} {F : Nat → Prop} (h : Pol w po L F) (n : Nat) (h1 : 1 ≤ n) (h2 : n ≤ 64) :
    Calls Tryz.prog 22 #[.int .i64 n, .pointer (some ⟨po, 0, none⟩)] w (DNew w po n L F) := by
  have hmm := @run_makeMap Tryz.prog
  have HD := Lib.hid (dnew_made (n := n) h 80)
  obtain ⟨g, v, l, hp, rfl⟩ := h
  have HG := Lib.hid (give_bad hp (-1) (hsL_neg L))
  have d1 : decide ((n : Int) < 1) = false := by simp; omega
  have d2 : decide ((64 : Int) < (n : Int)) = false := by simp; omega
  clear hp h1 h2
  go_enter Tryz.func22, Tryz.ntmps22
  go_wp2_with (go_at_call 33; refine HG.out.mono ?_; rintro e w' ⟨rfl, rfl⟩)
  exact bodyPost_ret (v := .tuple #[.pointer (some ⟨w.heap.size + 1, 0, none⟩), .int .i64 0]) (by simp [results, Tryz.results22, go_sem, *]) rfl HD.out
theorem new_bad {w : World} (v : Value) (i : Int) (h : i < 1 ∨ 64 < i) :
    Calls Tryz.prog 22 #[.int .i64 i, v] w fun e w' => e = .returned (.tuple #[.pointer none, .int .i64 2]) ∧ w = w' := by
  rcases h with h | h
  · have d1 : decide (i < 1) = true := by simpa using h
    clear h
    go_enter Tryz.func22, Tryz.ntmps22
    go_wp2_with fail
    exact bodyPost_ret (v := .tuple #[.pointer none, .int .i64 2]) (by simp [results, Tryz.results22, go_sem, *]) rfl ⟨rfl, rfl⟩
  · have d1 : decide (i < 1) = false := by simp; omega
    have d2 : decide ((64 : Int) < i) = true := by simpa using h
    clear h
    go_enter Tryz.func22, Tryz.ntmps22
    go_wp2_with fail
    exact bodyPost_ret (v := .tuple #[.pointer none, .int .i64 2]) (by simp [results, Tryz.results22, go_sem, *]) rfl ⟨rfl, rfl⟩
end Go.Proofs.YtfemopcichmlmaaGreatRRR
end

/- The kit's Same of requests, SameHeads of equal heads. -/
section
namespace Go.Proofs.YtfemopcichmlmaaGreatRRR
open Go.RowKit Go.Shelf
set_option linter.unusedVariables false      -- a contract need not use every name

set_option maxRecDepth 100000 in
set_option maxHeartbeats 2000000 in
theorem sameQ_rows (b o c b' o' c' : Nat) (l : List Rq) (w : World) (hm : l.length ≤ 1000) (h : RdC 5 rqrow w b o l) (h' : RdC 5 rqrow w b' o' l) :
    Calls Tryz.prog 37 #[.slice (some ⟨b, o, none⟩) l.length c, .slice (some ⟨b', o', none⟩) l.length c'] w fun e w' => e = .returned (.bool true) ∧ Nw w w' := by
  have H := Lib.hid (And.intro h h')
  clear h h'
  go_enter Tryz.func37, Tryz.ntmps37
  go_wp2
  go_loopw [5] (fun i wr => ∃ k : Nat, k ≤ l.length ∧ i = .int .i64 k ∧ Nw w wr) (fun i _ => l.length - (intOf i).toNat)
  case atStart => exact ⟨0, Nat.zero_le _, rfl, Nw.refl _⟩
  case round =>
    obtain ⟨k, hk, rfl, hG⟩ := hrel
    by_cases hlt : k < l.length
    · have hce := (H.out.1.nw hG).cell k hlt
      have hde := (H.out.2.nw hG).cell k hlt
      have hki : (k : Int) < (l.length : Int) := by omega
      generalize l[k] = s at *
      obtain ⟨s0, s1, s2, s3, s4⟩ := s
      have c0 := hce 0 _ rfl
      have c1 := hce 1 _ rfl
      have c2 := hce 2 _ rfl
      have c3 := hce 3 _ rfl
      have c4 := hce 4 _ rfl
      simp only [Nat.add_zero] at c0
      have d0 := hde 0 _ rfl
      have d1 := hde 1 _ rfl
      have d2 := hde 2 _ rfl
      have d3 := hde 3 _ rfl
      have d4 := hde 4 _ rfl
      simp only [Nat.add_zero] at d0
      clear hce hde
      have HG := Lib.hid hG
      clear hG
      go_wp2_with fail
      go_quiet (fail)
      go_wp2
      go_roundw
      case rel => exact ⟨k + 1, by omega, by go_num, HG.out.drewN _⟩
      case measure => simp [intOf]; omega
    · have HG := Lib.hid hG
      clear hG
      go_wp2
      go_ret
      exact ⟨rfl, HG.out⟩
theorem sameQ_none (a a' : Option Addr) (c c' : Nat) (w : World) : Calls Tryz.prog 37 #[.slice a 0 c, .slice a' 0 c'] w fun e w' => e = .returned (.bool true) ∧ Nw w w' := by
  go_enter Tryz.func37, Tryz.ntmps37
  go_wp2
  refine wp_loop_rounds 1 ?_
  repeat (rw [rounds_succ]; go_wp2)
  go_ret
  exact ⟨rfl, Nw.refl _⟩
theorem sameQ_any (v v' : Value) (l : List Rq) (w : World) (hm : l.length ≤ 1000) (h : RqAt w v l) (h' : RqAt w v' l) : Calls Tryz.prog 37 #[v, v'] w fun e w' => e = .returned (.bool true) ∧ Nw w w' := by
  obtain ⟨a, c, rfl, ⟨rfl, _⟩ | ⟨b, o, rfl, hc⟩⟩ := h
  · obtain ⟨a', c', rfl, _⟩ := h'
    exact sameQ_none a a' c c' w
  · obtain ⟨a', c', rfl, ⟨rfl, _⟩ | ⟨b', o', rfl, hc'⟩⟩ := h'
    · exact sameQ_none _ a' c c' w
    · exact sameQ_rows b o c b' o' c' l w hm hc hc'
theorem HdsAt.nw {w w' : World} {o : Nat} {v : Value} {hs : List Hq} (h : HdsAt w o v hs) (g : Nw w w') : HdsAt w' o v hs := by
  obtain ⟨lm, h1, h2, h3⟩ := h
  exact ⟨lm, onw h1 g, h2, fun x hx => (h3 x hx).nw g⟩
/-- How heads read, wherever they lie. -/
def HmRd (w : World) (v : Value) (lm : List Hm) : Prop := Rd 4 hmrow w v lm ∧ ∀ x ∈ lm, RqAt w (hmV x) x.h.q ∧ x.h.q.length ≤ 1000
theorem HdsAt.rd {w : World} {o : Nat} {v : Value} {hs : List Hq} (h : HdsAt w o v hs) : ∃ lm, HmRd w v lm ∧ lm.map Hm.h = hs := by
  obtain ⟨lm, h1, h2, h3⟩ := h
  exact ⟨lm, ⟨Own.rd elemHm.len h1, fun x hx => ⟨(h3 x hx).rd, (h3 x hx).len⟩⟩, h2⟩
set_option maxRecDepth 100000 in
set_option maxHeartbeats 4000000 in
theorem sameH_rows (b o c b' o' c' : Nat) (l m : List Hm) (w : World) (hm : l.length ≤ 1000) (he : l.map Hm.h = m.map Hm.h) (h : RdC 4 hmrow w b o l) (h' : RdC 4 hmrow w b' o' m) (hq : ∀ x ∈ l, RqAt w (hmV x) x.h.q ∧ x.h.q.length ≤ 1000) (hq' : ∀ x ∈ m, RqAt w (hmV x) x.h.q ∧ x.h.q.length ≤ 1000) :
    Calls Tryz.prog 14 #[.slice (some ⟨b, o, none⟩) l.length c, .slice (some ⟨b', o', none⟩) l.length c'] w fun e w' => e = .returned (.bool true) ∧ Nw w w' := by
  have H := Lib.hid (And.intro h (And.intro h' (And.intro hq (And.intro hq' he))))
  have hml : m.length = l.length := by have := congrArg List.length he; rw [List.length_map, List.length_map] at this; exact this.symm
  have HM := Lib.hid hml
  clear h h' hq hq' he hml
  go_enter Tryz.func14, Tryz.ntmps14
  go_wp2
  go_loopw [5] (fun i wr => ∃ k : Nat, k ≤ l.length ∧ i = .int .i64 k ∧ Nw w wr) (fun i _ => l.length - (intOf i).toNat)
  case atStart => exact ⟨0, Nat.zero_le _, rfl, Nw.refl _⟩
  case round =>
    obtain ⟨k, hk, rfl, hG⟩ := hrel
    by_cases hlt : k < l.length
    · have hlt' : k < m.length := by rw [HM.out]; exact hlt
      have hce := (H.out.1.nw hG).cell k hlt
      have hde := (H.out.2.1.nw hG).cell k hlt'
      have hki : (k : Int) < (l.length : Int) := by omega
      have hx := H.out.2.2.1 _ (List.getElem_mem hlt)
      have hy := H.out.2.2.2.1 _ (List.getElem_mem hlt')
      have he : l[k].h = m[k].h := by
        have e1 : (l.map Hm.h)[k]'(by simpa using hlt) = (m.map Hm.h)[k]'(by simpa using hlt') := by simp only [H.out.2.2.2.2]
        simpa using e1
      generalize l[k] = x at *
      generalize m[k] = y at *
      obtain ⟨⟨xt, xr, xW, xq⟩, xa, xc⟩ := x
      obtain ⟨yh, ya, yc⟩ := y
      simp only at he
      subst he
      have HS := Lib.hid (fun z (g : Nw w z) => sameQ_any _ _ _ z hx.2 (hx.1.nw g) (hy.1.nw g))
      unfold hmV at HS
      simp only at HS
      have c0 := fun z (g : Nw wr z) => g.kp (hce 0 _ rfl)
      have c1 := fun z (g : Nw wr z) => g.kp (hce 1 _ rfl)
      have c2 := fun z (g : Nw wr z) => g.kp (hce 2 _ rfl)
      have c3 := fun z (g : Nw wr z) => g.kp (hce 3 _ rfl)
      simp only [Nat.add_zero] at c0
      have d0 := fun z (g : Nw wr z) => g.kp (hde 0 _ rfl)
      have d1 := fun z (g : Nw wr z) => g.kp (hde 1 _ rfl)
      have d2 := fun z (g : Nw wr z) => g.kp (hde 2 _ rfl)
      have d3 := fun z (g : Nw wr z) => g.kp (hde 3 _ rfl)
      simp only [Nat.add_zero] at d0
      have C0 : ∀ d : Wd (fun z => Nw wr z), d.w.cell? ⟨b, o + k * 4, none⟩ = some (.int .i64 xt) := fun d => c0 _ d.h
      have C1 : ∀ d : Wd (fun z => Nw wr z), d.w.cell? ⟨b, o + k * 4 + 1, none⟩ = some (.int .i64 xr) := fun d => c1 _ d.h
      have C2 : ∀ d : Wd (fun z => Nw wr z), d.w.cell? ⟨b, o + k * 4 + 2, none⟩ = some (.slice xa xq.length xc) := fun d => c2 _ d.h
      have C3 : ∀ d : Wd (fun z => Nw wr z), d.w.cell? ⟨b, o + k * 4 + 3, none⟩ = some (.int .i64 xW) := fun d => c3 _ d.h
      have D0 : ∀ d : Wd (fun z => Nw wr z), d.w.cell? ⟨b', o' + k * 4, none⟩ = some (.int .i64 xt) := fun d => d0 _ d.h
      have D1 : ∀ d : Wd (fun z => Nw wr z), d.w.cell? ⟨b', o' + k * 4 + 1, none⟩ = some (.int .i64 xr) := fun d => d1 _ d.h
      have D2 : ∀ d : Wd (fun z => Nw wr z), d.w.cell? ⟨b', o' + k * 4 + 2, none⟩ = some (.slice ya xq.length yc) := fun d => d2 _ d.h
      have D3 : ∀ d : Wd (fun z => Nw wr z), d.w.cell? ⟨b', o' + k * 4 + 3, none⟩ = some (.int .i64 xW) := fun d => d3 _ d.h
      have HG := Lib.hid hG
      have hne : Nonempty (Wd (fun z => Nw wr z)) := ⟨⟨_, Nw.refl _⟩⟩
      generalize xq.length = ql at *
      clear hce hde hG hx hy c0 c1 c2 c3 d0 d1 d2 d3
      go_wp2_with fail
      refine region_in (fun z => Nw wr z) (by kernel_rfl) (by kernel_rfl) (Nw.refl wr).dr ?_
      repeat (first | go_big_quiet_step ((exact quietN (fun a b h g => h.trans g) (HS.out _ (HG.out.trans (Wd.h _))))) | quiet_step ((exact quietN (fun a b h g => h.trans g) (HS.out _ (HG.out.trans (Wd.h _))))))
      refine wpQuiet_nil ?_
      intro d
      go_wp2
      go_roundw
      case rel => exact ⟨k + 1, by omega, by go_num, HG.out.trans d.h⟩
      case measure => simp [intOf]; omega
    · have HG := Lib.hid hG
      clear hG
      go_wp2
      go_ret
      exact ⟨rfl, HG.out⟩
theorem sameH_none (a a' : Option Addr) (c c' : Nat) (w : World) : Calls Tryz.prog 14 #[.slice a 0 c, .slice a' 0 c'] w fun e w' => e = .returned (.bool true) ∧ Nw w w' := by
  go_enter Tryz.func14, Tryz.ntmps14
  go_wp2
  refine wp_loop_rounds 1 ?_
  repeat (rw [rounds_succ]; go_wp2)
  go_ret
  exact ⟨rfl, Nw.refl _⟩
theorem sameH_any (v v' : Value) (l m : List Hm) (w : World) (hm : l.length ≤ 1000) (he : l.map Hm.h = m.map Hm.h) (h : HmRd w v l) (h' : HmRd w v' m) : Calls Tryz.prog 14 #[v, v'] w fun e w' => e = .returned (.bool true) ∧ Nw w w' := by
  have hml : m.length = l.length := by have := congrArg List.length he; rw [List.length_map, List.length_map] at this; exact this.symm
  obtain ⟨⟨a, c, rfl, h1⟩, hq⟩ := h
  obtain ⟨⟨a', c', rfl, h1'⟩, hq'⟩ := h'
  rw [hml]
  by_cases hl : l.length = 0
  · rw [hl]; exact sameH_none a a' c c' w
  · rcases h1 with ⟨e, _⟩ | ⟨b, o, rfl, hc⟩
    · exact absurd (by rw [e]; rfl) hl
    rcases h1' with ⟨e, _⟩ | ⟨b', o', rfl, hc'⟩
    · exact absurd (by rw [← hml, e]; rfl) hl
    exact sameH_rows b o c b' o' c' l m w hm he hc hc' hq hq'
theorem sameHs_any {w : World} {o o' : Nat} {v v' : Value} {hs : List Hq} (hm : hs.length ≤ 1000) (h : HdsAt w o v hs) (h' : HdsAt w o' v' hs) : Calls Tryz.prog 14 #[v, v'] w fun e w' => e = .returned (.bool true) ∧ Nw w w' := by
  obtain ⟨l, k1, e1⟩ := h.rd
  obtain ⟨m, k2, e2⟩ := h'.rd
  exact sameH_any v v' l m w (by rw [← e1, List.length_map] at hm; exact hm) (e1.trans e2.symm) k1 k2
end Go.Proofs.YtfemopcichmlmaaGreatRRR
end

/- A range over a function that yields numbers out of a row of its own, which it has made ahead of the first one: the law. -/
section
namespace Go.Proofs.YtfemopcichmlmaaGreatRRR
open Go.RowKit Go.Shelf

/-- What lies in S lies as it lay. -/
structure KpI (S : Nat → Prop) (A B : World) : Prop where
  size : A.heap.size ≤ B.heap.size
  same : ∀ k, S k → B.heap[k]? = A.heap[k]?
theorem KpI.refl (S : Nat → Prop) (A : World) : KpI S A A := ⟨Nat.le_refl _, fun _ _ => rfl⟩
theorem KpI.trans {S : Nat → Prop} {A B C : World} (h : KpI S A B) (k : KpI S B C) : KpI S A C := ⟨Nat.le_trans h.size k.size, fun i hi => (k.same i hi).trans (h.same i hi)⟩
theorem KpI.put {S : Nat → Prop} {A : World} {l : Nat} (o : Obj) (hl : ¬ S l) : KpI S A (A.putObj l o) := ⟨by simp, fun i hi => World.putObj_heap_other (fun e => hl (e ▸ hi))⟩
/-- The iterator's contract. -/
def SeqI (F : Fence) (n : Nat) (P : Program) (g : Nat) (lb : Array Value) (xs : List Int) (w : World) : Prop :=
  ∀ (l : Nat) (J Jx : (Nat → Prop) → List Int → World → Prop) (W : World), Nw w W →
    (∀ S pre x A, J S pre A → (pre ++ [x]) <+: xs → YieldAt F (n - 1) P l #[.int .i64 x] A fun e B => (e = .returned (.bool true) ∧ J S (pre ++ [x]) B ∧ KpI S A B) ∨ (e = .returned (.bool false) ∧ Jx S (pre ++ [x]) B ∧ KpI S A B)) →
    (∀ S B, Nw W B → (∀ k, S k → W.heap.size ≤ k ∧ k < B.heap.size) → J S [] B) →
    CallsIn F n P g (#[.func (.yield l) #[] #[]] ++ lb) W fun e W' => (∃ v, e = .returned v) ∧ ∃ S, (J S xs W' ∨ ∃ pre, pre <+: xs ∧ Jx S pre W')
/-- The loop's two blocks lie as they lay. -/
def KpJ (n₀ : Nat) (A B : World) : Prop := ∀ k, (k = n₀ ∨ k = n₀ + 1) → B.heap[k]? = A.heap[k]?
/-- How the body of a round may be left. -/
def riPost (n₀ : Nat) (S : Nat → Prop) (I : (Nat → Prop) → List Int → World → Prop) (Ix : Code → (Nat → Prop) → List Int → World → Prop) (pre : List Int) (A : World) : Exit → Act → World → Prop
  | .normal, _, B => KpJ n₀ A B ∧ KpI S A B ∧ I S pre B
  | .ret, _, B => KpJ n₀ A B ∧ KpI S A B ∧ Ix .ret S pre B
  | .exit id, _, B => KpJ n₀ A B ∧ KpI S A B ∧ Ix (.exit id) S pre B
  | .goto t, _, B => KpJ n₀ A B ∧ KpI S A B ∧ Ix (.goto t) S pre B
  | .panic _, _, _ => False
  | .outgrown, _, _ => False

variable {F : Fence} {n : Nat} {P : Program}
theorem ri_law {g : Operand} {ps : Array Tmp} {assign body : Code} {Q : Exit → Act → World → Prop} {a : Act} {w : World}
    (hro : F.round = none) (h1 : 1 ≤ n) {gf : Nat} {lb : Array Value} (hg : a.eval g = .func (.func gf) #[] lb) (hFg : F.fn gf) (eg : ∀ args w, (callFunc gf args).run P w = .ok (.enter gf args) w)
    {xs : List Int} (hseq : SeqI F (n - 1) P gf lb xs w) (hps : ps.size = 1)
    (I : (Nat → Prop) → List Int → World → Prop) (Ix : Code → (Nat → Prop) → List Int → World → Prop)
    (hI : ∀ S pre A l o o', I S pre A → (l = w.heap.size ∨ l = w.heap.size + 1) → A.heap[l]? = some o → o.isCells = false → I S pre (A.putObj l o'))
    (hIx : ∀ c S pre A l o o', Ix c S pre A → (l = w.heap.size ∨ l = w.heap.size + 1) → A.heap[l]? = some o → o.isCells = false → Ix c S pre (A.putObj l o'))
    (h0 : ∀ S W, Nw w W → (∀ k, S k → w.heap.size ≤ k ∧ k < W.heap.size) → I S [] W) (a₁ : Int → Act)
    (hassign : ∀ (l : Nat) (x : Int) (A : World) (K : Act → World → Prop), K (a₁ x) A →
      assign.wpIn (F.inRound l) (n - 1 - 1) P (Exit.then K (fun _ _ _ => False)) { tmps := (ps.zip #[.int .i64 x]).foldl (fun t (p, v) => t.setIfInBounds p v) a.tmps, defers := [] } A)
    (hbody : ∀ (l : Nat) (S : Nat → Prop) (pre : List Int) (x : Int) (A : World), I S pre A → (∀ k, (k = w.heap.size ∨ k = w.heap.size + 1) → ∃ o, A.heap[k]? = some o ∧ o.isCells = false) →
      (pre ++ [x]) <+: xs → body.wpIn (F.inRound l) (n - 1 - 1) P (riPost w.heap.size S I Ix (pre ++ [x]) A) (a₁ x) A)
    (hdone : ∀ (D : Nat) (S : Nat → Prop) (W : World), D = w.heap.size → I S xs W → W.heap[D]? = some (.deferred (some [])) → Q .normal { a with defers := { target := .collected D, args := #[] } :: a.defers } W)
    (hstop : ∀ (D : Nat) (c : Code) (S : Nat → Prop) (pre : List Int) (W : World), D = w.heap.size → pre <+: xs → Ix c S pre W → W.heap[D]? = some (.deferred (some [])) → c.wpIn F n P Q { a with defers := { target := .collected D, args := #[] } :: a.defers } W) :
    (Code.rangeFunc g ps assign body).wpIn F n P Q a w := by
  refine wpIn_rangeFunc ?_
  intro fn hfn
  rw [hro]
  obtain ⟨rec, hrec⟩ : ∃ rec : LoopState → Option Code → Loop, rec = fun st pe => { state := st, pending := pe, fn, tmps := a.tmps, params := ps, assign, body, defers := w.heap.size } := ⟨_, rfl⟩
  obtain ⟨W1, hW1⟩ : ∃ W1, (w.alloc (.deferred (some []))).alloc (.loop (rec .ready none)) = W1 := ⟨_, rfl⟩
  have hL1 : W1.heap[w.heap.size + 1]? = some (.loop (rec .ready none)) := by
    rw [← hW1]; have := World.alloc_heap_new (w.alloc (.deferred (some []))) (.loop (rec .ready none)); rwa [World.size_alloc] at this
  have hK1 : W1.heap[w.heap.size]? = some (.deferred (some [])) := by
    rw [← hW1]; exact (Below.heap_alloc _ _ _ (by simp)).trans (World.alloc_heap_new w _)
  have hb1 : Nw w W1 := by rw [← hW1]; exact ((Nw.refl w).alloc _).alloc _
  refine ⟨w.heap.size + 1, [{ target := .collected w.heap.size, args := #[] }], W1, { target := .fn (.func gf) lb, args := #[.func (.yield (w.heap.size + 1)) #[] #[]] }, W1, gf,
    #[.func (.yield (w.heap.size + 1)) #[] #[]] ++ lb, W1, ?_, ?_, ?_, ?_, fun _ => h1, ?_⟩
  · rw [← hW1, hrec]; exact run_enterLoop_outer _ _ _ _ _
  · simp only [resolve, hg]
    simp [go_sem]
  · intro f' hf'; simp [Target.leads] at hf'; subst hf'; exact hFg
  · simp [invoke, go_sem, eg]
  · have lt_of : ∀ {A : World} {k : Nat} {o : Obj}, A.heap[k]? = some o → k < A.heap.size := fun h => (Array.getElem?_eq_some_iff.1 h).1
    refine (hseq (w.heap.size + 1)
      (fun S pre W => I S pre W ∧ W.heap[w.heap.size + 1]? = some (.loop (rec .ready none)) ∧ W.heap[w.heap.size]? = some (.deferred (some [])) ∧ ¬ S (w.heap.size + 1) ∧ ¬ S w.heap.size)
      (fun S pre W => ∃ c, Ix c S pre W ∧ W.heap[w.heap.size + 1]? = some (.loop (rec .done (some c))) ∧ W.heap[w.heap.size]? = some (.deferred (some [])) ∧ ¬ S (w.heap.size + 1) ∧ ¬ S w.heap.size)
      W1 hb1 ?_ (fun S B g hS => ⟨h0 S B (hb1.trans g) (fun k e => ⟨Nat.le_trans hb1.sz (hS k e).1, (hS k e).2⟩), (g.block _ (lt_of hL1)).trans hL1, (g.block _ (lt_of hK1)).trans hK1, fun e => by have := (hS _ e).1; have := lt_of hL1; omega, fun e => by have := (hS _ e).1; have := lt_of hK1; omega⟩)).mono ?_
    · -- one round
      rintro S pre x W ⟨hi, hl, hk, hn1, hn2⟩ hpre
      have hy := run_yield (P := P) (args := #[.int .i64 x]) hl (by rw [hrec]; exact hps.symm)
      rw [hrec] at hy
      refine ⟨fn, _, assign, body, hy, roundIn_of_wpIn hfn (hassign _ x W _ ?_)⟩
      clear hy
      refine ⟨_, run_beginRound hl (by rw [hrec]), ?_⟩
      obtain ⟨A2, hA2⟩ : ∃ A2, W.putObj (w.heap.size + 1) (.loop { rec .ready none with state := .busy }) = A2 := ⟨_, rfl⟩
      rw [hA2]
      have hl2 : A2.heap[w.heap.size + 1]? = some (.loop { rec .ready none with state := .busy }) := by rw [← hA2]; exact World.putObj_heap_same (lt_of hl)
      have hk2 : A2.heap[w.heap.size]? = some (.deferred (some [])) := by rw [← hA2]; exact (World.putObj_heap_other (by omega)).trans hk
      have hi2 : I S pre A2 := by rw [← hA2]; exact hI S pre W _ _ _ hi (.inr rfl) hl rfl
      have kps : KpI S W A2 := by rw [← hA2]; exact KpI.put _ hn1
      refine wpIn_mono (hbody _ S pre x A2 hi2 (fun k e => by
        rcases e with rfl | rfl
        · exact ⟨_, hk2, rfl⟩
        · exact ⟨_, hl2, rfl⟩) hpre) ?_
      have fin : ∀ (jump : Option Code) (W3 : World), KpJ w.heap.size A2 W3 →
          (Instr.endRound (w.heap.size + 1) jump).run P W3 = .ok (.bool jump.isNone) (W3.putObj (w.heap.size + 1) (.loop (rec (if jump.isNone then .ready else .done) jump))) ∧
          W3.heap[w.heap.size + 1]? = some (.loop { rec .ready none with state := .busy }) ∧
          (W3.putObj (w.heap.size + 1) (.loop (rec (if jump.isNone then .ready else .done) jump))).heap[w.heap.size + 1]? = some (.loop (rec (if jump.isNone then .ready else .done) jump)) ∧
          (W3.putObj (w.heap.size + 1) (.loop (rec (if jump.isNone then .ready else .done) jump))).heap[w.heap.size]? = some (.deferred (some [])) := fun jump W3 hk3 => by
        have hl3 := (hk3 _ (.inr rfl)).trans hl2
        have := run_endRound (P := P) jump hl3
        rw [hrec] at this ⊢
        exact ⟨this, by rw [hrec] at hl3; exact hl3, World.putObj_heap_same (lt_of hl3), (World.putObj_heap_other (by omega)).trans ((hk3 _ (.inl rfl)).trans hk2)⟩
      rintro e a3 W3 hp
      cases e with
      | normal =>
        obtain ⟨hk3, hkp3, hi3⟩ := hp
        obtain ⟨hr, hl3, hl4, hk4⟩ := fin none W3 hk3
        exact ⟨_, _, hr, .inl ⟨rfl, ⟨hI S _ W3 _ _ _ hi3 (.inr rfl) hl3 rfl, hl4, hk4, hn1, hn2⟩, (kps.trans hkp3).trans (KpI.put _ hn1)⟩⟩
      | ret =>
        obtain ⟨hk3, hkp3, hi3⟩ := hp
        obtain ⟨hr, hl3, hl4, hk4⟩ := fin (some .ret) W3 hk3
        exact ⟨_, _, hr, .inr ⟨rfl, ⟨.ret, hIx _ S _ W3 _ _ _ hi3 (.inr rfl) hl3 rfl, hl4, hk4, hn1, hn2⟩, (kps.trans hkp3).trans (KpI.put _ hn1)⟩⟩
      | exit id =>
        obtain ⟨hk3, hkp3, hi3⟩ := hp
        obtain ⟨hr, hl3, hl4, hk4⟩ := fin (some (.exit id)) W3 hk3
        exact ⟨_, _, hr, .inr ⟨rfl, ⟨.exit id, hIx _ S _ W3 _ _ _ hi3 (.inr rfl) hl3 rfl, hl4, hk4, hn1, hn2⟩, (kps.trans hkp3).trans (KpI.put _ hn1)⟩⟩
      | goto t =>
        obtain ⟨hk3, hkp3, hi3⟩ := hp
        obtain ⟨hr, hl3, hl4, hk4⟩ := fin (some (.goto t)) W3 hk3
        exact ⟨_, _, hr, .inr ⟨rfl, ⟨.goto t, hIx _ S _ W3 _ _ _ hi3 (.inr rfl) hl3 rfl, hl4, hk4, hn1, hn2⟩, (kps.trans hkp3).trans (KpI.put _ hn1)⟩⟩
      | panic ch => exact hp.elim
      | outgrown => exact hp.elim
    · -- behind the iterator
      rintro e W2 ⟨⟨v, rfl⟩, S, (⟨hi, hl, hk, hn1, hn2⟩ | ⟨pre, hp, c, hi, hl, hk, hn1, hn2⟩)⟩
      · exact ⟨none, _, by have := run_endLoop (P := P) hl (by rw [hrec]; simp); rw [hrec] at this; exact this,
          hdone _ S _ rfl (hI S _ W2 _ _ _ hi (.inr rfl) hl rfl) ((World.putObj_heap_other (by omega)).trans hk)⟩
      · exact ⟨some c, _, by have := run_endLoop (P := P) hl (by rw [hrec]; simp); rw [hrec] at this; exact this,
          hstop _ c S pre _ rfl hp (hIx c S pre W2 _ _ _ hi (.inr rfl) hl rfl) ((World.putObj_heap_other (by omega)).trans hk)⟩
end Go.Proofs.YtfemopcichmlmaaGreatRRR
end

/- The document's own pool. -/
section
namespace Go.Proofs.YtfemopcichmlmaaGreatRRR
open Go.RowKit
set_option linter.unusedVariables false

/-- The document's own pool in memory: a row of truths. -/
structure Rp (W : World) (o g : Nat) (L : List Bool) : Prop where
  p0 : W.cell? ⟨o, 0, none⟩ = some (.slice (some ⟨g, 0, none⟩) L.length L.length)
  cs : ∀ i, i < L.length → W.cell? ⟨g, i, none⟩ = some (.bool (L.getD i false)) ∧ W.frozen? ⟨g, i, none⟩ = false
  ol : o < W.heap.size
  gl : g < W.heap.size
  og : g ≠ o
  sz : L.length ≤ 128
theorem Rp.tch {S : Nat → Prop} {W W' : World} {o g : Nat} {L : List Bool} (h : Rp W o g L) (k : Tch S W W') (ho : ¬ S o) (hg : ¬ S g) : Rp W' o g L :=
  ⟨(k.cell h.ol ho).trans h.p0, fun i hi => ⟨(k.cell h.gl hg).trans (h.cs i hi).1, (k.froz h.gl hg).trans (h.cs i hi).2⟩, Nat.lt_of_lt_of_le h.ol k.size, Nat.lt_of_lt_of_le h.gl k.size, h.og, h.sz⟩
theorem Rp.nw {W W' : World} {o g : Nat} {L : List Bool} (h : Rp W o g L) (k : Nw W W') : Rp W' o g L := h.tch (Tch.nw (S := fun _ => False) k) (fun e => e) (fun e => e)
def RpTo (W : World) (o g : Nat) (L : List Bool) (W' : World) : Prop := Rp W' o g L ∧ Tch (fun k => k = g) W W'
theorem Rp.keep {W : World} {o g : Nat} {L : List Bool} (h : Rp W o g L) : RpTo W o g L W := ⟨h, Tch.refl _ W⟩
theorem Rp.put {W : World} {o g : Nat} {L : List Bool} (h : Rp W o g L) {i : Nat} (b : Bool) (hi : i < L.length) : RpTo W o g (L.set i b) (W.setCell ⟨g, i, none⟩ (.bool b)) := by
  have t := setCell_at W ⟨g, i, none⟩ (.bool b)
  refine ⟨⟨by rw [List.length_set]; exact (t.cell h.ol (fun e => h.og e.symm)).trans h.p0, fun j hj => ?_, by simpa using h.ol, by simpa using h.gl, h.og, by rw [List.length_set]; exact h.sz⟩, t⟩
  rw [List.length_set] at hj
  refine ⟨?_, by rw [World.frozen?_setCell]; exact (h.cs j hj).2⟩
  by_cases q : i = j
  · subst q
    rw [getD_at (by simpa using hj), List.getElem_set_self]
    exact World.cell?_setCell_same _ _ _ (h.cs _ hj).1
  · rw [getD_at (by simpa using hj), List.getElem_set_ne q, ← getD_at hj]
    exact (World.cell?_setCell_other _ _ _ _ (fun r => q (congrArg Addr.off r))).trans (h.cs j hj).1

theorem rp_new (w : World) (N : Nat) (hN : N ≤ 128) (T U : TypeId) : Rp ((w.alloc (.cells (Array.replicate N (.bool false)) T)).alloc (.cells #[.slice (some ⟨w.heap.size, 0, none⟩) N N] U)) (w.heap.size + 1) w.heap.size (List.replicate N false) := by
  refine ⟨by simp [go_sem], fun i hi => ?_, by simp, by simp; omega, by omega, by simpa using hN⟩
  rw [List.length_replicate] at hi
  have e : (List.replicate N false).getD i false = false := by simp [List.getD, hi]
  rw [e]
  constructor <;> simp [go_sem, hi]
end Go.Proofs.YtfemopcichmlmaaGreatRRR
end

/- The document's own pool: Each, Live. -/
section
namespace Go.Proofs.YtfemopcichmlmaaGreatRRR
open Go.RowKit
set_option linter.unusedVariables false

theorem pwpList_append_run {P : Program} {w : World} {ops : Array Oper} {rest : List Oper} {o : Oper} {a : Act} {Q : Exit → Act → World → Prop}
    (hgd : Region.wanted o (yielded ops a.tmps) = true) (s x : Operand) (t : TypeId) (hop : o.op = Op.call { callee := Callee.builtin Builtin.append, args := #[s, x], argTypes := #[t, t] })
    (v u v' : Value) (w' : World) (hs : a.eval s = v) (hx : a.eval x = u) (hr : (Builtin.append_ #[t, t] o.type #[v, u]).run P w = .ok v' w') (h : wpList P ops Q rest (a.put o.dst v') w') : wpList P ops Q (o :: rest) a w := by
  refine wpList_step fun _ hK => ?_
  rw [if_pos hgd]
  unfold Oper.wp execOp
  simp only [hop, resolve, invoke, builtin, Sem.run_bind, Sem.run_pure, Result.andThen_ok, List.map_toArray, List.map_cons, List.map_nil, hs, hx, hr]
  exact hK _ _ h
/-- A call that returns a new list of numbers, or nil. -/
def PNewIS (w : World) (zs : List Int) (e : Ending) (w' : World) : Prop := ∃ v, e = .returned v ∧ IS w' v zs ∧ (∀ k, v.ownBlock = some k → w.heap.size ≤ k) ∧ Nw w w'
theorem castL_app (l m : List Nat) : castL (l ++ m) = castL l ++ castL m := List.map_append
theorem lntI_succ (L : List Bool) (k : Nat) : castL (lntT L (k + 1)) = castL (lntT L k) ++ (if L.getD k false = true then [(k : Int)] else []) := by
  rw [lntT_succ, castL_app]
  congr 1
  split <;> rfl
theorem castL_len (l : List Nat) : (castL l).length = l.length := by simp [castL]
end Go.Proofs.YtfemopcichmlmaaGreatRRR
end
