
/- permutes, keeps, Respects. -/
import Derived.Test.YtekjmgdockfaiaaDoorHsL
namespace Go.Proofs.YtekjmgdockfaiaaDoor
open Go.RowKit
set_option linter.unusedVariables false      -- a contract need not use every name

def ICells (w : World) (b o : Nat) (l : List Int) : Prop := b < w.heap.size ∧ ∀ i (h : i < l.length), w.cell? ⟨b, o + i, none⟩ = some (.int .i64 l[i])
theorem ICells.nw {w w' : World} {b o : Nat} {l : List Int} (h : ICells w b o l) (g : Nw w w') : ICells w' b o l := ⟨Nat.lt_of_lt_of_le h.1 g.sz, fun i hi => (g.cell h.1).trans (h.2 i hi)⟩
abbrev IntsAt := RowAt ICells
theorem IntsAt.nw {w w' : World} {v : Value} {l : List Int} (h : IntsAt w v l) (g : Nw w w') : IntsAt w' v l := RowAt.nw' (C := ICells) (fun h g => ICells.nw h g) h g
theorem IS.at {w : World} {v : Value} {l : List Int} (h : IS w v l) : IntsAt w v l := by
  rcases h.form with ⟨rfl, rfl⟩ | ⟨g, cap, rfl⟩
  · exact ⟨none, 0, rfl, .inl rfl⟩
  · refine ⟨_, cap, rfl, .inr ⟨g, 0, rfl, h.glt, fun i hi => ?_⟩⟩
    rw [Nat.zero_add, h.cell i hi]
    simp [List.getD, hi]
/-- Each number below n, none twice. -/
def permG (n : Nat) : List Int → List Nat → Bool
  | [], _ => true
  | i :: r, S => if i < 0 ∨ (n : Int) ≤ i then false else if S.contains i.toNat = true then false else permG n r (i.toNat :: S)
theorem permG_cons (n : Nat) (i : Int) (r : List Int) (S : List Nat) : permG n (i :: r) S = if i < 0 ∨ (n : Int) ≤ i then false else if S.contains i.toNat = true then false else permG n r (i.toNat :: S) := rfl
theorem ret_bool {a b : Bool} (h : a = b) : Ending.returned (.bool a) = .returned (.bool b) := by rw [h]
theorem nw_set {w0 w : World} (h : Nw w0 w) {B i : Nat} (hB : w0.heap.size ≤ B) (v : Value) : Nw w0 (w.setCell ⟨B, i, none⟩ v) := Below.setCell h hB v
theorem mk_bools (w : World) (N : Nat) (hN : N ≤ 1000) : (Instr.makeSlice 66 (.int .i64 N) (.int .i64 N)).run Tryd.prog w = .ok (.slice (some ⟨w.heap.size, 0, none⟩) N N) (w.alloc (.cells (Array.replicate N (.bool false)) 4)) := by
  obtain ⟨i0, hi, hz0, hz1, hz2⟩ := info_parts (show (Tryd.prog.info? 4).map (fun i => (i.zero, i.size, i.bytes)) = some (some (.bool false), 1, 1) by kernel_rfl)
  have h := run_make (P := Tryd.prog) w 66 4 i0 (.bool false) Tryd.underlying66 hi hz0 .i64 .i64 N N (by omega) (Int.le_refl _) (by rw [hz2]; omega) (by omega)
  have e : madeCells (Value.bool false).cells (N * 1) = Array.replicate N (.bool false) := by
    apply Array.ext
    · simp [madeCells]
    · intro j h1 h2
      simp [madeCells, Value.cells, Nat.mod_one]
  rw [h, hz1]
  simp only [Int.toNat_natCast, e]
/-- A row of truths: which numbers have come. -/
def SeenR (w : World) (B N : Nat) (S : List Nat) : Prop := B < w.heap.size ∧ ∀ j, j < N → w.cell? ⟨B, j, none⟩ = some (.bool (S.contains j)) ∧ w.frozen? ⟨B, j, none⟩ = false
theorem SeenR.put {w : World} {B N : Nat} {S : List Nat} (h : SeenR w B N S) {j : Nat} (hj : j < N) : SeenR (w.setCell ⟨B, j, none⟩ (.bool true)) B N (j :: S) := by
  refine ⟨by simp [World.setCell]; exact h.1, fun i hi => ⟨?_, ?_⟩⟩
  · by_cases q : i = j
    · subst q
      rw [World.cell?_setCell_same _ _ _ (h.2 i hj).1]
      simp
    · rw [World.cell?_setCell_other _ _ _ _ (by first | (simp; done) | (simp; omega)), (h.2 i hi).1]
      simp [q]
  · rw [World.frozen?_setCell]; exact (h.2 i hi).2
set_option maxRecDepth 100000 in
set_option maxHeartbeats 1000000 in
theorem permutes_rows (b o c : Nat) (l : List Int) (w : World) (hm : l.length ≤ 900) (h : ICells w b o l) :
    Calls Tryd.prog 21 #[.slice (some ⟨b, o, none⟩) l.length c, .int .i64 (l.length : Int)] w fun e w' => e = .returned (.bool (permG l.length l [])) ∧ Nw w w' := by
  have hmk := fun w : World => mk_bools w l.length (by omega)
  have H := Lib.hid h
  clear h
  go_enter Tryd.func21, Tryd.ntmps21
  go_wp2
  go_loopw [16] (fun i wr => ∃ (k : Nat) (S : List Nat), k ≤ l.length ∧ i = .int .i64 k ∧ SeenR wr w.heap.size l.length S ∧ permG l.length (l.drop k) S = permG l.length l [] ∧ Nw w wr) (fun i _ => l.length - (intOf i).toNat)
  case atStart =>
    refine ⟨0, [], Nat.zero_le _, rfl, ⟨by simp, fun j hj => ⟨?_, ?_⟩⟩, rfl, (Nw.refl w).alloc _⟩
    · rw [heap_cell (alloc_at w (Array.replicate l.length (.bool false)) 4)]; simp [hj]
    · exact heap_fz (alloc_at w (Array.replicate l.length (.bool false)) 4)
  case round =>
    obtain ⟨k, S, hk, rfl, hS, hE, hN⟩ := hrel
    by_cases hlt : k < l.length
    · have c0 := (H.out.nw hN).2 k hlt
      have hbl := (H.out.nw hN).1
      rw [List.drop_eq_getElem_cons hlt, permG_cons] at hE
      generalize l[k] = x at *
      have HN := Lib.hid hN
      have HE := Lib.hid hE
      clear hN hE
      by_cases hx : x < 0
      · have d0 : decide (x < 0) = true := by simpa using hx
        go_wp2
        go_ret
        exact ⟨ret_bool (by rw [← HE.out, if_pos (.inl hx)]), HN.out⟩
      · obtain ⟨j, rfl⟩ : ∃ j : Nat, x = j := ⟨x.toNat, by omega⟩
        have d0 : decide ((j : Int) < 0) = false := by simp
        by_cases hj : j < l.length
        · have d1 : decide (l.length ≤ j) = false := by simpa using hj
          have q0 : (0 : Int) ≤ (j : Int) := by omega
          have q1 : (j : Int) < (l.length : Int) := by omega
          have s0 := (hS.2 j hj).1
          have s1 := (hS.2 j hj).2
          have hB := hS.1
          have HS := Lib.hid hS
          clear hS
          obtain ⟨Bv, hBv⟩ : ∃ Bv, S.contains j = Bv := ⟨_, rfl⟩
          rw [hBv] at s0
          have HV := Lib.hid hBv
          clear hBv
          cases Bv
          case true =>
            go_wp2
            go_ret
            exact ⟨ret_bool (by rw [← HE.out, if_neg (by omega), Int.toNat_natCast, if_pos HV.out]), HN.out⟩
          case false =>
            have HP := Lib.hid (HS.out.put hj)
            have HM := Lib.hid (show Nw w (wr.setCell ⟨w.heap.size, j, none⟩ (.bool true)) from Below.setCell HN.out (Nat.le_refl _) _)
            have HE2 : Hid (permG l.length (l.drop (k + 1)) (j :: S) = permG l.length l []) := by
              have e := HE.out
              rw [if_neg (by omega), Int.toNat_natCast, if_neg (by rw [HV.out]; simp)] at e
              exact Lib.hid e
            clear HS HE HN HV
            go_wp2
            go_roundw
            case rel => exact ⟨k + 1, _, by omega, by go_num, HP.out, HE2.out, HM.out⟩
            case measure => simp [intOf]; omega
        · have d1 : decide (l.length ≤ j) = true := by simpa using hj
          go_wp2
          go_ret
          exact ⟨ret_bool (by rw [← HE.out, if_pos (by omega)]), HN.out⟩
    · have hke : k = l.length := by omega
      subst hke
      rw [List.drop_length] at hE
      have HX := Lib.hid (And.intro hE hN)
      clear hE hN hS
      go_wp2
      go_ret
      exact ⟨ret_bool (by rw [← HX.out.1]; rfl), HX.out.2⟩
set_option maxHeartbeats 1000000 in
theorem permutes_none (a : Option Addr) (c : Nat) (w : World) : Calls Tryd.prog 21 #[.slice a 0 c, .int .i64 0] w fun e w' => e = .returned (.bool true) ∧ Nw w w' := by
  have hmk := fun w : World => mk_bools w 0 (by omega)
  have hmk' : ∀ w : World, (Instr.makeSlice 66 (.int .i64 0) (.int .i64 0)).run Tryd.prog w = .ok (.slice (some ⟨w.heap.size, 0, none⟩) 0 0) (w.alloc (.cells (Array.replicate 0 (.bool false)) 4)) := hmk
  clear hmk
  go_enter Tryd.func21, Tryd.ntmps21
  go_wp2
  refine wp_loop_rounds 1 ?_
  repeat (rw [rounds_succ]; go_wp2)
  go_ret
  exact ⟨rfl, (Nw.refl w).alloc _⟩
theorem permutes_len (a : Option Addr) (c m n : Nat) (w : World) (h : m ≠ n) : Calls Tryd.prog 21 #[.slice a m c, .int .i64 (n : Int)] w fun e w' => e = .returned (.bool false) ∧ Nw w w' := by
  have d0 : ((m : Int) != (n : Int)) = true := by simp; omega
  have d1 : (m != n) = true := by simpa using h
  go_enter Tryd.func21, Tryd.ntmps21
  go_wp2
  go_ret
  exact ⟨rfl, Nw.refl _⟩
def permL (n : Nat) (l : List Int) : Bool := decide (l.length = n) && permG n l []
theorem permutes_any (v : Value) (l : List Int) (n : Nat) (w : World) (hm : l.length ≤ 900) (h : IntsAt w v l) : Calls Tryd.prog 21 #[v, .int .i64 (n : Int)] w fun e w' => e = .returned (.bool (permL n l)) ∧ Nw w w' := by
  obtain ⟨a, c, rfl, hr⟩ := h
  unfold permL
  by_cases q : l.length = n
  · subst q
    rw [show decide (l.length = l.length) = true by simp, Bool.true_and]
    rcases hr with rfl | ⟨b, o, rfl, hc⟩
    · exact permutes_none a c w
    · exact permutes_rows b o c l w hm hc
  · rw [show decide (l.length = n) = false by simpa using q, Bool.false_and]
    exact permutes_len a c _ n w q

/-! ### keeps -/
def z0 : Sp := ⟨0, 0, 0, 0, ⟨0, 0, 0, 0, 0, 0⟩⟩
def kp (S : List Sp) : Sp → List Int → Bool
  | _, [] => true
  | last, i :: r => if befS (S.getD i.toNat z0) last = true then false else kp S (if last.fr < (S.getD i.toNat z0).fr then S.getD i.toNat z0 else last) r
theorem kp_cons (S : List Sp) (last : Sp) (i : Int) (r : List Int) : kp S last (i :: r) = if befS (S.getD i.toNat z0) last = true then false else kp S (if last.fr < (S.getD i.toNat z0).fr then S.getD i.toNat z0 else last) r := rfl
def putZ (w : World) (B : Nat) (s : Sp) : World := ((((((((((w).setCell ⟨B, 0, none⟩ (.int .i64 s.call)).setCell ⟨B, 1, none⟩ (.int .i64 s.thread)).setCell ⟨B, 2, none⟩ (.int .i64 s.fr)).setCell ⟨B, 3, none⟩ (.int .i64 s.to)).setCell ⟨B, 4, none⟩ (.int .i64 s.act.kind)).setCell ⟨B, 5, none⟩ (.int .i64 s.act.txn)).setCell ⟨B, 6, none⟩ (.int .i64 s.act.tab)).setCell ⟨B, 7, none⟩ (.int .i64 s.act.rcd)).setCell ⟨B, 8, none⟩ (.int .i64 s.act.mode)).setCell ⟨B, 9, none⟩ (.int .i64 s.act.code)
def spC (s : Sp) : Array Value := #[.int .i64 s.call, .int .i64 s.thread, .int .i64 s.fr, .int .i64 s.to, .int .i64 s.act.kind, .int .i64 s.act.txn, .int .i64 s.act.tab, .int .i64 s.act.rcd, .int .i64 s.act.mode, .int .i64 s.act.code]
theorem putZ_heap {w : World} {B : Nat} {s t : Sp} (h : w.heap[B]? = some (.cells (spC t) 45 (0, 0))) : (putZ w B s).heap[B]? = some (.cells (spC s) 45 (0, 0)) := by
  unfold putZ
  rw [set_heap _ (set_heap _ (set_heap _ (set_heap _ (set_heap _ (set_heap _ (set_heap _ (set_heap _ (set_heap _ (set_heap _ h)))))))))]
  simp [spC]
theorem drew_heap {W : World} {B : Nat} {o : Obj} (h : W.heap[B]? = some o) : W.drew.heap[B]? = some o := h
theorem putZ_heap' {w : World} {B : Nat} {s t : Sp} (h : w.heap[B]? = some (.cells (spC t) 45 (0, 0))) : (putZ w B s).drew.heap[B]? = some (.cells (spC s) 45 (0, 0)) := drew_heap (putZ_heap h)
theorem putZ_nw {w0 w : World} {B : Nat} {s : Sp} (h : Nw w0 w) (hB : w0.heap.size ≤ B) : Nw w0 (putZ w B s) := by
  unfold putZ
  exact nw_set (nw_set (nw_set (nw_set (nw_set (nw_set (nw_set (nw_set (nw_set (nw_set h hB _) hB _) hB _) hB _) hB _) hB _) hB _) hB _) hB _) hB _
theorem spC_at {w : World} {B : Nat} {s : Sp} (h : w.heap[B]? = some (.cells (spC s) 45 (0, 0))) (c : Nat) (u : Value) (hu : (srow s)[c]? = some u) : w.cell? ⟨B, c, none⟩ = some u := by
  rw [heap_cell h, ← hu, ← Array.getElem?_toList]; rfl

set_option maxRecDepth 100000 in
set_option maxHeartbeats 1000000 in
theorem keeps_rows (b o c b' o' c' : Nat) (S : List Sp) (l : List Int) (w : World) (hm : l.length ≤ 900) (hS : SCells w b o S) (hl : ICells w b' o' l) (hr : ∀ i ∈ l, 0 ≤ i ∧ i < (S.length : Int)) :
    Calls Tryd.prog 22 #[.slice (some ⟨b, o, none⟩) S.length c, .slice (some ⟨b', o', none⟩) l.length c', .func (.func 13) #[] #[]] w fun e w' => e = .returned (.bool (kp S z0 l)) ∧ Nw w w' := by
  have H := Lib.hid (And.intro hS hl)
  have HR := Lib.hid hr
  clear hS hl hr
  go_enter Tryd.func22, Tryd.ntmps22
  go_wp2
  go_loopw [12] (fun i wr => ∃ (k : Nat) (t : Sp), k ≤ l.length ∧ i = .int .i64 k ∧ wr.heap[w.heap.size]? = some (.cells (spC t) 45 (0, 0)) ∧ kp S t (l.drop k) = kp S z0 l ∧ Nw w wr) (fun i _ => l.length - (intOf i).toNat)
  case atStart => exact ⟨0, z0, Nat.zero_le _, rfl, alloc_at w (spC z0) 45, rfl, (Nw.refl w).alloc _⟩
  case round =>
    obtain ⟨k, t, hk, rfl, hB, hE, hN⟩ := hrel
    by_cases hlt : k < l.length
    · have c0 := (H.out.2.nw hN).2 k hlt
      have hb' := (H.out.2.nw hN).1
      have hrk := HR.out _ (List.getElem_mem hlt)
      rw [List.drop_eq_getElem_cons hlt, kp_cons] at hE
      generalize l[k] = x at *
      obtain ⟨j, rfl⟩ : ∃ j : Nat, x = j := ⟨x.toNat, by omega⟩
      have hj : j < S.length := by omega
      have q0 : (0 : Int) ≤ (j : Int) := by omega
      have q1 : (j : Int) < (S.length : Int) := by omega
      have hse := (H.out.1.nw hN).2 j hj
      have hb := (H.out.1.nw hN).1
      have hgd : S.getD j z0 = S[j] := by simp [List.getD, hj]
      rw [Int.toNat_natCast, hgd] at hE
      generalize S[j] = s at *
      have s0 := hse 0 _ rfl
      have s1 := hse 1 _ rfl
      have s2 := hse 2 _ rfl
      have s3 := hse 3 _ rfl
      have s4 := hse 4 _ rfl
      have s5 := hse 5 _ rfl
      have s6 := hse 6 _ rfl
      have s7 := hse 7 _ rfl
      have s8 := hse 8 _ rfl
      have s9 := hse 9 _ rfl
      simp only [Nat.add_zero] at s0
      have hte := spC_at hB
      have t0 := hte 0 _ rfl
      have t1 := hte 1 _ rfl
      have t2 := hte 2 _ rfl
      have t3 := hte 3 _ rfl
      have t4 := hte 4 _ rfl
      have t5 := hte 5 _ rfl
      have t6 := hte 6 _ rfl
      have t7 := hte 7 _ rfl
      have t8 := hte 8 _ rfl
      have t9 := hte 9 _ rfl
      have fz : ∀ i, wr.frozen? ⟨w.heap.size, i, none⟩ = false := fun i => heap_fz hB
      have hlB := heap_lt hB
      have HB0 := Lib.hid hB
      have HN := Lib.hid hN
      have HE := Lib.hid hE
      clear hse hte hB hN hE hgd
      have HBef := Lib.hid (before_any s t)
      by_cases h1 : befS s t = true
      · rw [h1] at HBef
        go_wp2
        refine wp_region_still_tail 6 (by kernel_rfl) (by kernel_rfl) ?_
        simp only [List.take_succ_cons, List.take_zero, List.drop_succ_cons, List.drop_zero]
        repeat still_step
        try refine wpStill_nil ?_
        change wpList _ _ _ _ _ wr.drew
        go_wp2_with (go_at_call 13; refine (HBef.out _).mono ?_; rintro e w1 ⟨rfl, g1⟩)
        go_ret
        exact ⟨ret_bool (by rw [← HE.out, if_pos h1]), (HN.out.drew1).trans g1⟩
      · have h1' : befS s t = false := by simpa using h1
        rw [h1'] at HBef
        have HE2 := Lib.hid (HE.out)
        rw [if_neg (by rw [h1']; simp)] at HE2
        clear HE h1
        have FZ := Lib.hid fz
        clear fz
        have d0 : decide (t.fr < s.fr) = decide (t.fr < s.fr) := rfl
        by_cases h2 : t.fr < s.fr
        · have d2 : decide (t.fr < s.fr) = true := by simpa using h2
          rw [if_pos h2] at HE2
          go_wp2
          refine wp_region_still_tail 6 (by kernel_rfl) (by kernel_rfl) ?_
          simp only [List.take_succ_cons, List.take_zero, List.drop_succ_cons, List.drop_zero]
          repeat still_step
          try refine wpStill_nil ?_
          change wpList _ _ _ _ _ wr.drew
          go_wp2_with (go_at_call 13; refine (HBef.out _).mono ?_; rintro e w1 ⟨rfl, g1⟩)
          have g2 : Nw wr w1 := (Nw.refl wr).drew1.trans g1
          have s0' := g2.keep' s0
          have s1' := g2.keep' s1
          have s2' := g2.keep' s2
          have s3' := g2.keep' s3
          have s4' := g2.keep' s4
          have s5' := g2.keep' s5
          have s6' := g2.keep' s6
          have s7' := g2.keep' s7
          have s8' := g2.keep' s8
          have s9' := g2.keep' s9
          have t0' := g2.keep' t0
          have t1' := g2.keep' t1
          have t2' := g2.keep' t2
          have t3' := g2.keep' t3
          have t4' := g2.keep' t4
          have t5' := g2.keep' t5
          have t6' := g2.keep' t6
          have t7' := g2.keep' t7
          have t8' := g2.keep' t8
          have t9' := g2.keep' t9
          have f0 : w1.frozen? ⟨w.heap.size, 0, none⟩ = false := (g2.froz hlB).trans (FZ.out 0)
          have f1 : w1.frozen? ⟨w.heap.size, 1, none⟩ = false := (g2.froz hlB).trans (FZ.out 1)
          have f2 : w1.frozen? ⟨w.heap.size, 2, none⟩ = false := (g2.froz hlB).trans (FZ.out 2)
          have f3 : w1.frozen? ⟨w.heap.size, 3, none⟩ = false := (g2.froz hlB).trans (FZ.out 3)
          have f4 : w1.frozen? ⟨w.heap.size, 4, none⟩ = false := (g2.froz hlB).trans (FZ.out 4)
          have f5 : w1.frozen? ⟨w.heap.size, 5, none⟩ = false := (g2.froz hlB).trans (FZ.out 5)
          have f6 : w1.frozen? ⟨w.heap.size, 6, none⟩ = false := (g2.froz hlB).trans (FZ.out 6)
          have f7 : w1.frozen? ⟨w.heap.size, 7, none⟩ = false := (g2.froz hlB).trans (FZ.out 7)
          have f8 : w1.frozen? ⟨w.heap.size, 8, none⟩ = false := (g2.froz hlB).trans (FZ.out 8)
          have f9 : w1.frozen? ⟨w.heap.size, 9, none⟩ = false := (g2.froz hlB).trans (FZ.out 9)
          have hl1 : w.heap.size < w1.heap.size := Nat.lt_of_lt_of_le hlB g2.sz
          have hb1 : b < w1.heap.size := Nat.lt_of_lt_of_le hb g2.sz
          have HB1 : Hid (w1.heap[w.heap.size]? = some (.cells (spC t) 45 (0, 0))) := Lib.hid ((g2.block _ hlB).trans HB0.out)
          have HN1 := Lib.hid (HN.out.trans g2)
          clear g1 g2 HN HB0 FZ HBef s0 t0 s1 t1 s2 t2 s3 t3 s4 t4 s5 t5 s6 t6 s7 t7 s8 t8 s9 t9
          have HP1 := Lib.hid (And.intro (putZ_heap' (s := s) HB1.out) (putZ_nw (s := s) HN1.out (Nat.le_refl _)).drew1)
          unfold putZ at HP1
          go_region
          all_goals
            go_wp2
            go_roundw
            case rel =>
              exact ⟨k + 1, s, by omega, by go_num, HP1.out.1, HE2.out, HP1.out.2⟩
            case measure => simp [intOf]; omega
        · have d2 : decide (t.fr < s.fr) = false := by simpa using h2
          rw [if_neg h2] at HE2
          go_wp2
          refine wp_region_still_tail 6 (by kernel_rfl) (by kernel_rfl) ?_
          simp only [List.take_succ_cons, List.take_zero, List.drop_succ_cons, List.drop_zero]
          repeat still_step
          try refine wpStill_nil ?_
          change wpList _ _ _ _ _ wr.drew
          go_wp2_with (go_at_call 13; refine (HBef.out _).mono ?_; rintro e w1 ⟨rfl, g1⟩)
          have g2 : Nw wr w1 := (Nw.refl wr).drew1.trans g1
          have s0' := g2.keep' s0
          have s1' := g2.keep' s1
          have s2' := g2.keep' s2
          have s3' := g2.keep' s3
          have s4' := g2.keep' s4
          have s5' := g2.keep' s5
          have s6' := g2.keep' s6
          have s7' := g2.keep' s7
          have s8' := g2.keep' s8
          have s9' := g2.keep' s9
          have t0' := g2.keep' t0
          have t1' := g2.keep' t1
          have t2' := g2.keep' t2
          have t3' := g2.keep' t3
          have t4' := g2.keep' t4
          have t5' := g2.keep' t5
          have t6' := g2.keep' t6
          have t7' := g2.keep' t7
          have t8' := g2.keep' t8
          have t9' := g2.keep' t9
          have f0 : w1.frozen? ⟨w.heap.size, 0, none⟩ = false := (g2.froz hlB).trans (FZ.out 0)
          have f1 : w1.frozen? ⟨w.heap.size, 1, none⟩ = false := (g2.froz hlB).trans (FZ.out 1)
          have f2 : w1.frozen? ⟨w.heap.size, 2, none⟩ = false := (g2.froz hlB).trans (FZ.out 2)
          have f3 : w1.frozen? ⟨w.heap.size, 3, none⟩ = false := (g2.froz hlB).trans (FZ.out 3)
          have f4 : w1.frozen? ⟨w.heap.size, 4, none⟩ = false := (g2.froz hlB).trans (FZ.out 4)
          have f5 : w1.frozen? ⟨w.heap.size, 5, none⟩ = false := (g2.froz hlB).trans (FZ.out 5)
          have f6 : w1.frozen? ⟨w.heap.size, 6, none⟩ = false := (g2.froz hlB).trans (FZ.out 6)
          have f7 : w1.frozen? ⟨w.heap.size, 7, none⟩ = false := (g2.froz hlB).trans (FZ.out 7)
          have f8 : w1.frozen? ⟨w.heap.size, 8, none⟩ = false := (g2.froz hlB).trans (FZ.out 8)
          have f9 : w1.frozen? ⟨w.heap.size, 9, none⟩ = false := (g2.froz hlB).trans (FZ.out 9)
          have hl1 : w.heap.size < w1.heap.size := Nat.lt_of_lt_of_le hlB g2.sz
          have hb1 : b < w1.heap.size := Nat.lt_of_lt_of_le hb g2.sz
          have HB1 : Hid (w1.heap[w.heap.size]? = some (.cells (spC t) 45 (0, 0))) := Lib.hid ((g2.block _ hlB).trans HB0.out)
          have HN1 := Lib.hid (HN.out.trans g2)
          clear g1 g2 HN HB0 FZ HBef s0 t0 s1 t1 s2 t2 s3 t3 s4 t4 s5 t5 s6 t6 s7 t7 s8 t8 s9 t9
          go_region
          all_goals
            go_wp2
            go_roundw
            case rel => exact ⟨k + 1, t, by omega, by go_num, HB1.out, HE2.out, HN1.out.drew1⟩
            case measure => simp [intOf]; omega
    · have hke : k = l.length := by omega
      subst hke
      rw [List.drop_length] at hE
      have HX := Lib.hid (And.intro hE hN)
      clear hE hN hB
      go_wp2
      go_ret
      exact ⟨ret_bool (by rw [← HX.out.1]; rfl), HX.out.2⟩
theorem keeps_any (v v' : Value) (S : List Sp) (l : List Int) (w : World) (hm : l.length ≤ 900) (hS : SpAt w v S) (hl : IntsAt w v' l) (hr : ∀ i ∈ l, 0 ≤ i ∧ i < (S.length : Int)) :
    Calls Tryd.prog 22 #[v, v', .func (.func 13) #[] #[]] w fun e w' => e = .returned (.bool (kp S z0 l)) ∧ Nw w w' := by
  obtain ⟨a', c', rfl, hl⟩ := hl
  obtain ⟨a, c, rfl, hS⟩ := hS
  rcases hl with rfl | ⟨b', o', rfl, hl⟩
  · go_enter Tryd.func22, Tryd.ntmps22
    go_wp2
    refine wp_loop_rounds 1 ?_
    repeat (rw [rounds_succ]; go_wp2)
    go_ret
    exact ⟨rfl, (Nw.refl w).alloc _⟩
  · rcases hS with rfl | ⟨b, o, rfl, hS⟩
    · cases l with
      | nil =>
        go_enter Tryd.func22, Tryd.ntmps22
        go_wp2
        refine wp_loop_rounds 1 ?_
        repeat (rw [rounds_succ]; go_wp2)
        go_ret
        exact ⟨rfl, (Nw.refl w).alloc _⟩
      | cons x r =>
        have := hr x (by simp)
        simp at this
        omega
    · exact keeps_rows b o c b' o' c' S l w hm hS hl hr
theorem permG_range (n : Nat) : ∀ (l : List Int) (S : List Nat), permG n l S = true → ∀ i ∈ l, 0 ≤ i ∧ i < (n : Int)
  | [], _, _ => by simp
  | x :: r, S, h => by
    rw [permG_cons] at h
    by_cases q : x < 0 ∨ (n : Int) ≤ x
    · rw [if_pos q] at h; cases h
    · rw [if_neg q] at h
      by_cases q2 : S.contains x.toNat = true
      · rw [if_pos q2] at h; cases h
      · rw [if_neg q2] at h
        intro i hi
        rcases List.mem_cons.1 hi with rfl | hi
        · omega
        · exact permG_range n r _ h i hi
def resp (S : List Sp) (l : List Int) : Bool := permL S.length l && kp S z0 l
theorem respects_any (v v' : Value) (S : List Sp) (l : List Int) (w : World) (hm : l.length ≤ 900) (hS : SpAt w v S) (hl : IntsAt w v' l) :
    Calls Tryd.prog 14 #[v, v'] w fun e w' => e = .returned (.bool (resp S l)) ∧ Nw w w' := by
  have HP := Lib.hid (permutes_any v' l S.length w hm hl)
  have HK := Lib.hid (fun (hr : ∀ i ∈ l, 0 ≤ i ∧ i < (S.length : Int)) (w1 : World) (g : Nw w w1) => keeps_any v v' S l w1 hm (hS.nw g) (hl.nw g) hr)
  unfold resp
  obtain ⟨a, c, rfl, _⟩ := hS
  obtain ⟨a', c', rfl, _⟩ := hl
  cases q : permL S.length l with
  | false =>
    rw [q] at HP
    go_enter Tryd.func14, Tryd.ntmps14
    go_wp2_with (go_at_call 21; refine HP.out.mono ?_; rintro e w1 ⟨rfl, g1⟩)
    go_ret
    exact ⟨rfl, g1⟩
  | true =>
    rw [q] at HP
    have hr : ∀ i ∈ l, 0 ≤ i ∧ i < (S.length : Int) := by
      unfold permL at q
      rw [Bool.and_eq_true] at q
      exact permG_range _ l [] q.2
    have HK' := Lib.hid (HK.out hr)
    clear HK hr q
    rw [Bool.true_and]
    obtain ⟨K, hK⟩ : ∃ K, kp S z0 l = K := ⟨_, rfl⟩
    rw [hK] at HK' ⊢
    clear hK
    go_enter Tryd.func14, Tryd.ntmps14
    go_wp2_with (first | (go_at_call 21; refine HP.out.mono ?_; rintro e w1 ⟨rfl, g1⟩) | (go_at_call 22; refine (HK'.out _ g1).mono ?_; rintro e w2 ⟨rfl, g2⟩))
    go_ret
    exact ⟨rfl, g1.trans g2⟩
end Go.Proofs.YtekjmgdockfaiaaDoor
