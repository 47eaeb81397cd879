/- Texts merged: QvC, QvD, QvE, QuK, QvK, QvF -/
import Derived.Test.YtodnlelnpidliaaGreatBucketHoldsB12
import Derived.Maps.OwnSet
import Derived.Maps.RangeWalk
import Derived.StillTailTactics
import Derived.Lib.SliceRun
import Derived.Deep.Upon

/- The developers' package queue: the order of turns. -/
section
namespace Go.Proofs.YtodnlelnpidliaaGreat
open Go.RowKit
set_option linter.unusedVariables false      -- a contract need not use every name

/-- How two that wait compare: who upgrades comes first, then who came first. -/
def hoI (a b : Rq) : Int := if (a.md != 0) = (b.md != 0) then 0 else if (a.md != 0) = true then -1 else 1
def cmI (a b : Int) : Int := if a < b then -1 else if b < a then 1 else 0
def toI (a b : Rq) : Int := if hoI a b ≠ 0 then hoI a b else cmI a.sn b.sn
theorem nwS {w : World} : ∀ a b, Nw w a → Nw a b → Nw w b := fun _ _ h g => h.trans g
theorem Nw.drewQ {w a : World} (h : Nw w a) : Nw w a.drew := h.drewN 1
set_option maxHeartbeats 1000000 in
theorem dByHolding (A B : Rq) (w : World) : Calls Tryz.prog 146 #[rqV A, rqV B] w fun e w' => e = .returned (.int .i64 (hoI A B)) ∧ Nw w w' := by
  have HA := Lib.hid (dHolds A)
  have HB := Lib.hid (dHolds B)
  obtain ⟨V, hV⟩ : ∃ V, hoI A B = V := ⟨_, rfl⟩
  have hV2 := hV
  rw [hV]
  unfold hoI at hV2
  generalize (A.md != 0) = x at *
  generalize (B.md != 0) = y at *
  clear hV
  have HV := Lib.hid hV2
  clear hV2
  obtain ⟨a, b, m, n, s⟩ := A
  obtain ⟨a', b', m', n', s'⟩ := B
  unfold rqV at *
  have HX := Lib.hid (two_boxes w (.cells #[.int .i64 a, .int .i64 b, .int .i64 m, .int .i64 n, .int .i64 s] 47) (.cells #[.int .i64 a', .int .i64 b', .int .i64 m', .int .i64 n', .int .i64 s'] 47))
  go_enter Tryz.func146, Tryz.ntmps146
  go_wp2_with fail
  generalize (w.alloc (.cells #[.int .i64 a, .int .i64 b, .int .i64 m, .int .i64 n, .int .i64 s] 47)).alloc (.cells #[.int .i64 a', .int .i64 b', .int .i64 m', .int .i64 n', .int .i64 s'] 47) = w1 at *
  obtain ⟨p, hp⟩ : ∃ p, w.heap.size = p := ⟨_, rfl⟩
  rw [hp] at HX ⊢
  have hl1 := hlt HX.out.1
  have hl2 := hlt HX.out.2.1
  have c0 := hcell (j := 0) HX.out.1
  have c1 := hcell (j := 1) HX.out.1
  have c2 := hcell (j := 2) HX.out.1
  have c3 := hcell (j := 3) HX.out.1
  have c4 := hcell (j := 4) HX.out.1
  have d0 := hcell (j := 0) HX.out.2.1
  have d1 := hcell (j := 1) HX.out.2.1
  have d2 := hcell (j := 2) HX.out.2.1
  have d3 := hcell (j := 3) HX.out.2.1
  have d4 := hcell (j := 4) HX.out.2.1
  have HN := Lib.hid HX.out.2.2.1
  clear HX hp hl1 hl2
  refine region_in (Nw w1) (by kernel_rfl) (by kernel_rfl) (Nw.refl _).drewQ ?_
  have e0 : ∀ d : Wd (Nw w1), d.w.cell? _ = _ := fun d => d.h.kp c0
  have e1 : ∀ d : Wd (Nw w1), d.w.cell? _ = _ := fun d => d.h.kp c1
  have e2 : ∀ d : Wd (Nw w1), d.w.cell? _ = _ := fun d => d.h.kp c2
  have e3 : ∀ d : Wd (Nw w1), d.w.cell? _ = _ := fun d => d.h.kp c3
  have e4 : ∀ d : Wd (Nw w1), d.w.cell? _ = _ := fun d => d.h.kp c4
  have f0 : ∀ d : Wd (Nw w1), d.w.cell? _ = _ := fun d => d.h.kp d0
  have f1 : ∀ d : Wd (Nw w1), d.w.cell? _ = _ := fun d => d.h.kp d1
  have f2 : ∀ d : Wd (Nw w1), d.w.cell? _ = _ := fun d => d.h.kp d2
  have f3 : ∀ d : Wd (Nw w1), d.w.cell? _ = _ := fun d => d.h.kp d3
  have f4 : ∀ d : Wd (Nw w1), d.w.cell? _ = _ := fun d => d.h.kp d4
  have hne : Nonempty (Wd (Nw w1)) := ⟨⟨_, Nw.refl w1⟩⟩
  repeat (first | go_big_quiet_step ((first | (with_reducible exact quietN nwS (HA.out _)) | (with_reducible exact quietN nwS (HB.out _)))) | quiet_step ((first | (with_reducible exact quietN nwS (HA.out _)) | (with_reducible exact quietN nwS (HB.out _)))))
  refine wpQuiet_nil ?_
  intro d
  have h6 := d.h
  clear e0 e1 e2 e3 e4 f0 f1 f2 f3 f4 hne
  revert h6
  generalize d.w = w6
  intro h6
  replace c0 := h6.kp c0
  replace c1 := h6.kp c1
  replace c2 := h6.kp c2
  replace c3 := h6.kp c3
  replace c4 := h6.kp c4
  replace HN := Lib.hid (HN.out.trans h6)
  clear h6 d0 d1 d2 d3 d4
  cases x <;> cases y
  · have e : V = 0 := by simpa using HV.out.symm
    subst e
    go_wp2
    go_ret
    exact ⟨rfl, HN.out⟩
  · have e : V = 1 := by simpa using HV.out.symm
    subst e
    go_wp2_with (go_at_call 108; refine (HA.out _).mono ?_; rintro e w' ⟨rfl, g⟩)
    go_ret
    exact ⟨rfl, HN.out.trans g⟩
  · have e : V = -1 := by simpa using HV.out.symm
    subst e
    go_wp2_with (go_at_call 108; refine (HA.out _).mono ?_; rintro e w' ⟨rfl, g⟩)
    go_ret
    exact ⟨rfl, HN.out.trans g⟩
  · have e : V = 0 := by simpa using HV.out.symm
    subst e
    go_wp2
    go_ret
    exact ⟨rfl, HN.out⟩
theorem dNaN (a : Int) (w : World) : Calls Tryz.prog 130 #[.int .i64 a] w fun e w' => e = .returned (.bool false) ∧ w = w' := by
  go_enter Tryz.func130, Tryz.ntmps130
  go_wp2
  go_ret
  exact ⟨rfl, rfl⟩
theorem dCompare (a b : Int) (w : World) : Calls Tryz.prog 113 #[.int .i64 a, .int .i64 b] w fun e w' => e = .returned (.int .i64 (cmI a b)) ∧ Nw w w' := by
  have HN := Lib.hid dNaN
  unfold cmI
  by_cases h1 : a < b
  · rw [if_pos h1]
    go_enter Tryz.func113, Tryz.ntmps113
    go_wp2_with (go_at_call 130; refine (HN.out _ _).mono ?_; rintro e w' ⟨rfl, rfl⟩)
    go_ret
    exact ⟨rfl, Nw.refl _⟩
  rw [if_neg h1]
  by_cases h2 : b < a
  · rw [if_pos h2]
    go_enter Tryz.func113, Tryz.ntmps113
    go_wp2_with (go_at_call 130; refine (HN.out _ _).mono ?_; rintro e w' ⟨rfl, rfl⟩)
    go_ret
    exact ⟨rfl, Nw.refl _⟩
  · rw [if_neg h2]
    go_enter Tryz.func113, Tryz.ntmps113
    go_wp2_with (go_at_call 130; refine (HN.out _ _).mono ?_; rintro e w' ⟨rfl, rfl⟩)
    go_ret
    exact ⟨rfl, Nw.refl _⟩
/-- cmp.Or of two numbers. -/
theorem dOr (x y : Int) (b : Nat) (w : World) (h0 : w.cell? ⟨b, 0, none⟩ = some (.int .i64 x)) (h1 : w.cell? ⟨b, 1, none⟩ = some (.int .i64 y)) :
    Calls Tryz.prog 112 #[.slice (some ⟨b, 0, none⟩) 2 2] w fun e w' => e = .returned (.int .i64 (if x ≠ 0 then x else y)) ∧ Nw w w' := by
  have hp := World.block_lt_of_cell? _ _ h0
  by_cases hx : x = 0
  · have dx : (x != 0) = false := by simpa using hx
    rw [if_neg (by simpa using hx)]
    by_cases hy : y = 0
    · have dy : (y != 0) = false := by simpa using hy
      subst hx hy
      go_enter Tryz.func112, Tryz.ntmps112
      go_wp2
      refine wp_loop_rounds 3 ?_
      repeat (rw [rounds_succ]; go_wp2)
      go_ret
      exact ⟨rfl, Nw.refl _⟩
    · have dy : (y != 0) = true := by simpa using hy
      clear hy
      go_enter Tryz.func112, Tryz.ntmps112
      go_wp2
      refine wp_loop_rounds 3 ?_
      repeat (rw [rounds_succ]; go_wp2)
      go_ret
      exact ⟨rfl, Nw.refl _⟩
  · have dx : (x != 0) = true := by simpa using hx
    rw [if_pos (by simpa using hx)]
    clear hx
    go_enter Tryz.func112, Tryz.ntmps112
    go_wp2
    refine wp_loop_rounds 3 ?_
    repeat (rw [rounds_succ]; go_wp2)
    go_ret
    exact ⟨rfl, Nw.refl _⟩
set_option maxHeartbeats 1000000 in
set_option maxRecDepth 100000 in
theorem dByTurn (A B : Rq) (w : World) : Calls Tryz.prog 133 #[rqV A, rqV B] w fun e w' => e = .returned (.int .i64 (toI A B)) ∧ Nw w w' := by
  have HH := Lib.hid (dByHolding A B)
  have HC := Lib.hid (dCompare A.sn B.sn)
  unfold toI
  generalize hoI A B = x at *
  obtain ⟨y, hy⟩ : ∃ y, cmI A.sn B.sn = y := ⟨_, rfl⟩
  rw [hy] at HC ⊢
  clear hy
  obtain ⟨V, hV⟩ : ∃ V, (if x ≠ 0 then x else y) = V := ⟨_, rfl⟩
  have HO := Lib.hid (dOr x y)
  rw [hV] at HO ⊢
  clear hV
  obtain ⟨a, b, m, n, s⟩ := A
  obtain ⟨a', b', m', n', s'⟩ := B
  unfold rqV at *
  simp only at HC
  have HX := Lib.hid (two_boxes w (.cells #[.int .i64 a, .int .i64 b, .int .i64 m, .int .i64 n, .int .i64 s] 47) (.cells #[.int .i64 a', .int .i64 b', .int .i64 m', .int .i64 n', .int .i64 s'] 47))
  go_enter Tryz.func133, Tryz.ntmps133
  go_wp2_with fail
  generalize (w.alloc (.cells #[.int .i64 a, .int .i64 b, .int .i64 m, .int .i64 n, .int .i64 s] 47)).alloc (.cells #[.int .i64 a', .int .i64 b', .int .i64 m', .int .i64 n', .int .i64 s'] 47) = w1 at *
  obtain ⟨p, hp⟩ : ∃ p, w.heap.size = p := ⟨_, rfl⟩
  rw [hp] at HX ⊢
  have c0 := hcell (j := 0) HX.out.1
  have c1 := hcell (j := 1) HX.out.1
  have c2 := hcell (j := 2) HX.out.1
  have c3 := hcell (j := 3) HX.out.1
  have c4 := hcell (j := 4) HX.out.1
  have d0 := hcell (j := 0) HX.out.2.1
  have d1 := hcell (j := 1) HX.out.2.1
  have d2 := hcell (j := 2) HX.out.2.1
  have d3 := hcell (j := 3) HX.out.2.1
  have d4 := hcell (j := 4) HX.out.2.1
  have HN := Lib.hid HX.out.2.2.1
  clear HX hp
  have e0 : ∀ d, Nw w1 d → d.cell? _ = _ := fun d h => h.kp c0
  have e1 : ∀ d, Nw w1 d → d.cell? _ = _ := fun d h => h.kp c1
  have e2 : ∀ d, Nw w1 d → d.cell? _ = _ := fun d h => h.kp c2
  have e3 : ∀ d, Nw w1 d → d.cell? _ = _ := fun d h => h.kp c3
  have e4 : ∀ d, Nw w1 d → d.cell? _ = _ := fun d h => h.kp c4
  have f0 : ∀ d, Nw w1 d → d.cell? _ = _ := fun d h => h.kp d0
  have f1 : ∀ d, Nw w1 d → d.cell? _ = _ := fun d h => h.kp d1
  have f2 : ∀ d, Nw w1 d → d.cell? _ = _ := fun d h => h.kp d2
  have f3 : ∀ d, Nw w1 d → d.cell? _ = _ := fun d h => h.kp d3
  have f4 : ∀ d, Nw w1 d → d.cell? _ = _ := fun d h => h.kp d4
  clear c0 c1 c2 c3 c4 d0 d1 d2 d3 d4
  refine region_told [some true, some true, some false, some true, some true, some true, some true, none, some false, none, some false, none, some false, none, some true] (Nw w1) (by kernel_rfl) (by kernel_rfl) (by kernel_rfl) (Nw.refl _).drewQ ?_
  have g1 := (Nw.refl w1).drewQ
  obtain ⟨w2, hw2⟩ : ∃ w2, w1.drew = w2 := ⟨_, rfl⟩
  rw [hw2] at g1 ⊢
  clear hw2
  repeat (first
    | (refine HW.off ?_)
    | (refine HW.go (fun K hK => ?_); go_simp; (first | (go_at_call 146; (with_reducible refine (HH.out _).mono ?_); rintro e wy ⟨rfl, g2⟩) | (go_at_call 113; (with_reducible refine (HC.out _).mono ?_); rintro e wy ⟨rfl, g2⟩)); refine hK.out _ _ (g1.trans g2) ?_; intro _; replace g1 := g1.trans g2; clear hK K g2)
    | (refine HW.take' ?_; apply Exists.intro; refine ⟨Or.inl ⟨by rfl, ?_⟩, ?_⟩; (intro x hx; go_simp; first | done | with_reducible rfl); (try simp only [Act.put, List.setIfInBounds_toArray, List.set_cons_zero, List.set_cons_succ])))
  refine HW.go (fun K hK => ?_)
  go_simp
  have hb := allocAt wy (.cells #[.int .i64 x, .int .i64 y] 3)
  have g3 := g1.alloc (.cells #[.int .i64 x, .int .i64 y] 3)
  have o0 := hcell (j := 0) hb
  have o1 := hcell (j := 1) hb
  refine hK.out _ _ g3 ?_
  intro _
  clear hK K
  refine HW.off ?_
  refine HW.go (fun K hK => ?_)
  go_simp
  go_at_call 112
  refine (HO.out _ _ o0 o1).mono ?_
  rintro e wz ⟨rfl, g4⟩
  have g5 := g3.trans g4
  refine hK.out _ _ g5 ?_
  intro _
  clear hK K
  refine HW.take' ?_
  apply Exists.intro
  refine ⟨Or.inl ⟨by rfl, ?_⟩, ?_⟩
  · (intro x hx; go_simp; first | done | with_reducible rfl)
  (try simp only [Act.put, List.setIfInBounds_toArray, List.set_cons_zero, List.set_cons_succ])
  refine HW.end_ ?_
  refine NoPanic.normal ?_
  go_wp2
  go_ret
  exact ⟨rfl, HN.out.trans g5⟩
/-- A request in a box. -/
structure RqB (w : World) (p : Nat) (a b m n s : Int) : Prop where
  lt : p < w.heap.size
  c0 : w.cell? ⟨p, 0, none⟩ = some (.int .i64 a)
  c1 : w.cell? ⟨p, 1, none⟩ = some (.int .i64 b)
  c2 : w.cell? ⟨p, 2, none⟩ = some (.int .i64 m)
  c3 : w.cell? ⟨p, 3, none⟩ = some (.int .i64 n)
  c4 : w.cell? ⟨p, 4, none⟩ = some (.int .i64 s)
theorem RqB.nw {w w' : World} {p : Nat} {a b m n s : Int} (h : RqB w p a b m n s) (g : Nw w w') : RqB w' p a b m n s :=
  ⟨Nat.lt_of_lt_of_le h.lt g.sz, g.kp h.c0, g.kp h.c1, g.kp h.c2, g.kp h.c3, g.kp h.c4⟩
theorem RqB.of {w : World} {p : Nat} {a b m n s : Int} {T : TypeId} {fr : Nat × Nat} (h : w.heap[p]? = some (.cells #[.int .i64 a, .int .i64 b, .int .i64 m, .int .i64 n, .int .i64 s] T fr)) : RqB w p a b m n s :=
  ⟨hlt h, hcell h, hcell h, hcell h, hcell h, hcell h⟩
theorem RqB.made (w : World) (a b m n s : Int) (T : TypeId) : RqB (w.alloc (.cells #[.int .i64 a, .int .i64 b, .int .i64 m, .int .i64 n, .int .i64 s] T)) w.heap.size a b m n s := RqB.of (allocAt w _)
theorem RqB.cells {w : World} {p : Nat} {a b m n s : Int} (h : RqB w p a b m n s) : ∀ j u, (rqrow ⟨a, b, m, n, s⟩)[j]? = some u → w.cell? ⟨p, j, none⟩ = some u := by
  intro j u hu
  have hj : j < 5 := by have := (List.getElem?_eq_some_iff.1 hu).1; simpa [rqrow] using this
  rcases j with _ | _ | _ | _ | _ | j
  · exact h.c0.trans hu
  · exact h.c1.trans hu
  · exact h.c2.trans hu
  · exact h.c3.trans hu
  · exact h.c4.trans hu
  · omega
theorem dAhead1 (S R : Rq) (p : Nat) (w : World) (h : RqB w p S.id S.txn S.md S.wt S.sn) : Calls Tryz.prog 132 #[rqV R, .pointer (some ⟨p, 0, none⟩)] w fun e w' => e = .returned (.bool (decide (0 < R.sn) && decide (toI R S < 0))) ∧ Nw w w' := by
  have HWt := Lib.hid (dWaits R)
  have HT := Lib.hid (dByTurn R S)
  generalize toI R S = x at *
  obtain ⟨y, hd⟩ : ∃ y, decide (x < 0) = y := ⟨_, rfl⟩
  rw [hd]
  generalize decide (0 < R.sn) = z at *
  obtain ⟨a, b, m, n, s⟩ := R
  obtain ⟨a', b', m', n', s'⟩ := S
  unfold rqV at *
  simp only at h
  have hl : w.heap.size < (w.alloc (.cells #[.int .i64 a, .int .i64 b, .int .i64 m, .int .i64 n, .int .i64 s] 47)).heap.size := by simp
  have hb := RqB.made w a b m n s 47
  have hN := (Nw.refl w).alloc (.cells #[.int .i64 a, .int .i64 b, .int .i64 m, .int .i64 n, .int .i64 s] 47)
  obtain ⟨w1, hw1⟩ : ∃ w1, w.alloc (.cells #[.int .i64 a, .int .i64 b, .int .i64 m, .int .i64 n, .int .i64 s] 47) = w1 := ⟨_, rfl⟩
  rw [hw1] at hb hN hl
  have HW1 := Lib.hid hw1
  clear hw1
  obtain ⟨hl0, c0, c1, c2, c3, c4⟩ := h.nw hN
  have hBB := Lib.hid (And.intro (h.nw hN) hb)
  obtain ⟨hl2, d0, d1, d2, d3, d4⟩ := hb
  have HN := Lib.hid hN
  clear hN h
  cases z
  · go_enter Tryz.func132, Tryz.ntmps132
    go_wp2_with fail
    rw [HW1.out]
    go_wp2_with (go_at_call 101; refine (HWt.out _).mono ?_; rintro e w2 ⟨rfl, g⟩)
    go_ret
    exact ⟨rfl, HN.out.trans g⟩
  · go_enter Tryz.func132, Tryz.ntmps132
    go_wp2_with fail
    rw [HW1.out]
    go_wp2_with fail
    go_at_call 101
    refine (HWt.out _).mono ?_
    rintro e w2 ⟨rfl, g⟩
    clear hl0 c0 c1 c2 c3 c4 hl2 d0 d1 d2 d3 d4
    obtain ⟨hl0, c0, c1, c2, c3, c4⟩ := hBB.out.1.nw g
    obtain ⟨hl2, d0, d1, d2, d3, d4⟩ := hBB.out.2.nw g
    have HN2 := Lib.hid (HN.out.trans g)
    clear HN hl g hBB
    go_wp2_with (go_at_call 133; refine (HT.out _).mono ?_; rintro e w3 ⟨rfl, g3⟩)
    go_ret
    exact ⟨rfl, HN2.out.trans g3⟩
theorem dAheadOf (S : Rq) (w : World) : Calls Tryz.prog 121 #[rqV S] w fun e w' => ∃ p, e = .returned (.func (.func 132) #[] #[.pointer (some ⟨p, 0, none⟩)]) ∧ Nw w w' ∧ RqB w' p S.id S.txn S.md S.wt S.sn := by
  obtain ⟨a', b', m', n', s'⟩ := S
  unfold rqV
  go_enter Tryz.func121, Tryz.ntmps121
  go_wp2
  go_ret
  exact ⟨_, rfl, (Nw.refl _).alloc _, RqB.made _ _ _ _ _ _ _⟩
theorem Tells.ahead {w : World} {S : Rq} {p : Nat} (h : RqB w p S.id S.txn S.md S.wt S.sn) : Tells w (.func (.func 132) #[] #[.pointer (some ⟨p, 0, none⟩)]) (fun R => decide (0 < R.sn) && decide (toI R S < 0)) :=
  ⟨_, _, rfl, enters_of Tryz.func132 (by kernel_rfl) rfl, fun R w1 g => dAhead1 S R p w1 (h.nw g)⟩
end Go.Proofs.YtodnlelnpidliaaGreat
end

/- The developers' package queue: how many hold each mode: a map of counts; fits. -/
section
namespace Go.Proofs.YtodnlelnpidliaaGreat
open Go.RowKit Go.Maps Go.ChangeMaps
set_option linter.unusedVariables false      -- a contract need not use every name

theorem lawM : Keyed Tryz.prog 39 := int_keyed Tryz.underlying39
theorem wfM {k : Int} (h0 : -9223372036854775808 ≤ k) (h1 : k ≤ 9223372036854775807) : (Lit.int .i64 k).wf = true := WalkArith.wf_i64 (by omega)
theorem keyM {k : Int} (h : knI k = true) : keyOf Tryz.prog 39 (.int .i64 k) = some (.int .i64 k) := by
  have := (knI_iff k).1 h
  exact keyOf_int_mk Tryz.underlying39 (wfM (by omega) (by omega))
theorem isKeyM {k : Int} (h : knI k = true) : WideAt.IsKeyLit (.int .i64 k) := lawM.key (keyM h)
theorem zeroI (w : World) : (zeroValue 3).run Tryz.prog w = .ok (.int .i64 0) w := by kernel_rfl
/-- The map in block b holds these counts. -/
def HeldC (w : World) (b n : Nat) (c : Int → Int) : Prop :=
  ∃ D : DataW Unit, w.ownsMap Tryz.prog 39 (plainElem Tryz.prog 3) b n D ∧ (∀ k, D.atKey (.int .i64 k) (.lit (.int .i64 0)) = .lit (.int .i64 (c k))) ∧ ∀ k, Maps.has D (.int .i64 k) = true → knI k = true
def setC (c : Int → Int) (k x : Int) : Int → Int := fun y => if y = k then x else c y
section
variable {w w' : World} {b n : Nat} {c : Int → Int}
theorem HeldC.kept {row : Option Nat} (h : HeldC w b n c) (hg : w.grownBy w' row) (hne : some b ≠ row) : HeldC w' b n c := by
  obtain ⟨D, h1, h2, h3⟩ := h
  exact ⟨D, h1.kept hg hne, h2, h3⟩
theorem HeldC.nw (h : HeldC w b n c) (g : Nw w w') : HeldC w' b n c := h.kept (g.grownBy none) (by simp)
theorem HeldC.lt (h : HeldC w b n c) : b < w.heap.size := by obtain ⟨D, h1, _⟩ := h; exact h1.lt
theorem HeldC.obj (h : HeldC w b n c) : ∃ es k, w.heap[b]? = some (.map es k) := by obtain ⟨D, ⟨es, k, h, _⟩, _⟩ := h; exact ⟨es, k, h⟩
theorem HeldC.made (w : World) : HeldC (w.alloc (.map #[] 0)) w.heap.size 0 (fun _ => 0) :=
  ⟨_, World.ownsMap_made _ _ _ _, fun k => atKey_of_not_has rfl _, fun k h => by cases h⟩
set_option maxRecDepth 100000 in
theorem HeldC.look (h : HeldC w b n c) {k : Int} (hk : knI k = true) : (Instr.lookup 137 (.map (some b)) (.int .i64 k) false).run Tryz.prog w = .ok (.int .i64 (c k)) w := by
  obtain ⟨D, o, h2, h3⟩ := h
  obtain ⟨x, hrun, hat, _⟩ := o.lookup_int (t := 137) lawM Tryz.underlying137 Tryz.underlying3 (zeroI w) (keyM hk)
  rw [h2 k] at hat
  injection hat with hat
  injection hat with _ hat
  rw [hat]; exact hrun
theorem litM_ne {a b : Int} (h : a ≠ b) : (Lit.int .i64 a) ≠ .int .i64 b := fun e => h (by injection e)
set_option maxRecDepth 100000 in
theorem HeldC.put (h : HeldC w b n c) (hn : n < 1000000) {k x : Int} (hk : knI k = true) (h0 : -100 ≤ x) (h1 : x ≤ 1000000) :
    ∃ w', (Instr.mapUpdate 137 (.map (some b)) (.int .i64 k) (.int .i64 x)).run Tryz.prog w = .ok () w' ∧ HeldC w' b (n + 1) (setC c k x) ∧ w.grownBy w' (some b) := by
  obtain ⟨D, o, h2, h3⟩ := h
  have hw : (Lit.int .i64 x).wf = true := wfM (by omega) (by omega)
  obtain ⟨w', hr, o', hg⟩ := o.update (t := 137) lawM Tryz.underlying137 (by unfold maxLen; omega) (keyM hk) (plainElem_int Tryz.underlying3 hw)
  refine ⟨w', hr, ⟨_, o', fun y => ?_, fun y hy => ?_⟩, hg⟩
  · unfold setC
    by_cases q : y = k
    · subst q
      rw [if_pos rfl, atKey_put_same o.isMap (isKeyM hk)]
    · rw [if_neg q, atKey_put_other (litM_ne q), h2 y]
  · by_cases q : y = k
    · rw [q]; exact hk
    · rw [has_put_other (litM_ne q)] at hy
      exact h3 y hy
end
theorem dCp (a b : Int) (w : World) (ha : knI a = true) (hb : knI b = true) : Calls Tryz.prog 131 #[.int .i64 a, .int .i64 b] w fun e w' => e = .returned (.bool (cpI a b)) ∧ Nw w w' := by
  have h1 := (knI_iff a).1 ha
  have h2 := (knI_iff b).1 hb
  rw [cp_kn a b ha hb]
  exact cmp_in a b w h1.1 h1.2 h2.1 h2.2

set_option maxHeartbeats 400000 in
theorem dCpA (a b : Int) (w : World) (ha : knI a = true) : Calls Tryz.prog 131 #[.int .i64 a, .int .i64 b] w fun e w' => e = .returned (.bool (cpI a b)) ∧ Nw w w' := by
  by_cases hb : knI b = true
  · exact dCp a b w ha hb
  · have h1 := (knI_iff a).1 ha
    have h2 : b < 0 ∨ 7 ≤ b := by
      have : ¬ (0 ≤ b ∧ b < 7) := fun e => hb ((knI_iff b).2 e)
      omega
    have hc : cpI a b = false := by
      unfold cpI
      cases e : knI b with
      | true => exact absurd e hb
      | false => simp
    rw [hc]
    clear hc hb
    go_enter Tryz.func131, Tryz.ntmps131
    go_wp2_with fail
    go_at_call 117
    refine (known_yes a _ h1.1 h1.2).mono ?_
    rintro e w' ⟨rfl, rfl⟩
    go_wp2_with (go_at_call 117; refine (known_no b _ h2).mono ?_; rintro e w' ⟨rfl, rfl⟩)
    go_ret
    exact ⟨rfl, Nw.refl _⟩
/-- Does a mode fit beside the counts, but one that has own? -/
def okK (c : Int → Int) (own m k : Int) : Bool := decide (c k - (if k = own then 1 else 0) ≤ 0) || cpI k m
def fitB (c : Int → Int) (own m : Int) : Bool := (List.range 7).all fun k => okK c own m k
theorem fitB_iff (c : Int → Int) (own m : Int) : fitB c own m = true ↔ ∀ k, knI k = true → okK c own m k = true := by
  unfold fitB
  rw [List.all_eq_true]
  constructor
  · intro h k hk
    obtain ⟨h0, h7⟩ := (knI_iff k).1 hk
    obtain ⟨j, rfl⟩ := Int.eq_ofNat_of_zero_le h0
    exact h j (by simp; omega)
  · intro h j hj
    simp at hj
    exact h j ((knI_iff _).2 ⟨by omega, by omega⟩)
theorem same_int (a b : Int) : (Lit.int .i64 a).sameKey (.int .i64 b) = (a == b) := by
  simp [Lit.sameKey]
  rfl
set_option maxRecDepth 100000 in
set_option maxHeartbeats 400000 in
theorem dFitsA (p b n : Nat) (c : Int → Int) (own m : Int) (u0 u1 u2 u3 : Value) (fr : Nat × Nat) (w : World) (hp : w.heap[p]? = some (.cells #[u0, u1, u2, u3, .map (some b)] 139 fr)) (hc : HeldC w b n c) (hb : ∀ k, 0 ≤ c k ∧ c k ≤ 100000) :
    Calls Tryz.prog 119 #[.pointer (some ⟨p, 0, none⟩), .int .i64 own, .int .i64 m] w fun e w' => e = .returned (.bool (fitB c own m)) ∧ Nw w w' := by
  obtain ⟨D, hown, hD, hK⟩ := hc
  have hc4 := hcell (j := 4) hp
  have hpl := hlt hp
  clear hp
  obtain ⟨V, hV⟩ : ∃ V, fitB c own m = V := ⟨_, rfl⟩
  rw [hV]
  have HV := Lib.hid hV
  have HD := Lib.hid hD
  have HK := Lib.hid hK
  have HB := Lib.hid hb
  clear hV hD hK hb
  go_enter Tryz.func119, Tryz.ntmps119
  go_wp2_with (first
    | (at_range; refine wpList_range_own _ rfl _ 137 rfl 39 3 lawM Tryz.underlying137 _ b n _ rfl hown ?_; intro w0 hrg0 hg0 hs0)
    | go_in)
  go_frame
  go_loopw [7] (fun _ wr => ∃ (left : Lit → Bool) (cnt : Nat), wr.ranges Tryz.prog 39 (plainElem Tryz.prog 3) b w.heap.size n D left cnt ∧ (∀ k, left (.int .i64 k) = false → Maps.has D (.int .i64 k) = true → okK c own m k = true) ∧ Nw w wr)
    (fun _ wr => wr.rangeLeft b w.heap.size)
  case atStart => exact ⟨_, _, hrg0, (fun k h1 h2 => by rw [h1] at h2; cases h2), ⟨hg0.os, hg0.tape, hg0.output, hg0.size, fun i hi => hg0.block i hi (by simp)⟩⟩
  case round =>
    obtain ⟨left, cnt, hrg, hI, hN⟩ := hrel
    have HI := Lib.hid hI
    have HN := Lib.hid hN
    clear hI hN
    go_wp2_with (first
      | (at_next; refine wpList_next_ranges_ii _ rfl _ rfl 39 3 .i64 .i64 lawM Tryz.underlying39 Tryz.underlying3 b w.heap.size n _ _ _ rfl hrg ?_ ?_)
      | go_in)
    · -- nothing is left
      intro _ hl0
      have e : V = true := by
        rw [← HV.out, fitB_iff]
        intro k hk
        cases hh : Maps.has D (.int .i64 k) with
        | true => exact HI.out k (hl0 _) hh
        | false =>
          have := HD.out k
          rw [atKey_of_not_has hh] at this
          injection this with this
          injection this with _ this
          unfold okK
          rw [← this]
          have : decide ((0 : Int) - (if k = own then 1 else 0) ≤ 0) = true := by
            rw [decide_eq_true_iff]; split <;> omega
          rw [this]; rfl
      subst e
      go_wp2
      go_ret
      exact ⟨rfl, HN.out⟩
    · intro x y w1 cnt1 hwx hwc hlx hat hrg1 hlt hg1 hs1 hen
      have hxk : y = c x := by
        have h1 := hat (.lit (.int .i64 0))
        rw [HD.out x] at h1
        injection h1 with h1
        injection h1 with _ h1
        exact h1.symm
      have hx : knI x = true := by
        refine HK.out x ?_
        cases hh : Maps.has D (.int .i64 x) with
        | true => rfl
        | false =>
          have h1 := hat (.lit (.int .i64 (y + 1)))
          rw [atKey_of_not_has hh] at h1
          injection h1 with h1
          injection h1 with _ h1
          omega
      subst hxk
      have hbx := HB.out x
      have hG1 : Nw w w1 := HN.out.gro hg1 (fun k hk => by rw [← Option.some.inj hk]; exact Nat.le_refl _)
      have HG1 := Lib.hid hG1
      have HI1 : Hid (okK c own m x = true → ∀ k, (fun z : Lit => left z && !z.sameKey (.int .i64 x)) (.int .i64 k) = false → Maps.has D (.int .i64 k) = true → okK c own m k = true) := Lib.hid fun hok k hl hh => by
        by_cases q : k = x
        · rw [q]; exact hok
        · refine HI.out k ?_ hh
          have e : (k == x) = false := by simpa using q
          simpa [same_int, e] using hl
      have HC := Lib.hid (fun w => dCpA x m w hx)
      have HF : Hid (okK c own m x = false → V = false) := Lib.hid fun e => by
        rw [← HV.out]
        cases h : fitB c own m with
        | false => rfl
        | true => rw [(fitB_iff c own m).1 h x hx] at e; cases e
      unfold okK at HI1 HF
      simp only at HI1
      generalize c x = y at *
      generalize cpI x m = z at *
      have HRG := Lib.hid (And.intro hrg hrg1)
      clear hrg hrg1 hg1 hat hlx hwx hwc hs1 hx hG1 hown hrg0 hg0 hs0
      by_cases hxo : x = own
      · have dx : (x == own) = true := by simpa using hxo
        obtain ⟨t, ht⟩ : ∃ t, y - 1 = t := ⟨_, rfl⟩
        have hw : IntKind.i64.wrap (y - 1) = t := by rw [IntKind.wrap_i64]; omega
        by_cases hp0 : 0 < t
        · have dp : decide (0 < t) = true := by simpa using hp0
          cases z
          · obtain rfl : V = false := HF.out (by simp [hxo]; omega)
            clear HI1 HF hp0 ht hxo hbx
            go_wp2_with (go_at_call 131; refine (HC.out _).mono ?_; rintro e w2 ⟨rfl, g2⟩)
            go_ret
            exact ⟨rfl, HG1.out.trans g2⟩
          · have HI2 := Lib.hid (HI1.out (by simp))
            clear HI1 HF hp0 ht hxo hbx
            go_wp2_with (go_at_call 131; refine (HC.out _).mono ?_; rintro e w2 ⟨rfl, g2⟩)
            have hrg2 := HRG.out.2.kept (g2.grownBy none) (by simp) (by simp)
            go_roundw
            case rel => exact ⟨_, cnt1, hrg2, HI2.out, HG1.out.trans g2⟩
            case measure => rw [hrg2.left_eq, HRG.out.1.left_eq]; omega
        · have dp : decide (0 < t) = false := by simpa using hp0
          have HI2 := Lib.hid (HI1.out (by simp [hxo]; omega))
          clear HI1 HF hp0 ht hxo hbx
          go_wp2
          go_roundw
          case rel => exact ⟨_, cnt1, HRG.out.2, HI2.out, HG1.out⟩
          case measure => rw [HRG.out.2.left_eq, HRG.out.1.left_eq]; omega
      · have dx : (x == own) = false := by simpa using hxo
        by_cases hp0 : 0 < y
        · have dp : decide (0 < y) = true := by simpa using hp0
          cases z
          · obtain rfl : V = false := HF.out (by simp [hxo]; omega)
            clear HI1 HF hp0 hxo hbx
            go_wp2_with (go_at_call 131; refine (HC.out _).mono ?_; rintro e w2 ⟨rfl, g2⟩)
            go_ret
            exact ⟨rfl, HG1.out.trans g2⟩
          · have HI2 := Lib.hid (HI1.out (by simp))
            clear HI1 HF hp0 hxo hbx
            go_wp2_with (go_at_call 131; refine (HC.out _).mono ?_; rintro e w2 ⟨rfl, g2⟩)
            have hrg2 := HRG.out.2.kept (g2.grownBy none) (by simp) (by simp)
            go_roundw
            case rel => exact ⟨_, cnt1, hrg2, HI2.out, HG1.out.trans g2⟩
            case measure => rw [hrg2.left_eq, HRG.out.1.left_eq]; omega
        · have dp : decide (0 < y) = false := by simpa using hp0
          have HI2 := Lib.hid (HI1.out (by simp [hxo]; omega))
          clear HI1 HF hp0 hxo hbx
          go_wp2
          go_roundw
          case rel => exact ⟨_, cnt1, HRG.out.2, HI2.out, HG1.out⟩
          case measure => rw [HRG.out.2.left_eq, HRG.out.1.left_eq]; omega
theorem dFits (p b n : Nat) (c : Int → Int) (own m : Int) (u0 u1 u2 u3 : Value) (fr : Nat × Nat) (w : World) (hp : w.heap[p]? = some (.cells #[u0, u1, u2, u3, .map (some b)] 139 fr)) (hc : HeldC w b n c) (hb : ∀ k, 0 ≤ c k ∧ c k ≤ 100000) (hm : knI m = true) :
    Calls Tryz.prog 119 #[.pointer (some ⟨p, 0, none⟩), .int .i64 own, .int .i64 m] w fun e w' => e = .returned (.bool (fitB c own m)) ∧ Nw w w' := dFitsA p b n c own m u0 u1 u2 u3 fr w hp hc hb
end Go.Proofs.YtodnlelnpidliaaGreat
end

/- The developers' package queue: Clone; a line in memory; lineOf. -/
section
namespace Go.Proofs.YtodnlelnpidliaaGreat
open Go.RowKit Go.Maps Go.ChangeMaps
set_option linter.unusedVariables false      -- a contract need not use every name

theorem wpl_mapUp {P : Program} {w : World} {ops : Array Oper} {rest : List Oper} {o : Oper} {a : Act} {Q : Exit → Act → World → Prop}
    (hg : o.guard = none) (m x u : Operand) (t : TypeId) (hop : o.op = Op.mapUpdate t m x u) (M K V : Value) (w' : World) (hm : a.eval m = M) (hx : a.eval x = K) (hu : a.eval u = V)
    (hr : (Instr.mapUpdate t M K V).run P w = .ok () w') (h : wpList P ops Q rest (a.put o.dst undef) w') : wpList P ops Q (o :: rest) a w := by
  refine wpList_plain hg fun K' hK' => ?_
  unfold Oper.wp
  simp [execOp, hop, hm, hx, hu, hr, Result.andThen]
  exact hK' _ _ h
set_option maxRecDepth 100000 in
set_option maxHeartbeats 1000000 in
theorem dClone (v : Value) (q : List Rq) (w : World) (hl : q.length ≤ 1000) (h : RqAt w v q) :
    Calls Tryz.prog 47 #[v] w fun e w' => ∃ v', e = .returned v' ∧ Nw w w' ∧ RqOwn w' w.heap.size v' q := by
  obtain ⟨v', w1, hrun, hO, hN⟩ := own_clone elemRq h (by omega)
  obtain ⟨a, c, rfl, h⟩ := h
  have en := fun (w : World) (a : Option Addr) (n c n' c' : Nat) => Lib.run_eql_slice_nil (P := Tryz.prog) w 54 47 a n c n' c' Tryz.underlying54
  have HR := Lib.hid hrun
  have HO := Lib.hid (And.intro hN hO)
  clear hrun hO hN
  cases a with
  | none =>
    rcases h with ⟨rfl, h0⟩ | ⟨b, o, e, _⟩
    · obtain rfl := h0 rfl
      go_enter Tryz.func47, Tryz.ntmps47
      go_wp2
      go_ret
      exact ⟨_, rfl, Nw.refl _, World.ownsRow_nil _ _ _ _⟩
    · cases e
  | some ad =>
    clear h
    go_enter Tryz.func47, Tryz.ntmps47
    go_wp2_with (at_builtin; refine wpl_app (by rfl) (.tmp 5) (.tmp 6) 54 rfl _ _ _ _ rfl rfl HR.out ?_)
    go_ret
    exact ⟨_, rfl, HO.out.1, HO.out.2⟩

/-- A line in memory: its own row of requests, its own map of counts. -/
structure Ln (w : World) (g0 p : Nat) (t r W : Int) (v : Value) (b n : Nat) (q : List Rq) (c : Int → Int) : Prop where
  obj : w.heap[p]? = some (.cells #[.int .i64 t, .int .i64 r, v, .int .i64 W, .map (some b)] 139 (0, 0))
  own : RqOwn w g0 v q
  map : HeldC w b n c
  gp : g0 ≤ p
  gb : g0 ≤ b
/-- How many have a mode. -/
def cntQ (q : List Rq) : Int → Int := fun k => ((q.countP fun R => R.md == k : Nat) : Int)
theorem cntQ_snoc (q : List Rq) (R : Rq) : cntQ (q ++ [R]) = setC (cntQ q) R.md (cntQ q R.md + 1) := by
  funext k
  unfold cntQ setC
  rw [List.countP_append]
  by_cases e : k = R.md
  · rw [if_pos e, e]; simp
  · rw [if_neg e]
    have : (R.md == k) = false := by simpa using fun q => e q.symm
    simp [this]
theorem cntQ_bd (q : List Rq) (k : Int) : 0 ≤ cntQ q k ∧ cntQ q k ≤ q.length := by
  unfold cntQ
  have := List.countP_le_length (p := fun R : Rq => R.md == k) (l := q)
  omega
section
variable {w w' : World} {g0 p : Nat} {t r W : Int} {v : Value} {b n : Nat} {q : List Rq} {c : Int → Int}
theorem Ln.nw (h : Ln w g0 p t r W v b n q c) (g : Nw w w') : Ln w' g0 p t r W v b n q c := ⟨g.at' h.obj, onw h.own g, h.map.nw g, h.gp, h.gb⟩
theorem Ln.bp (h : Ln w g0 p t r W v b n q c) : b ≠ p := fun e => by
  obtain ⟨es, k, ho⟩ := h.map.obj
  rw [e, h.obj] at ho; cases ho
theorem Ln.vb (h : Ln w g0 p t r W v b n q c) : v.ownBlock ≠ some b := fun e => by
  obtain ⟨es, k, ho⟩ := h.map.obj
  obtain ⟨cs, hc⟩ := oheap h.own e
  rw [ho] at hc; cases hc
theorem types_ne : 47 ≠ 139 := by decide
theorem Ln.vp (h : Ln w g0 p t r W v b n q c) : v.ownBlock ≠ some p := fun e => by
  obtain ⟨cs, hc⟩ := oheap h.own e
  have := h.obj
  rw [hc] at this
  injection this with this
  injection this with _ this
  exact absurd this types_ne
/-- A store into the map. -/
theorem Ln.put (h : Ln w g0 p t r W v b n q c) {n' : Nat} {c' : Int → Int} (hm : HeldC w' b n' c') (hg : w.grownBy w' (some b)) : Ln w' g0 p t r W v b n' q c' :=
  ⟨(hg.block p (hlt h.obj) (by simp; exact h.bp.symm)).trans h.obj, okeep h.own hg (fun g hv e => h.vb (by rw [hv, ← e])), hm, h.gp, h.gb⟩
end
theorem heap_lt' {w : World} {B : Nat} {o : Obj} (hb : w.heap[B]? = some o) : B < w.heap.size := hlt hb
/-- A request of a row that the call owns. -/
theorem RqOwn.at {w : World} {g0 : Nat} {v : Value} {q : List Rq} (h : RqOwn w g0 v q) {k : Nat} (hk : k < q.length) : ∃ g cap, v = .slice (some ⟨g, 0, none⟩) q.length cap ∧ g0 ≤ g ∧ g < w.heap.size ∧ ∀ j u, (rqrow q[k])[j]? = some u → w.cell? ⟨g, k * 5 + j, none⟩ = some u := by
  rcases oform h with ⟨_, e⟩ | ⟨g, cap, rfl⟩
  · omega
  · refine ⟨g, cap, rfl, oge h rfl, olt h rfl, fun j u hu => ?_⟩
    obtain ⟨a, c, e, hh | ⟨b, o, rfl, hc⟩⟩ := RqOwn.rd h
    · obtain ⟨rfl, _⟩ := hh; simp at hk
    · simp only [Value.slice.injEq, Option.some.injEq, Addr.mk.injEq] at e
      obtain ⟨⟨rfl, rfl, _⟩, _, _⟩ := e
      have := hc.cell k hk j u hu
      rwa [Nat.zero_add] at this
set_option maxRecDepth 100000 in
set_option maxHeartbeats 1000000 in
theorem dLineOf (t r W : Int) (v : Value) (q : List Rq) (w : World) (hl : q.length ≤ 1000) (hkn : ∀ R ∈ q, knI R.md = true) (h : RqAt w v q) :
    Calls Tryz.prog 95 #[hdV t r v W] w fun e w' => ∃ p v' b n, e = .returned (.pointer (some ⟨p, 0, none⟩)) ∧ Nw w w' ∧ Ln w' w.heap.size p t r W v' b n q (cntQ q) ∧ n ≤ q.length := by
  have hmm := @run_makeMap Tryz.prog
  have HCl := Lib.hid (fun (w1 : World) (g : Nw w w1) => dClone v q w1 hl (h.nw g))
  have HK := Lib.hid hkn
  clear hkn
  unfold hdV
  obtain ⟨a, c, rfl, _⟩ := h
  obtain ⟨w3, hw3⟩ : ∃ w3, ((w.alloc (.cells #[.int .i64 t, .int .i64 r, .slice a q.length c, .int .i64 W] 56)).alloc (.map #[] 0)).alloc (.cells #[.int .i64 t, .int .i64 r, .slice a q.length c, .int .i64 W, .map (some (w.heap.size + 1))] 139) = w3 := ⟨_, rfl⟩
  have hN3 : Nw w w3 := by rw [← hw3]; exact (((Nw.refl w).alloc _).alloc _).alloc _
  have hs1 : (w.alloc (.cells #[.int .i64 t, .int .i64 r, .slice a q.length c, .int .i64 W] 56)).heap.size = w.heap.size + 1 := by simp
  have hs2 : ((w.alloc (.cells #[.int .i64 t, .int .i64 r, .slice a q.length c, .int .i64 W] 56)).alloc (.map #[] 0)).heap.size = w.heap.size + 1 + 1 := by simp
  have hB : HBox w3 w.heap.size t r (.slice a q.length c) W := by rw [← hw3]; exact (HBox.made w t r (.slice a q.length c) W 56).nw (((Nw.refl _).alloc _).alloc _)
  have hM : HeldC w3 (w.heap.size + 1) 0 (fun _ => 0) := by
    have := HeldC.made (w.alloc (.cells #[.int .i64 t, .int .i64 r, .slice a q.length c, .int .i64 W] 56))
    rw [hs1] at this
    rw [← hw3]; exact this.nw ((Nw.refl _).alloc _)
  have hL : w3.heap[w.heap.size + 1 + 1]? = some (.cells #[.int .i64 t, .int .i64 r, .slice a q.length c, .int .i64 W, .map (some (w.heap.size + 1))] 139) := by
    have := allocAt ((w.alloc (.cells #[.int .i64 t, .int .i64 r, .slice a q.length c, .int .i64 W] 56)).alloc (.map #[] 0)) (.cells #[.int .i64 t, .int .i64 r, .slice a q.length c, .int .i64 W, .map (some (w.heap.size + 1))] 139)
    rw [hs2] at this
    rw [← hw3]; exact this
  have HW3 := Lib.hid hw3
  clear hw3 hs1 hs2
  go_enter Tryz.func95, Tryz.ntmps95
  go_wp2_with fail
  go_at_call 47
  rw [HW3.out]
  refine (HCl.out _ hN3).mono ?_
  rintro e w4 ⟨v1, rfl, g4, hO4⟩
  have hL4 := g4.at' hL
  have h5 := hset (j := 2) v1 hL4
  have hN5 : Nw w (w4.setCell ⟨w.heap.size + 1 + 1, 2, none⟩ v1) := (hN3.trans g4).st (by show w.heap.size ≤ w.heap.size + 1 + 1; omega) v1
  have hO5 : RqOwn (w4.setCell ⟨w.heap.size + 1 + 1, 2, none⟩ v1) w.heap.size v1 q := olow (own_st hO4 (p := ⟨w.heap.size + 1 + 1, 2, none⟩) (hlt hL) v1) (fun g hg => by have := oge hO4 hg; have := hN3.sz; omega)
  have hM5 : HeldC (w4.setCell ⟨w.heap.size + 1 + 1, 2, none⟩ v1) (w.heap.size + 1) 0 (fun _ => 0) := (hM.nw g4).kept (sgrown w4 _ v1) (by simp)
  have hLn : Ln (w4.setCell ⟨w.heap.size + 1 + 1, 2, none⟩ v1) w.heap.size (w.heap.size + 1 + 1) t r W v1 (w.heap.size + 1) 0 q (fun _ => 0) := ⟨h5, hO5, hM5, by omega, by omega⟩
  obtain ⟨a1, c1, rfl⟩ := (RqOwn.rd hO5).form
  have l0 := hcell (j := 0) hL4
  have l1 := hcell (j := 1) hL4
  have l2 := hcell (j := 2) hL4
  have l3 := hcell (j := 3) hL4
  have l4 := hcell (j := 4) hL4
  have fz := fun k => hfz (j := k) hL4
  have hsl := hlt hL4
  have HLn := Lib.hid (And.intro hN5 hLn)
  clear hLn hN5 hO5 hM5 h5 hO4 hM hB hL4 hL hN3 g4
  go_wp2
  have hp5 : w.heap.size + 1 + 1 < (w4.setCell ⟨w.heap.size + 1 + 1, 2, none⟩ (.slice a1 q.length c1)).heap.size := hlt HLn.out.2.obj
  generalize w4.setCell ⟨w.heap.size + 1 + 1, 2, none⟩ (.slice a1 q.length c1) = w5 at *
  obtain ⟨p, hp⟩ : ∃ p, w.heap.size + 1 + 1 = p := ⟨_, rfl⟩
  obtain ⟨b, hb⟩ : ∃ b, w.heap.size + 1 = b := ⟨_, rfl⟩
  rw [hp, hb] at HLn
  rw [hp, hb] 
  rw [hp] at hp5
  clear HW3 HCl l0 l1 l2 l3 l4 fz hsl hp hb hmm
  go_loopw [23] (fun i wr => ∃ (k n : Nat), k ≤ q.length ∧ i = .int .i64 k ∧ n = k ∧ Ln wr w.heap.size p t r W (.slice a1 q.length c1) b n q (cntQ (q.take k)) ∧ Nw w wr) (fun i _ => q.length - (intOf i).toNat)
  case atStart => exact ⟨0, 0, Nat.zero_le _, rfl, rfl, HLn.out.2, HLn.out.1⟩
  case round =>
    obtain ⟨k, n, hk, rfl, hn, hLn, hN⟩ := hrel
    by_cases hlt : k < q.length
    · obtain ⟨g, cap, e, hg1, hg2, hce⟩ := RqOwn.at hLn.own hlt
      simp only [Value.slice.injEq, true_and] at e
      obtain ⟨rfl, rfl⟩ := e
      have hkR := HK.out _ (List.getElem_mem hlt)
      have hTk : cntQ (q.take (k + 1)) = setC (cntQ (q.take k)) q[k].md (cntQ (q.take k) q[k].md + 1) := by
        rw [← cntQ_snoc, List.take_add_one, List.getElem?_eq_getElem hlt]; rfl
      have hbd := cntQ_bd (q.take k) q[k].md
      have htl := List.length_take_le k q
      generalize q[k] = R at *
      obtain ⟨b0, b1, b2, b3, b4⟩ := R
      simp only at hkR hTk hbd
      have e0 := hce 0 _ rfl
      have e1 := hce 1 _ rfl
      have e2 := hce 2 _ rfl
      have e3 := hce 3 _ rfl
      have e4 := hce 4 _ rfl
      simp only [Nat.add_zero] at e0
      have g6 : Nw wr (wr.alloc (.cells #[.int .i64 b0, .int .i64 b1, .int .i64 b2, .int .i64 b3, .int .i64 b4] 47)) := (Nw.refl wr).alloc _
      have hq6 := RqB.made wr b0 b1 b2 b3 b4 47
      obtain ⟨w6, hw6⟩ : ∃ w6, wr.alloc (.cells #[.int .i64 b0, .int .i64 b1, .int .i64 b2, .int .i64 b3, .int .i64 b4] 47) = w6 := ⟨_, rfl⟩
      rw [hw6] at g6 hq6
      have HW6 := Lib.hid hw6
      have hL6 := hLn.nw g6
      obtain ⟨hlq, -, -, q2, -, -⟩ := hq6
      have hp6 := heap_lt' hL6.obj
      have m4 := hcell (j := 4) hL6.obj
      have hlk := (hL6.map.nw (Nw.refl w6).drewQ).look hkR
      obtain ⟨x, hx⟩ : ∃ x, cntQ (q.take k) b2 = x := ⟨_, rfl⟩
      rw [hx] at hlk hTk hbd
      obtain ⟨x1, hx1⟩ : ∃ x1, x + 1 = x1 := ⟨_, rfl⟩
      have hwx : IntKind.i64.wrap (x + 1) = x1 := by rw [IntKind.wrap_i64]; omega
      obtain ⟨w7, r7, hM7, hG7⟩ := (hL6.map.nw (Nw.refl w6).drewQ).put (by omega) hkR (x := x1) (by omega) (by omega)
      have hL7 := (hL6.nw (Nw.refl w6).drewQ).put hM7 hG7
      rw [← hx1, ← hTk] at hL7
      have hN7 : Nw w w7 := (hN.trans (g6.trans (Nw.refl w6).drewQ)).gro hG7 (fun k hk => by rw [← Option.some.inj hk]; exact hLn.gb)
      have HL7 := Lib.hid (And.intro hL7 hN7)
      have H7 := Lib.hid r7
      clear hLn hN hce hg1 hkR hTk hL6 hx r7 hM7 hG7 hL7 hN7 hbd htl hw6 g6 hx1
      go_wp2
      rw [HW6.out]
      refine wp_region_still_tail 8 (by kernel_rfl) (by kernel_rfl) ?_
      simp only [List.take_succ_cons, List.take_zero, List.drop_succ_cons, List.drop_zero]
      repeat still_step
      try refine wpStill_nil ?_
      change wpList _ _ _ _ _ w6.drew
      go_wp2_with (at_mapUpdate; refine wpl_mapUp rfl (.tmp 30) (.tmp 32) (.tmp 34) 137 rfl _ _ _ _ rfl rfl rfl H7.out ?_)
      go_roundw
      case rel => exact ⟨k + 1, _, by omega, by go_num, by omega, HL7.out.1, HL7.out.2⟩
      case measure => simp [intOf]; omega
    · obtain rfl : k = q.length := by omega
      rw [List.take_length] at hLn
      have HF := Lib.hid (And.intro hN hLn)
      clear hN hLn
      go_wp2
      go_ret
      exact ⟨_, _, _, _, rfl, HF.out.1, HF.out.2, by omega⟩
end Go.Proofs.YtodnlelnpidliaaGreat
end

/- The document's own queue: Abandon, Hand. -/
section
namespace Go.Proofs.YtodnlelnpidliaaGreat
open Go.RowKit
set_option linter.unusedVariables false      -- a contract need not use every name

theorem set_in {A M B : List Value} {j : Nat} (hj : j < M.length) (u : Value) : (A ++ (M ++ B)).set (A.length + j) u = A ++ (M.set j u ++ B) := by
  rw [List.set_append_right _ _ (by omega), Nat.add_sub_cancel_left, List.set_append_left _ _ hj]
theorem rows_mid (q : List Rq) (k : Nat) (hk : k < q.length) : rowsOf rqrow q = rowsOf rqrow (q.take k) ++ (rqrow q[k] ++ rowsOf rqrow (q.drop (k + 1))) := by
  have e : q = q.take k ++ q[k] :: q.drop (k + 1) := by rw [← List.drop_eq_getElem_cons hk, List.take_append_drop]
  conv => lhs; rw [e]
  rw [rows_app]
  rfl
theorem rows_upd (q : List Rq) (k : Nat) (hk : k < q.length) (j : Nat) (hj : j < 5) (u : Value) (new : Rq) (e : (rqrow q[k]).set j u = rqrow new) : (rowsOf rqrow q).set (k * 5 + j) u = rowsOf rqrow (q.set k new) := by
  have hA : (rowsOf rqrow (q.take k)).length = k * 5 := by rw [rows_len (sz := 5) (fun _ => rfl), List.length_take, Nat.min_eq_left (Nat.le_of_lt hk)]
  have h2 := rows_mid (q.set k new) k (by rw [List.length_set]; exact hk)
  rw [List.take_set_of_le (Nat.le_refl k), List.drop_set_of_lt (Nat.lt_succ_self k), List.getElem_set_self] at h2
  rw [rows_mid q k hk, h2, ← hA, set_in (by exact hj) u, e]
theorem own_upd {w : World} {g0 g cap n : Nat} {q : List Rq} (h : RqOwn w g0 (.slice (some ⟨g, 0, none⟩) n cap) q) (hn : n = q.length) (k : Nat) (hk : k < q.length) (j : Nat) (hj : j < 5) (u : Value) (new : Rq) (e : (rqrow q[k]).set j u = rqrow new) :
    RqOwn (w.setCell ⟨g, k * 5 + j, none⟩ u) g0 (.slice (some ⟨g, 0, none⟩) n cap) (q.set k new) := by
  subst hn
  have h1 := (World.ownsRow.stored h (k * 5 + j) u).1
  unfold RqOwn Own
  rw [List.length_set, ← rows_upd q k hk j hj u new e]
  exact h1
theorem own_cell {w : World} {g0 g cap n : Nat} {q : List Rq} (h : RqOwn w g0 (.slice (some ⟨g, 0, none⟩) n cap) q) (hn : n = q.length) (k : Nat) (hk : k < q.length) (j : Nat) (u : Value) (hu : (rqrow q[k])[j]? = some u) : w.cell? ⟨g, k * 5 + j, none⟩ = some u := by
  subst hn
  have hj : j < 5 := by have := (List.getElem?_eq_some_iff.1 hu).1; simpa [rqrow] using this
  refine (World.ownsRow.cellAt h (k * 5 + j) (by omega)).trans ?_
  rw [rows_at' (sz := 5) (fun _ => rfl) q k j hk hj]; exact hu
theorem own_frz {w : World} {g0 g cap n : Nat} {q : List Rq} (h : RqOwn w g0 (.slice (some ⟨g, 0, none⟩) n cap) q) (hn : n = q.length) (j : Nat) : w.frozen? ⟨g, j, none⟩ = false := by
  subst hn
  exact World.ownsRow.frozenAt h j
theorem ab_at {W : Int} {q : List Rq} {k : Nat} (h : Ok W q) (hk : k < q.length) (hm : q[k].md ≠ 0) : abQ q[k] q = q.set k (abR q[k]) := by
  unfold abQ
  rw [if_neg hm, chg_set h abR k hk]
end Go.Proofs.YtodnlelnpidliaaGreat
end

/- The developers' package queue: DeleteFunc of requests; without. -/
section
namespace Go.Proofs.YtodnlelnpidliaaGreat
open Go.RowKit
set_option linter.unusedVariables false      -- a contract need not use every name

abbrev zQ : Value := .agg #[.int .i64 0, .int .i64 0, .int .i64 0, .int .i64 0, .int .i64 0]
theorem clear_rqs (w : World) (g o n c : Nat) (hn : 0 < n) (hc : ∀ j, j < n * 5 → (w.cell? ⟨g, o + j, none⟩).isSome = true) (hf : ∀ j, w.frozen? ⟨g, j, none⟩ = false) :
    ∃ vs, ∀ ty, (Builtin.clear_ #[54] ty #[.slice (some ⟨g, o, none⟩) n c]).run Tryz.prog w = .ok (.tuple #[]) (w.setCells g o vs) := by
  obtain ⟨m, rfl⟩ : ∃ m, n = m + 1 := ⟨n - 1, by omega⟩
  refine ⟨(Builtin.zeroCells zQ.cells (m + 1)).toList, fun ty => ?_⟩
  have hlen : (Builtin.zeroCells zQ.cells (m + 1)).toList.length = (m + 1) * 5 := by simp [Builtin.zeroCells, Value.cells]
  have hst := run_storeCells_cells (P := Tryz.prog) g o (Builtin.zeroCells zQ.cells (m + 1)).toList 0 w (by rw [hlen]; simpa using hc) (by intro j _; exact hf _) (by
    intro v hv
    obtain ⟨i, hi, rfl⟩ := List.getElem_of_mem hv
    simp only [Builtin.zeroCells, Array.toList_map, List.getElem_map]
    have h5 : ∀ i : Nat, i < 5 → (zQ.cells[i]!).oneCell' = true := by decide
    exact h5 _ (Nat.mod_lt _ (by decide)))
  simp only [Nat.add_zero] at hst
  simp [Builtin.clear_, run_underlying Tryz.underlying54, hst]
theorem Nw.rls {a b : World} (h : Nw a b) : (∀ k o, k < a.heap.size → b.cell? ⟨k, o, none⟩ = a.cell? ⟨k, o, none⟩) ∧ (∀ k o, k < a.heap.size → b.frozen? ⟨k, o, none⟩ = a.frozen? ⟨k, o, none⟩) := ⟨fun _ _ h1 => h.cell h1, fun _ _ h1 => h.froz h1⟩
theorem rq_there {w : World} {g0 g n cap : Nat} {l : List Rq} (h : RqOwn w g0 (.slice (some ⟨g, 0, none⟩) n cap) l) (hn : n = l.length) (j : Nat) (hj : j < l.length * 5) : (w.cell? ⟨g, j, none⟩).isSome = true := by
  subst hn
  have e : w.cell? ⟨g, j, none⟩ = (rowsOf rqrow l)[j]? := World.ownsRow.cellAt h j hj
  rw [e, List.getElem?_eq_getElem (by rw [rows_len (sz := 5) (fun _ => rfl)]; exact hj)]; rfl
theorem tch_cells (g : Nat) : ∀ (vs : List Value) (o : Nat) (w : World), Tch (fun k => k = g) w (w.setCells g o vs)
  | [], _, w => Tch.refl _ w
  | v :: r, o, w => by
    rw [World.setCells]
    exact (setCell_at w ⟨g, o, none⟩ v).trans (tch_cells g r (o + 1) _)
def putQ (w : World) (g a : Nat) (s : Rq) : World := ((((w.setCell ⟨g, a * 5, none⟩ (.int .i64 s.id)).setCell ⟨g, a * 5 + 1, none⟩ (.int .i64 s.txn)).setCell ⟨g, a * 5 + 2, none⟩ (.int .i64 s.md)).setCell ⟨g, a * 5 + 3, none⟩ (.int .i64 s.wt)).setCell ⟨g, a * 5 + 4, none⟩ (.int .i64 s.sn)
theorem own_putQ {w : World} {g0 g n cap a : Nat} {R : List Rq} (h : RqOwn w g0 (.slice (some ⟨g, 0, none⟩) n cap) R) (hn : n = R.length) (ha : a < R.length) (s : Rq) : RqOwn (putQ w g a s) g0 (.slice (some ⟨g, 0, none⟩) n cap) (R.set a s) := by
  have l1 : ∀ x : Rq, n = (R.set a x).length := fun x => by rw [List.length_set]; exact hn
  have k1 : ∀ x : Rq, a < (R.set a x).length := fun x => by rw [List.length_set]; exact ha
  have h0 := own_upd h hn a ha 0 (by decide) (.int .i64 s.id) ⟨s.id, R[a].txn, R[a].md, R[a].wt, R[a].sn⟩ rfl
  have h1 := own_upd h0 (l1 _) a (k1 _) 1 (by decide) (.int .i64 s.txn) ⟨s.id, s.txn, R[a].md, R[a].wt, R[a].sn⟩ (by rw [List.getElem_set_self]; rfl)
  rw [List.set_set] at h1
  have h2 := own_upd h1 (l1 _) a (k1 _) 2 (by decide) (.int .i64 s.md) ⟨s.id, s.txn, s.md, R[a].wt, R[a].sn⟩ (by rw [List.getElem_set_self]; rfl)
  rw [List.set_set] at h2
  have h3 := own_upd h2 (l1 _) a (k1 _) 3 (by decide) (.int .i64 s.wt) ⟨s.id, s.txn, s.md, s.wt, R[a].sn⟩ (by rw [List.getElem_set_self]; rfl)
  rw [List.set_set] at h3
  have h4 := own_upd h3 (l1 _) a (k1 _) 4 (by decide) (.int .i64 s.sn) s (by rw [List.getElem_set_self]; rfl)
  rw [List.set_set] at h4
  exact h4
theorem putQ_tch (w : World) (g a : Nat) (s : Rq) : Tch (fun k => k = g) w (putQ w g a s) := by
  unfold putQ
  exact (((((Tch.refl (fun k => k = g) w).set (p := ⟨g, a * 5, none⟩) (.inl rfl) _).set (p := ⟨g, a * 5 + 1, none⟩) (.inl rfl) _).set (p := ⟨g, a * 5 + 2, none⟩) (.inl rfl) _).set (p := ⟨g, a * 5 + 3, none⟩) (.inl rfl) _).set (p := ⟨g, a * 5 + 4, none⟩) (.inl rfl) _
abbrev outQ (p : Rq → Bool) (l : List Rq) : List Rq := l.filter fun s => !p s
/-- What the loop of DeleteFunc keeps: a requests moved to the front, b looked at. -/
structure Del (p : Rq → Bool) (w wr : World) (g0 g n cap a b : Nat) (l R : List Rq) : Prop where
  ab : a < b
  bn : b ≤ l.length
  len : R.length = l.length
  front : R.take a = outQ p (l.take b)
  rest : R.drop b = l.drop b
  row : RqOwn wr g0 (.slice (some ⟨g, 0, none⟩) n cap) R
  tch : Tch (fun k => k = g) w wr
theorem taken {α : Type} {l : List α} {b : Nat} (h : b < l.length) : l.take (b + 1) = l.take b ++ [l[b]] := by
  rw [List.take_add_one, List.getElem?_eq_getElem h]; rfl
theorem out_end {p : Rq → Bool} {L : List Rq} {s : Rq} (h : p s = true) : outQ p (L ++ [s]) = outQ p L := by
  simp only [outQ, List.filter_append, List.filter_cons, h, Bool.not_true, Bool.false_eq_true, if_false, List.filter_nil, List.append_nil]
theorem out_on {p : Rq → Bool} {L : List Rq} {s : Rq} (h : p s = false) : outQ p (L ++ [s]) = outQ p L ++ [s] := by
  simp only [outQ, List.filter_append, List.filter_cons, h, Bool.not_false, if_true, List.filter_nil]
theorem drops_at {α : Type} {R l : List α} {b : Nat} (h : R.drop b = l.drop b) (hb : b < l.length) (hR : R.length = l.length) : ∃ hr : b < R.length, R[b] = l[b] := by
  refine ⟨by omega, ?_⟩
  have := congrArg (fun x => x[0]?) h
  simp only [List.getElem?_drop, Nat.add_zero] at this
  rw [List.getElem?_eq_getElem hb, List.getElem?_eq_getElem (by omega)] at this
  exact Option.some.inj this
theorem drops_up {α : Type} {R l : List α} {b : Nat} (h : R.drop b = l.drop b) : R.drop (b + 1) = l.drop (b + 1) := by
  rw [← List.drop_drop, ← List.drop_drop, h]
section
variable {p : Rq → Bool} {w wr wr' : World} {g0 g n cap a b : Nat} {l R : List Rq}
theorem Del.skip (h : Del p w wr g0 g n cap a b l R) (hb : b < l.length) (he : p l[b] = true) (g' : Nw wr wr') : Del p w wr' g0 g n cap a (b + 1) l R :=
  ⟨by have := h.ab; omega, hb, h.len, by rw [h.front, taken hb, out_end he], drops_up h.rest, onw h.row g', h.tch.trans (Tch.nw g')⟩
theorem Del.move (h : Del p w wr g0 g n cap a b l R) (hn : n = l.length) (hb : b < l.length) (he : p l[b] = false) (g' : Nw wr wr') : Del p w (putQ wr' g a l[b]) g0 g n cap (a + 1) (b + 1) l (R.set a l[b]) := by
  have hab := h.ab
  have hR := h.len
  have ha : a < R.length := by omega
  refine ⟨by omega, hb, by simp [hR], ?_, ?_, ?_, ?_⟩
  · rw [taken (by simpa using ha), taken hb]
    have e1 : (R.set a l[b]).take a = R.take a := List.take_set_of_le (Nat.le_refl a)
    rw [e1, h.front, out_on he]
    simp
  · rw [List.drop_set_of_lt (by omega)]; exact drops_up h.rest
  · exact own_putQ (onw h.row g') (by omega) ha _
  · exact (h.tch.trans (Tch.nw g')).trans (putQ_tch _ _ _ _)
end
theorem takes_filter {p : Rq → Bool} {l : List Rq} {j : Nat} (hj : j < l.length) (he : p l[j] = true) (hF : ∀ i (hi : i < l.length), i < j → p l[i] = false) : l.take j = outQ p (l.take (j + 1)) := by
  rw [taken hj, out_end he]
  symm
  rw [outQ, List.filter_eq_self]
  intro s hs
  obtain ⟨i, hi, rfl⟩ := List.getElem_of_mem hs
  simp at hi
  simp [hF i (by omega) (by omega)]
theorem out_all {p : Rq → Bool} {l : List Rq} (h : ∀ s ∈ l, p s = false) : outQ p l = l := by
  rw [outQ, List.filter_eq_self]
  intro s hs
  simp [h s hs]
set_option maxRecDepth 100000 in
set_option maxHeartbeats 4000000 in
theorem dDelete (p : Rq → Bool) (f : Value) (g0 : Nat) (v : Value) (l : List Rq) (w : World) (hl : l.length ≤ 1000) (h : RqOwn w g0 v l) (hf : Tells w f p) (hfr : ∀ w1, Tch (fun k => v.ownBlock = some k) w w1 → Tells w1 f p) :
    Calls Tryz.prog 126 #[v, f] w fun e w' => ∃ v', e = .returned v' ∧ RqAt w' v' (outQ p l) ∧ capOk v' ∧ (∀ b o n c, v' = .slice (some ⟨b, o, none⟩) n c → v.ownBlock = some b ∨ (outQ p l) = []) ∧ Tch (fun k => v.ownBlock = some k) w w' := by
  have HI0 := dIndex v f p l w hl (RqOwn.rd h) hf
  have hf' := hf
  obtain ⟨gf, lb, rfl, eg, _⟩ := hf'
  obtain ⟨hfo, -⟩ : True ∧ True := ⟨trivial, trivial⟩
  obtain ⟨px, hpx⟩ : ∃ px, plc p l = px := ⟨_, rfl⟩
  rw [hpx] at HI0
  have HI := Lib.hid HI0
  clear HI0
  rcases plc_form p l with ⟨h1, h2⟩ | ⟨j, h1, hj, he, hF⟩
  · obtain rfl := hpx.symm.trans h1
    obtain ⟨a, c, rfl⟩ := (RqOwn.rd h).form
    have HR := Lib.hid h
    clear h hfr hf
    go_enter Tryz.func126, Tryz.ntmps126
    go_wp2_with (go_at_call 114; refine HI.out.mono ?_; rintro e w1 ⟨rfl, g1⟩)
    go_ret
    exact ⟨_, rfl, by rw [out_all h2]; exact RqOwn.rd (onw HR.out g1), RqOwn.cap HR.out, fun b o n k e => by
      rcases oform HR.out with ⟨e2, z⟩ | ⟨g, cap, e2⟩
      · exact .inr (by rw [out_all h2]; exact List.length_eq_zero_iff.1 z)
      · have e3 := e2.symm.trans e
        simp only [Value.slice.injEq, Option.some.injEq, Addr.mk.injEq] at e3
        refine .inl ?_
        rw [e2, ← e3.1.1]; rfl, Tch.nw g1⟩
  obtain rfl := hpx.symm.trans h1
  obtain ⟨g, cap, rfl, hg0, hgl, _⟩ := RqOwn.at h hj
  have hcap := RqOwn.cap h
  have hcap : l.length ≤ cap := hcap
  have d0 : ((j : Int) == -1) = false := by simp
  have HX := Lib.hid (And.intro he hF)
  have HFr := Lib.hid hfr
  have H := Lib.hid h
  clear he hF hfr hf h
  go_enter Tryz.func126, Tryz.ntmps126
  go_wp2_with (go_at_call 114; refine HI.out.mono ?_; rintro e w1 ⟨rfl, g1⟩)
  have HD : Hid (Del p w w1 g0 g l.length cap j (j + 1) l l) := Lib.hid ⟨by omega, hj, rfl, takes_filter hj HX.out.1 HX.out.2, rfl, onw H.out g1, Tch.nw g1⟩
  clear HX H HI g1
  case _ =>
    go_loopw [5, 6] (fun i k wr => ∃ (a b : Nat) (R : List Rq), i = .int .i64 a ∧ k = .int .i64 b ∧ Del p w wr g0 g l.length cap a b l R) (fun _ k _ => l.length - (intOf k).toNat)
    case atStart => exact ⟨j, j + 1, l, rfl, by go_num, HD.out⟩
    case round =>
      obtain ⟨a, b, R, rfl, rfl, hD⟩ := hrel
      have hab := hD.ab
      have hbn := hD.bn
      by_cases hlt : b < l.length
      · obtain ⟨hrb, hRb⟩ := drops_at hD.rest hlt hD.len
        obtain ⟨s, hs⟩ : ∃ s, l[b] = s := ⟨_, rfl⟩
        rw [hs] at hRb
        have hcell : ∀ c u, (rqrow s)[c]? = some u → wr.cell? ⟨g, b * 5 + c, none⟩ = some u := fun c u hu => own_cell hD.row hD.len.symm b hrb c u (by rw [hRb]; exact hu)
        have c0 := hcell 0 _ rfl
        have c1 := hcell 1 _ rfl
        have c2 := hcell 2 _ rfl
        have c3 := hcell 3 _ rfl
        have c4 := hcell 4 _ rfl
        simp only [Nat.add_zero] at c0
        have hgl := olt hD.row rfl
        have hT := HFr.out wr (hD.tch.mono fun i _ e => by rw [e]; rfl)
        obtain ⟨gf', lb', eqf, _, hTT⟩ := hT
        simp only [Value.func.injEq, Fn.func.injEq, true_and] at eqf
        obtain ⟨rfl, rfl⟩ := eqf
        have HE := Lib.hid (hTT s)
        obtain ⟨B, hB⟩ : ∃ B, p s = B := ⟨_, rfl⟩
        rw [hB] at HE
        have HB := Lib.hid (show p l[b] = B by rw [hs]; exact hB)
        have HS := Lib.hid hs
        have HR := Lib.hid hD
        clear hB hcell hs hRb hTT
        have g6 : Nw wr (wr.alloc (.cells #[.int .i64 s.id, .int .i64 s.txn, .int .i64 s.md, .int .i64 s.wt, .int .i64 s.sn] 47)) := (Nw.refl wr).alloc _
        have hq6 := Lib.hid (RqB.made wr s.id s.txn s.md s.wt s.sn 47)
        cases B
        case true =>
          clear hD
          go_wp2_with (go_at_fn gf; refine (HE.out _ g6).mono ?_; rintro e w1 ⟨rfl, g1⟩)
          go_roundw
          case rel => exact ⟨a, b + 1, R, rfl, by go_num, HR.out.skip hlt HB.out (g6.trans g1)⟩
          case measure => simp [intOf]; omega
        case false =>
          have har : a < R.length := by have := hD.len; omega
          have k0 : ∀ c, c < 5 → ∃ u, wr.cell? ⟨g, a * 5 + c, none⟩ = some u := fun c hc => by
            have : c < (rqrow R[a]).length := hc
            exact ⟨_, own_cell hD.row hD.len.symm a har c _ (List.getElem?_eq_getElem this)⟩
          obtain ⟨y0, a0⟩ := k0 0 (by omega)
          obtain ⟨y1, a1⟩ := k0 1 (by omega)
          obtain ⟨y2, a2⟩ := k0 2 (by omega)
          obtain ⟨y3, a3⟩ := k0 3 (by omega)
          obtain ⟨y4, a4⟩ := k0 4 (by omega)
          simp only [Nat.add_zero] at a0
          have fz := fun c => own_frz hD.row hD.len.symm c
          have z0 := fz (a * 5)
          have z1 := fz (a * 5 + 1)
          have z2 := fz (a * 5 + 2)
          have z3 := fz (a * 5 + 3)
          have z4 := fz (a * 5 + 4)
          have hRl := hD.len
          have hai : (a : Int) < (l.length : Int) := by omega
          clear k0 fz hD
          go_wp2_with (go_at_fn gf; refine (HE.out _ g6).mono ?_; rintro e w1 ⟨rfl, g1⟩; obtain ⟨hc1, hf1⟩ := g1.rls)
          go_roundw
          case rel => exact ⟨a + 1, b + 1, _, by go_num, by go_num, by have := HR.out.move rfl hlt HB.out (g6.trans g1); rw [HS.out] at this; exact this⟩
          case measure => simp [intOf]; omega
      · have hbe : b = l.length := by omega
        subst hbe
        have HR := Lib.hid hD
        have hlen := hD.len
        have hcc : ∀ q, q < (l.length - a) * 5 → (wr.cell? ⟨g, a * 5 + q, none⟩).isSome = true := fun q hq => rq_there hD.row hlen.symm (a * 5 + q) (by omega)
        obtain ⟨vs, hvs⟩ := clear_rqs wr g (a * 5) (l.length - a) (cap - a) (by omega) hcc (fun q => own_frz hD.row hlen.symm q)
        have e1 : ((l.length : Int) - (a : Int)).toNat = l.length - a := by omega
        have hne : ¬ cap = a := by omega
        clear hD hcc
        go_wp2
        go_ret
        have hfr := HR.out.front
        rw [List.take_length] at hfr
        have hpl : (outQ p l).length = a := by rw [← hfr, List.length_take]; omega
        have hT := tch_cells g vs (a * 5) wr
        refine ⟨_, rfl, ⟨_, cap, by rw [hpl]; rfl, .inr ⟨g, 0, rfl, Nat.lt_of_lt_of_le (olt HR.out.row rfl) hT.size, fun i hi c u hu => ?_⟩⟩, by show a ≤ cap; omega, fun b o n c e => by
          injection e with e _ _
          injection e with e
          injection e with e _ _
          rw [← e]; exact .inl rfl, (HR.out.tch.trans hT).mono fun i _ e => by rw [e]; rfl⟩
        have hc : c < 5 := by have := (List.getElem?_eq_some_iff.1 hu).1; simpa [rqrow] using this
        rw [Nat.zero_add, World.cell?_setCells_out g vs _ wr _ (fun _ _ => .inl (show i * 5 + c < a * 5 by omega))]
        have hiR : i < R.length := by omega
        refine own_cell HR.out.row hlen.symm i hiR c u ?_
        have hx : (outQ p l)[i] = R[i] := by
          have : ∀ (M : List Rq) (e : R.take a = M) (h : i < M.length), M[i] = R[i] := fun M e h => by subst e; simp
          exact this _ hfr hi
        rw [← hx]; exact hu
end Go.Proofs.YtodnlelnpidliaaGreat
end

/- The developers' package queue: a grant; a request more. -/
section
namespace Go.Proofs.YtodnlelnpidliaaGreat
open Go.RowKit Go.Maps Go.ChangeMaps
set_option linter.unusedVariables false      -- a contract need not use every name

theorem cntQ_set (q : List Rq) (k : Nat) (hk : k < q.length) (R : Rq) : cntQ (q.set k R) = setC (setC (cntQ q) q[k].md (cntQ q q[k].md - 1)) R.md (setC (cntQ q) q[k].md (cntQ q q[k].md - 1) R.md + 1) := by
  have e : q = q.take k ++ q[k] :: q.drop (k + 1) := by rw [← List.drop_eq_getElem_cons hk, List.take_append_drop]
  have hs : q.set k R = q.take k ++ R :: q.drop (k + 1) := by
    have := set_mid (q.take k) (q.drop (k + 1)) q[k] R k (by simp; omega)
    rwa [← e] at this
  have c1 : ∀ x, cntQ (q.set k R) x = ((q.take k).countP fun R => R.md == x : Nat) + ((q.drop (k + 1)).countP fun R => R.md == x : Nat) + (if R.md = x then 1 else 0) := by
    intro x
    unfold cntQ
    rw [hs, List.countP_append, List.countP_cons]
    simp only [beq_iff_eq]
    split <;> omega
  have c2 : ∀ x, cntQ q x = ((q.take k).countP fun R => R.md == x : Nat) + ((q.drop (k + 1)).countP fun R => R.md == x : Nat) + (if q[k].md = x then 1 else 0) := by
    intro x
    have : cntQ q x = cntQ (q.take k ++ q[k] :: q.drop (k + 1)) x := by rw [← e]
    rw [this]
    unfold cntQ
    rw [List.countP_append, List.countP_cons]
    simp only [beq_iff_eq]
    split <;> omega
  funext x
  rw [c1 x]
  unfold setC
  have h2 := c2 x
  have h3 := c2 R.md
  have h4 := c2 q[k].md
  simp only [if_true] at h4
  by_cases a : x = R.md
  · subst a
    rw [if_pos rfl]
    by_cases d : R.md = q[k].md
    · rw [if_pos d, ← d]; rw [← d] at h2; simp only [if_true] at h2 ⊢; omega
    · rw [if_neg d]; rw [if_neg (fun e => d e.symm)] at h2; simp only [if_true]; omega
  · rw [if_neg a, if_neg (fun e => a e.symm)]
    by_cases d : x = q[k].md
    · rw [if_pos d, ← d]; rw [← d] at h2; simp only [if_true] at h2; omega
    · rw [if_neg d]; rw [if_neg (fun e => d e.symm)] at h2; omega
theorem Ln.row {w : World} {g0 p : Nat} {t r W : Int} {v : Value} {b n : Nat} {q q' : List Rq} {c : Int → Int} (h : Ln w g0 p t r W v b n q c) {a : Addr} (ha : v.ownBlock = some a.block) (u : Value) (ho : RqOwn (w.setCell a u) g0 v q') : Ln (w.setCell a u) g0 p t r W v b n q' c :=
  ⟨((sgrown w a u).block p (hlt h.obj) (fun e => h.vp (ha.trans e.symm))).trans h.obj, ho, h.map.kept (sgrown w a u) (fun e => h.vb (ha.trans e.symm)), h.gp, h.gb⟩
set_option maxRecDepth 100000 in
set_option maxHeartbeats 2000000 in
theorem dGrant {w : World} {g0 p g cap b n : Nat} {t r W : Int} {q : List Rq} {c : Int → Int} (h : Ln w g0 p t r W (.slice (some ⟨g, 0, none⟩) q.length cap) b n q c) (k : Nat) (hk : k < q.length) (hkm : knI q[k].md = true) (hkw : knI q[k].wt = true) (hb : ∀ x, 0 ≤ c x ∧ c x ≤ 100000) (hn : n < 900000) (hl : q.length ≤ 1000) :
    Calls Tryz.prog 122 #[.pointer (some ⟨p, 0, none⟩), .int .i64 k] w fun e w' => e = .returned (.tuple #[]) ∧
      Ln w' g0 p t r W (.slice (some ⟨g, 0, none⟩) q.length cap) b (n + 2) (q.set k (grtR q[k])) (setC (setC c q[k].md (c q[k].md - 1)) q[k].wt (setC c q[k].md (c q[k].md - 1) q[k].wt + 1)) ∧ Tch (fun i => i = b ∨ i = g) w w' := by
  have hbd := hb q[k].md
  have hbd2 : -1 ≤ setC c q[k].md (c q[k].md - 1) q[k].wt ∧ setC c q[k].md (c q[k].md - 1) q[k].wt ≤ 100000 := by
    unfold setC
    have := hb q[k].wt
    split <;> omega
  have hki : (k : Int) < (q.length : Int) := by omega
  have hLd := h.nw (Nw.refl w).drewQ
  have hlk := hLd.map.look hkm
  obtain ⟨x, hx⟩ : ∃ x, c q[k].md = x := ⟨_, rfl⟩
  rw [hx] at hlk hbd hbd2 ⊢
  obtain ⟨x1, hx1⟩ : ∃ x1, x - 1 = x1 := ⟨_, rfl⟩
  rw [hx1] at hbd2 ⊢
  have hwx : IntKind.i64.wrap (x - 1) = x1 := by rw [IntKind.wrap_i64]; omega
  obtain ⟨w1, r1, hM1, hG1⟩ := hLd.map.put (by omega) hkm (x := x1) (by omega) (by omega)
  have hL1 := hLd.put hM1 hG1
  -- the row's cells
  have hcs : ∀ (x : World), RqOwn x g0 (.slice (some ⟨g, 0, none⟩) q.length cap) q → ∀ j u, (rqrow q[k])[j]? = some u → x.cell? ⟨g, k * 5 + j, none⟩ = some u := fun x ho j u hu => own_cell ho rfl k hk j u hu
  have hcw := hcs _ h.own
  have hc1 := hcs _ hL1.own
  have hf1 := fun j => own_frz hL1.own rfl j
  have hup := own_upd (own_upd hL1.own rfl k hk 2 (by decide) (.int .i64 q[k].wt) ⟨q[k].id, q[k].txn, q[k].wt, q[k].wt, q[k].sn⟩ rfl) (by rw [List.length_set]) k (by rw [List.length_set]; exact hk) 4 (by decide) (.int .i64 0) (grtR q[k]) (by rw [List.getElem_set_self]; rfl)
  rw [List.set_set] at hup
  have hup1 := own_upd hL1.own rfl k hk 2 (by decide) (.int .i64 q[k].wt) ⟨q[k].id, q[k].txn, q[k].wt, q[k].wt, q[k].sn⟩ rfl
  have hL2' := hL1.row (a := ⟨g, k * 5 + 2, none⟩) rfl (.int .i64 q[k].wt) hup1
  have hL2 := hL2'.row (a := ⟨g, k * 5 + 4, none⟩) rfl (.int .i64 0) hup
  obtain ⟨w2, hw2⟩ : ∃ w2, (w1.setCell ⟨g, k * 5 + 2, none⟩ (.int .i64 q[k].wt)).setCell ⟨g, k * 5 + 4, none⟩ (.int .i64 0) = w2 := ⟨_, rfl⟩
  have hT2 : Tch (fun i => i = b ∨ i = g) w w2 := by
    rw [← hw2]
    exact (((Tch.nw (Nw.refl w).drewQ).grown hG1 (fun k hk => .inl (.inl (Option.some.inj hk).symm))).set (p := ⟨g, k * 5 + 2, none⟩) (.inl (.inr rfl)) _).set (p := ⟨g, k * 5 + 4, none⟩) (.inl (.inr rfl)) _
  rw [hw2] at hL2
  have hLd2 := hL2.nw (Nw.refl w2).drewQ
  have hlk2 := hLd2.map.look hkw
  obtain ⟨y, hy⟩ : ∃ y, setC c q[k].md x1 q[k].wt = y := ⟨_, rfl⟩
  rw [hy] at hlk2 hbd2 ⊢
  obtain ⟨y1, hy1⟩ : ∃ y1, y + 1 = y1 := ⟨_, rfl⟩
  rw [hy1]
  have hwy : IntKind.i64.wrap (y + 1) = y1 := by rw [IntKind.wrap_i64]; omega
  obtain ⟨w3, r3, hM3, hG3⟩ := hLd2.map.put (by omega) hkw (x := y1) (by omega) (by omega)
  have hL3 := hLd2.put hM3 hG3
  have hT3 : Tch (fun i => i = b ∨ i = g) w w3 := (hT2.drewN 1).grown hG3 (fun k hk => .inl (.inl (Option.some.inj hk).symm))
  have HE := Lib.hid (And.intro hL3 hT3)
  have hpl := hlt h.obj
  have hgl := olt h.own rfl
  have p2 := hcell (j := 2) h.obj
  have p4 := hcell (j := 4) h.obj
  have hpl1 := hlt hL1.obj
  have hgl1 := olt hL1.own rfl
  have p12 := hcell (j := 2) hL1.obj
  have p14 := hcell (j := 4) hL1.obj
  have hpl2 := hlt hL2.obj
  have hgl2 := olt hL2.own rfl
  have p22 := hcell (j := 2) hL2.obj
  have p24 := hcell (j := 4) hL2.obj
  have hc2 := own_cell hL2.own (by rw [List.length_set]) k (by rw [List.length_set]; exact hk) 2 (.int .i64 q[k].wt) (by rw [List.getElem_set_self]; rfl)
  have R1 := Lib.hid r1
  have R3 := Lib.hid r3
  have HW2 := Lib.hid hw2
  have a2 := hcw 2 _ rfl
  have a3 := hcw 3 _ rfl
  have b2 := hc1 2 _ rfl
  have b3 := hc1 3 _ rfl
  have b4 := hc1 4 _ rfl
  clear h hb hLd hx hx1 hbd hbd2 hM1 hG1 hL1 hcs hcw hc1 hup hup1 hL2' hL2 hw2 hT2 hLd2 hy hy1 hM3 hG3 hL3 hT3 r1 r3 hkm hkw hn hl
  generalize q[k] = R at *
  obtain ⟨d0, d1, d2, d3, d4⟩ := R
  simp only at *
  go_enter Tryz.func122, Tryz.ntmps122
  go_wp2
  refine wp_region_still_tail 10 (by kernel_rfl) (by kernel_rfl) ?_
  simp only [List.take_succ_cons, List.take_zero, List.drop_succ_cons, List.drop_zero]
  repeat still_step
  try refine wpStill_nil ?_
  change wpList _ _ _ _ _ w.drew
  go_wp2_with (at_mapUpdate; refine wpl_mapUp rfl (.tmp 15) (.tmp 19) (.tmp 21) 137 rfl _ _ _ _ rfl rfl rfl R1.out ?_)
  rw [HW2.out]
  refine wp_region_still_tail 10 (by kernel_rfl) (by kernel_rfl) ?_
  simp only [List.take_succ_cons, List.take_zero, List.drop_succ_cons, List.drop_zero]
  repeat still_step
  try refine wpStill_nil ?_
  change wpList _ _ _ _ _ w2.drew
  go_wp2_with (at_mapUpdate; refine wpl_mapUp rfl (.tmp 35) (.tmp 39) (.tmp 41) 137 rfl _ _ _ _ rfl rfl rfl R3.out ?_)
  exact bodyPost_end (results_none rfl _ _ _) rfl ⟨rfl, HE.out⟩
end Go.Proofs.YtodnlelnpidliaaGreat
end
