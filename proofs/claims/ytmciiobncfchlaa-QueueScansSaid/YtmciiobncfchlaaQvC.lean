
/- The developers' package queue: the order of turns. -/
import Derived.Test.YtmciiobncfchlaaQvA
import Derived.Test.YtmciiobncfchlaaInts
import Derived.Test.YtmciiobncfchlaaQuJ
namespace Go.Proofs.Ytmciiobncfchlaa
open Go.RowKit
set_option linter.unusedVariables false      -- a contract need not use every name

/-- How two that wait compare: who upgrades comes first, then who came first. -/
def hoI (a b : Rq) : Int := if (a.md != 0) = (b.md != 0) then 0 else if (a.md != 0) = true then -1 else 1
def cmI (a b : Int) : Int := if a < b then -1 else if b < a then 1 else 0
def toI (a b : Rq) : Int := if hoI a b ≠ 0 then hoI a b else cmI a.sn b.sn
theorem nwS {w : World} : ∀ a b, Nw w a → Nw a b → Nw w b := fun _ _ h g => h.trans g
theorem Nw.drew1 {w a : World} (h : Nw w a) : Nw w a.drew := h.drewN 1
set_option maxHeartbeats 1000000 in
theorem dByHolding (A B : Rq) (w : World) : Calls Try.prog 92 #[rqV A, rqV B] w fun e w' => e = .returned (.int .i64 (hoI A B)) ∧ Nw w w' := by
  have HA := Lib.hid (dHolds A)
  have HB := Lib.hid (dHolds B)
  obtain ⟨V, hV⟩ : ∃ V, hoI A B = V := ⟨_, rfl⟩
  have hV2 := hV
  rw [hV]
  unfold hoI at hV2
  generalize (A.md != 0) = x at *
  generalize (B.md != 0) = y at *
  clear hV
  have HV := Lib.hid hV2
  clear hV2
  obtain ⟨a, b, m, n, s⟩ := A
  obtain ⟨a', b', m', n', s'⟩ := B
  unfold rqV at *
  have HX := Lib.hid (two_boxes w (.cells #[.int .i64 a, .int .i64 b, .int .i64 m, .int .i64 n, .int .i64 s] 41) (.cells #[.int .i64 a', .int .i64 b', .int .i64 m', .int .i64 n', .int .i64 s'] 41))
  go_enter Try.func92, Try.ntmps92
  go_wp2_with fail
  generalize (w.alloc (.cells #[.int .i64 a, .int .i64 b, .int .i64 m, .int .i64 n, .int .i64 s] 41)).alloc (.cells #[.int .i64 a', .int .i64 b', .int .i64 m', .int .i64 n', .int .i64 s'] 41) = w1 at *
  obtain ⟨p, hp⟩ : ∃ p, w.heap.size = p := ⟨_, rfl⟩
  rw [hp] at HX ⊢
  have hl1 := hlt HX.out.1
  have hl2 := hlt HX.out.2.1
  have c0 := hcell (j := 0) HX.out.1
  have c1 := hcell (j := 1) HX.out.1
  have c2 := hcell (j := 2) HX.out.1
  have c3 := hcell (j := 3) HX.out.1
  have c4 := hcell (j := 4) HX.out.1
  have d0 := hcell (j := 0) HX.out.2.1
  have d1 := hcell (j := 1) HX.out.2.1
  have d2 := hcell (j := 2) HX.out.2.1
  have d3 := hcell (j := 3) HX.out.2.1
  have d4 := hcell (j := 4) HX.out.2.1
  have HN := Lib.hid HX.out.2.2.1
  clear HX hp hl1 hl2
  refine region_in (Nw w1) (by kernel_rfl) (by kernel_rfl) (Nw.refl _).drew1 ?_
  have e0 : ∀ d : Wd (Nw w1), d.w.cell? _ = _ := fun d => d.h.kp c0
  have e1 : ∀ d : Wd (Nw w1), d.w.cell? _ = _ := fun d => d.h.kp c1
  have e2 : ∀ d : Wd (Nw w1), d.w.cell? _ = _ := fun d => d.h.kp c2
  have e3 : ∀ d : Wd (Nw w1), d.w.cell? _ = _ := fun d => d.h.kp c3
  have e4 : ∀ d : Wd (Nw w1), d.w.cell? _ = _ := fun d => d.h.kp c4
  have f0 : ∀ d : Wd (Nw w1), d.w.cell? _ = _ := fun d => d.h.kp d0
  have f1 : ∀ d : Wd (Nw w1), d.w.cell? _ = _ := fun d => d.h.kp d1
  have f2 : ∀ d : Wd (Nw w1), d.w.cell? _ = _ := fun d => d.h.kp d2
  have f3 : ∀ d : Wd (Nw w1), d.w.cell? _ = _ := fun d => d.h.kp d3
  have f4 : ∀ d : Wd (Nw w1), d.w.cell? _ = _ := fun d => d.h.kp d4
  have hne : Nonempty (Wd (Nw w1)) := ⟨⟨_, Nw.refl w1⟩⟩
  repeat (first | go_big_quiet_step ((first | (with_reducible exact quietN nwS (HA.out _)) | (with_reducible exact quietN nwS (HB.out _)))) | quiet_step ((first | (with_reducible exact quietN nwS (HA.out _)) | (with_reducible exact quietN nwS (HB.out _)))))
  refine wpQuiet_nil ?_
  intro d
  have h6 := d.h
  clear e0 e1 e2 e3 e4 f0 f1 f2 f3 f4 hne
  revert h6
  generalize d.w = w6
  intro h6
  replace c0 := h6.kp c0
  replace c1 := h6.kp c1
  replace c2 := h6.kp c2
  replace c3 := h6.kp c3
  replace c4 := h6.kp c4
  replace HN := Lib.hid (HN.out.trans h6)
  clear h6 d0 d1 d2 d3 d4
  cases x <;> cases y
  · have e : V = 0 := by simpa using HV.out.symm
    subst e
    go_wp2
    go_ret
    exact ⟨rfl, HN.out⟩
  · have e : V = 1 := by simpa using HV.out.symm
    subst e
    go_wp2_with (go_at_call 47; refine (HA.out _).mono ?_; rintro e w' ⟨rfl, g⟩)
    go_ret
    exact ⟨rfl, HN.out.trans g⟩
  · have e : V = -1 := by simpa using HV.out.symm
    subst e
    go_wp2_with (go_at_call 47; refine (HA.out _).mono ?_; rintro e w' ⟨rfl, g⟩)
    go_ret
    exact ⟨rfl, HN.out.trans g⟩
  · have e : V = 0 := by simpa using HV.out.symm
    subst e
    go_wp2
    go_ret
    exact ⟨rfl, HN.out⟩
theorem dNaN (a : Int) (w : World) : Calls Try.prog 113 #[.int .i64 a] w fun e w' => e = .returned (.bool false) ∧ w = w' := by
  go_enter Try.func113, Try.ntmps113
  go_wp2
  go_ret
  exact ⟨rfl, rfl⟩
theorem dCompare (a b : Int) (w : World) : Calls Try.prog 93 #[.int .i64 a, .int .i64 b] w fun e w' => e = .returned (.int .i64 (cmI a b)) ∧ Nw w w' := by
  have HN := Lib.hid dNaN
  unfold cmI
  by_cases h1 : a < b
  · rw [if_pos h1]
    go_enter Try.func93, Try.ntmps93
    go_wp2_with (go_at_call 113; refine (HN.out _ _).mono ?_; rintro e w' ⟨rfl, rfl⟩)
    go_ret
    exact ⟨rfl, Nw.refl _⟩
  rw [if_neg h1]
  by_cases h2 : b < a
  · rw [if_pos h2]
    go_enter Try.func93, Try.ntmps93
    go_wp2_with (go_at_call 113; refine (HN.out _ _).mono ?_; rintro e w' ⟨rfl, rfl⟩)
    go_ret
    exact ⟨rfl, Nw.refl _⟩
  · rw [if_neg h2]
    go_enter Try.func93, Try.ntmps93
    go_wp2_with (go_at_call 113; refine (HN.out _ _).mono ?_; rintro e w' ⟨rfl, rfl⟩)
    go_ret
    exact ⟨rfl, Nw.refl _⟩
/-- cmp.Or of two numbers. -/
theorem dOr (x y : Int) (b : Nat) (w : World) (h0 : w.cell? ⟨b, 0, none⟩ = some (.int .i64 x)) (h1 : w.cell? ⟨b, 1, none⟩ = some (.int .i64 y)) :
    Calls Try.prog 91 #[.slice (some ⟨b, 0, none⟩) 2 2] w fun e w' => e = .returned (.int .i64 (if x ≠ 0 then x else y)) ∧ Nw w w' := by
  have hp := World.block_lt_of_cell? _ _ h0
  by_cases hx : x = 0
  · have dx : (x != 0) = false := by simpa using hx
    rw [if_neg (by simpa using hx)]
    by_cases hy : y = 0
    · have dy : (y != 0) = false := by simpa using hy
      subst hx hy
      go_enter Try.func91, Try.ntmps91
      go_wp2
      refine wp_loop_rounds 3 ?_
      repeat (rw [rounds_succ]; go_wp2)
      go_ret
      exact ⟨rfl, Nw.refl _⟩
    · have dy : (y != 0) = true := by simpa using hy
      clear hy
      go_enter Try.func91, Try.ntmps91
      go_wp2
      refine wp_loop_rounds 3 ?_
      repeat (rw [rounds_succ]; go_wp2)
      go_ret
      exact ⟨rfl, Nw.refl _⟩
  · have dx : (x != 0) = true := by simpa using hx
    rw [if_pos (by simpa using hx)]
    clear hx
    go_enter Try.func91, Try.ntmps91
    go_wp2
    refine wp_loop_rounds 3 ?_
    repeat (rw [rounds_succ]; go_wp2)
    go_ret
    exact ⟨rfl, Nw.refl _⟩
set_option maxHeartbeats 1000000 in
set_option maxRecDepth 100000 in
theorem dByTurn (A B : Rq) (w : World) : Calls Try.prog 80 #[rqV A, rqV B] w fun e w' => e = .returned (.int .i64 (toI A B)) ∧ Nw w w' := by
  have HH := Lib.hid (dByHolding A B)
  have HC := Lib.hid (dCompare A.sn B.sn)
  unfold toI
  generalize hoI A B = x at *
  obtain ⟨y, hy⟩ : ∃ y, cmI A.sn B.sn = y := ⟨_, rfl⟩
  rw [hy] at HC ⊢
  clear hy
  obtain ⟨V, hV⟩ : ∃ V, (if x ≠ 0 then x else y) = V := ⟨_, rfl⟩
  have HO := Lib.hid (dOr x y)
  rw [hV] at HO ⊢
  clear hV
  obtain ⟨a, b, m, n, s⟩ := A
  obtain ⟨a', b', m', n', s'⟩ := B
  unfold rqV at *
  simp only at HC
  have HX := Lib.hid (two_boxes w (.cells #[.int .i64 a, .int .i64 b, .int .i64 m, .int .i64 n, .int .i64 s] 41) (.cells #[.int .i64 a', .int .i64 b', .int .i64 m', .int .i64 n', .int .i64 s'] 41))
  go_enter Try.func80, Try.ntmps80
  go_wp2_with fail
  generalize (w.alloc (.cells #[.int .i64 a, .int .i64 b, .int .i64 m, .int .i64 n, .int .i64 s] 41)).alloc (.cells #[.int .i64 a', .int .i64 b', .int .i64 m', .int .i64 n', .int .i64 s'] 41) = w1 at *
  obtain ⟨p, hp⟩ : ∃ p, w.heap.size = p := ⟨_, rfl⟩
  rw [hp] at HX ⊢
  have c0 := hcell (j := 0) HX.out.1
  have c1 := hcell (j := 1) HX.out.1
  have c2 := hcell (j := 2) HX.out.1
  have c3 := hcell (j := 3) HX.out.1
  have c4 := hcell (j := 4) HX.out.1
  have d0 := hcell (j := 0) HX.out.2.1
  have d1 := hcell (j := 1) HX.out.2.1
  have d2 := hcell (j := 2) HX.out.2.1
  have d3 := hcell (j := 3) HX.out.2.1
  have d4 := hcell (j := 4) HX.out.2.1
  have HN := Lib.hid HX.out.2.2.1
  clear HX hp
  have e0 : ∀ d, Nw w1 d → d.cell? _ = _ := fun d h => h.kp c0
  have e1 : ∀ d, Nw w1 d → d.cell? _ = _ := fun d h => h.kp c1
  have e2 : ∀ d, Nw w1 d → d.cell? _ = _ := fun d h => h.kp c2
  have e3 : ∀ d, Nw w1 d → d.cell? _ = _ := fun d h => h.kp c3
  have e4 : ∀ d, Nw w1 d → d.cell? _ = _ := fun d h => h.kp c4
  have f0 : ∀ d, Nw w1 d → d.cell? _ = _ := fun d h => h.kp d0
  have f1 : ∀ d, Nw w1 d → d.cell? _ = _ := fun d h => h.kp d1
  have f2 : ∀ d, Nw w1 d → d.cell? _ = _ := fun d h => h.kp d2
  have f3 : ∀ d, Nw w1 d → d.cell? _ = _ := fun d h => h.kp d3
  have f4 : ∀ d, Nw w1 d → d.cell? _ = _ := fun d h => h.kp d4
  clear c0 c1 c2 c3 c4 d0 d1 d2 d3 d4
  refine region_told [some true, some true, some false, some true, some true, some true, some true, none, some false, none, some false, none, some false, none, some true] (Nw w1) (by kernel_rfl) (by kernel_rfl) (by kernel_rfl) (Nw.refl _).drew1 ?_
  have g1 := (Nw.refl w1).drew1
  obtain ⟨w2, hw2⟩ : ∃ w2, w1.drew = w2 := ⟨_, rfl⟩
  rw [hw2] at g1 ⊢
  clear hw2
  repeat (first
    | (refine HW.off ?_)
    | (refine HW.go (fun K hK => ?_); go_simp; (first | (go_at_call 92; (with_reducible refine (HH.out _).mono ?_); rintro e wy ⟨rfl, g2⟩) | (go_at_call 93; (with_reducible refine (HC.out _).mono ?_); rintro e wy ⟨rfl, g2⟩)); refine hK.out _ _ (g1.trans g2) ?_; intro _; replace g1 := g1.trans g2; clear hK K g2)
    | (refine HW.take' ?_; apply Exists.intro; refine ⟨Or.inl ⟨by rfl, ?_⟩, ?_⟩; (intro x hx; go_simp; first | done | with_reducible rfl); (try simp only [Act.put, List.setIfInBounds_toArray, List.set_cons_zero, List.set_cons_succ])))
  refine HW.go (fun K hK => ?_)
  go_simp
  have hb := allocAt wy (.cells #[.int .i64 x, .int .i64 y] 3)
  have g3 := g1.alloc (.cells #[.int .i64 x, .int .i64 y] 3)
  have o0 := hcell (j := 0) hb
  have o1 := hcell (j := 1) hb
  refine hK.out _ _ g3 ?_
  intro _
  clear hK K
  refine HW.off ?_
  refine HW.go (fun K hK => ?_)
  go_simp
  go_at_call 91
  refine (HO.out _ _ o0 o1).mono ?_
  rintro e wz ⟨rfl, g4⟩
  have g5 := g3.trans g4
  refine hK.out _ _ g5 ?_
  intro _
  clear hK K
  refine HW.take' ?_
  apply Exists.intro
  refine ⟨Or.inl ⟨by rfl, ?_⟩, ?_⟩
  · (intro x hx; go_simp; first | done | with_reducible rfl)
  (try simp only [Act.put, List.setIfInBounds_toArray, List.set_cons_zero, List.set_cons_succ])
  refine HW.end_ ?_
  refine NoPanic.normal ?_
  go_wp2
  go_ret
  exact ⟨rfl, HN.out.trans g5⟩
/-- A request in a box. -/
structure RqB (w : World) (p : Nat) (a b m n s : Int) : Prop where
  lt : p < w.heap.size
  c0 : w.cell? ⟨p, 0, none⟩ = some (.int .i64 a)
  c1 : w.cell? ⟨p, 1, none⟩ = some (.int .i64 b)
  c2 : w.cell? ⟨p, 2, none⟩ = some (.int .i64 m)
  c3 : w.cell? ⟨p, 3, none⟩ = some (.int .i64 n)
  c4 : w.cell? ⟨p, 4, none⟩ = some (.int .i64 s)
theorem RqB.nw {w w' : World} {p : Nat} {a b m n s : Int} (h : RqB w p a b m n s) (g : Nw w w') : RqB w' p a b m n s :=
  ⟨Nat.lt_of_lt_of_le h.lt g.sz, g.kp h.c0, g.kp h.c1, g.kp h.c2, g.kp h.c3, g.kp h.c4⟩
theorem RqB.of {w : World} {p : Nat} {a b m n s : Int} {T : TypeId} {fr : Nat × Nat} (h : w.heap[p]? = some (.cells #[.int .i64 a, .int .i64 b, .int .i64 m, .int .i64 n, .int .i64 s] T fr)) : RqB w p a b m n s :=
  ⟨hlt h, hcell h, hcell h, hcell h, hcell h, hcell h⟩
theorem RqB.made (w : World) (a b m n s : Int) (T : TypeId) : RqB (w.alloc (.cells #[.int .i64 a, .int .i64 b, .int .i64 m, .int .i64 n, .int .i64 s] T)) w.heap.size a b m n s := RqB.of (allocAt w _)
theorem RqB.cells {w : World} {p : Nat} {a b m n s : Int} (h : RqB w p a b m n s) : ∀ j u, (rqrow ⟨a, b, m, n, s⟩)[j]? = some u → w.cell? ⟨p, j, none⟩ = some u := by
  intro j u hu
  have hj : j < 5 := by have := (List.getElem?_eq_some_iff.1 hu).1; simpa [rqrow] using this
  rcases j with _ | _ | _ | _ | _ | j
  · exact h.c0.trans hu
  · exact h.c1.trans hu
  · exact h.c2.trans hu
  · exact h.c3.trans hu
  · exact h.c4.trans hu
  · omega
theorem dAhead1 (S R : Rq) (p : Nat) (w : World) (h : RqB w p S.id S.txn S.md S.wt S.sn) : Calls Try.prog 79 #[rqV R, .pointer (some ⟨p, 0, none⟩)] w fun e w' => e = .returned (.bool (decide (0 < R.sn) && decide (toI R S < 0))) ∧ Nw w w' := by
  have HWt := Lib.hid (dWaits R)
  have HT := Lib.hid (dByTurn R S)
  generalize toI R S = x at *
  obtain ⟨y, hd⟩ : ∃ y, decide (x < 0) = y := ⟨_, rfl⟩
  rw [hd]
  generalize decide (0 < R.sn) = z at *
  obtain ⟨a, b, m, n, s⟩ := R
  obtain ⟨a', b', m', n', s'⟩ := S
  unfold rqV at *
  simp only at h
  have hl : w.heap.size < (w.alloc (.cells #[.int .i64 a, .int .i64 b, .int .i64 m, .int .i64 n, .int .i64 s] 41)).heap.size := by simp
  have hb := RqB.made w a b m n s 41
  have hN := (Nw.refl w).alloc (.cells #[.int .i64 a, .int .i64 b, .int .i64 m, .int .i64 n, .int .i64 s] 41)
  obtain ⟨w1, hw1⟩ : ∃ w1, w.alloc (.cells #[.int .i64 a, .int .i64 b, .int .i64 m, .int .i64 n, .int .i64 s] 41) = w1 := ⟨_, rfl⟩
  rw [hw1] at hb hN hl
  have HW1 := Lib.hid hw1
  clear hw1
  obtain ⟨hl0, c0, c1, c2, c3, c4⟩ := h.nw hN
  have hBB := Lib.hid (And.intro (h.nw hN) hb)
  obtain ⟨hl2, d0, d1, d2, d3, d4⟩ := hb
  have HN := Lib.hid hN
  clear hN h
  cases z
  · go_enter Try.func79, Try.ntmps79
    go_wp2_with fail
    rw [HW1.out]
    go_wp2_with (go_at_call 42; refine (HWt.out _).mono ?_; rintro e w2 ⟨rfl, g⟩)
    go_ret
    exact ⟨rfl, HN.out.trans g⟩
  · go_enter Try.func79, Try.ntmps79
    go_wp2_with fail
    rw [HW1.out]
    go_wp2_with fail
    go_at_call 42
    refine (HWt.out _).mono ?_
    rintro e w2 ⟨rfl, g⟩
    clear hl0 c0 c1 c2 c3 c4 hl2 d0 d1 d2 d3 d4
    obtain ⟨hl0, c0, c1, c2, c3, c4⟩ := hBB.out.1.nw g
    obtain ⟨hl2, d0, d1, d2, d3, d4⟩ := hBB.out.2.nw g
    have HN2 := Lib.hid (HN.out.trans g)
    clear HN hl g hBB
    go_wp2_with (go_at_call 80; refine (HT.out _).mono ?_; rintro e w3 ⟨rfl, g3⟩)
    go_ret
    exact ⟨rfl, HN2.out.trans g3⟩
theorem dAheadOf (S : Rq) (w : World) : Calls Try.prog 50 #[rqV S] w fun e w' => ∃ p, e = .returned (.func (.func 79) #[] #[.pointer (some ⟨p, 0, none⟩)]) ∧ Nw w w' ∧ RqB w' p S.id S.txn S.md S.wt S.sn := by
  obtain ⟨a', b', m', n', s'⟩ := S
  unfold rqV
  go_enter Try.func50, Try.ntmps50
  go_wp2
  go_ret
  exact ⟨_, rfl, (Nw.refl _).alloc _, RqB.made _ _ _ _ _ _ _⟩
theorem Tells.ahead {w : World} {S : Rq} {p : Nat} (h : RqB w p S.id S.txn S.md S.wt S.sn) : Tells w (.func (.func 79) #[] #[.pointer (some ⟨p, 0, none⟩)]) (fun R => decide (0 < R.sn) && decide (toI R S < 0)) :=
  ⟨_, _, rfl, enters_of Try.func79 (by kernel_rfl) rfl, fun R w1 g => dAhead1 S R p w1 (h.nw g)⟩
end Go.Proofs.Ytmciiobncfchlaa
