/- Texts merged: BdU, BdV, Rt, BdW, BdX, PoC, BdY, BdZ, PoE -/
import Derived.Test.YtodnlelnpidliaaGreatBucketHoldsB25
import Derived.RangeFuncNested
import Derived.RangeFuncBound
import Derived.RangeFuncCalls
import Derived.RangeFuncLeaves
import Derived.Shelf.RegionOpen
import Derived.OwnWalkIn
import Derived.TacticsInMore
import Derived.LoopNIn
import Derived.LoopIn

/- Get, Len; the calls of no bucket. -/
section
namespace Go.Proofs.YtodnlelnpidliaaGreat
open Go.RowKit Go.Shelf
set_option linter.unusedVariables false      -- a contract need not use every name

def getBD (hs : List Hq) (id : Int) : Int × Int × Rq × Bool := match ofId hs id with
  | none => (0, 0, ⟨0, 0, 0, 0, 0⟩, false)
  | some h => (h.t, h.r, rqB h id, true)
theorem get_is (l : List Hp) (id : Int) : ∃ b0 b1 b2 b3 b4 yb, fndV (wthP l id).h.q id = .tuple #[.agg #[.int .i64 b0, .int .i64 b1, .int .i64 b2, .int .i64 b3, .int .i64 b4], .bool yb] ∧ getBD (hsP l) id = ((wthP l id).h.t, (wthP l id).h.r, ⟨b0, b1, b2, b3, b4⟩, yb) := by
  cases e : whP l id with
  | none =>
    have e1 : ofId (hsP l) id = none := by rw [wth_of, e]; rfl
    refine ⟨0, 0, 0, 0, 0, false, ?_, ?_⟩
    · rw [wth_none e]; rfl
    · unfold getBD; rw [e1, wth_none e]; rfl
  | some x =>
    obtain ⟨ex, hx, r, hr⟩ := wth_some e
    have e1 : ofId (hsP l) id = some x.h := by rw [wth_of, e]; rfl
    have er := rqB_of hr
    obtain ⟨b0, b1, b2, b3, b4⟩ := r
    refine ⟨b0, b1, b2, b3, b4, true, ?_, ?_⟩
    · rw [ex]; unfold fndV; rw [hr]; rfl
    · unfold getBD; rw [e1, ex]; simp only; rw [er]
set_option maxRecDepth 20000 in
set_option maxHeartbeats 4000000 in
theorem get_d {w : World} {o mb po n : Nat} {l : List Hp} {L : List Bool} {F : Nat → Prop} (h : Db w o mb po n l L F) (hq : ∀ x ∈ l, x.h.q.length ≤ 1000) (id : Int) :
    Calls Tryz.prog 20 #[.pointer (some ⟨o, 0, none⟩), .int .i64 id] w fun e w' => e = .returned (.tuple #[.agg #[.int .i64 (getBD (hsP l) id).1, .int .i64 (getBD (hsP l) id).2.1], rqV (getBD (hsP l) id).2.2.1, .bool (getBD (hsP l) id).2.2.2]) ∧ Nw w w' := by
  obtain ⟨b0, b1, b2, b3, b4, yb, hv, hg⟩ := get_is l id
  rw [hg]
  unfold rqV
  simp only
  have hrd := wth_rd h id
  have hql : (wthP l id).h.q.length ≤ 1000 := by
    cases e : whP l id with
    | none => rw [wth_none e]; exact Nat.zero_le _
    | some x => rw [(wth_some e).1]; exact hq x (wth_some e).2.1
  have hN : Nw w ((w.alloc (.cells #[.int .i64 0, .int .i64 0] 38)).alloc (.cells #[.int .i64 0, .int .i64 0, .int .i64 0, .int .i64 0, .int .i64 0] 47)) := ((Nw.refl w).alloc _).alloc _
  have hA := ((Nw.refl (w.alloc (.cells #[.int .i64 0, .int .i64 0] 38))).alloc (.cells #[.int .i64 0, .int .i64 0, .int .i64 0, .int .i64 0, .int .i64 0] 47)).at' (allocAt w (.cells #[.int .i64 0, .int .i64 0] 38))
  have hB := allocAt (w.alloc (.cells #[.int .i64 0, .int .i64 0] 38)) (.cells #[.int .i64 0, .int .i64 0, .int .i64 0, .int .i64 0, .int .i64 0] 47)
  rw [World.size_alloc] at hB
  obtain ⟨z, hz⟩ : ∃ z, (w.alloc (.cells #[.int .i64 0, .int .i64 0] 38)).alloc (.cells #[.int .i64 0, .int .i64 0, .int .i64 0, .int .i64 0, .int .i64 0] 47) = z := ⟨_, rfl⟩
  rw [hz] at hN hA hB
  have HZ := Lib.hid hz
  have H := Lib.hid (h.nw hN)
  have HMd := Lib.hid (bmade_yes o z (hN.kp h.c0))
  have HWi := Lib.hid (with_any (h.nw hN) id)
  have HFi := Lib.hid (fun w1 (g : Nw w w1) => dFindQ (wthP l id).h.t (wthP l id).h.r (wthP l id).h.W id (hpV (wthP l id)) (wthP l id).h.q w1 hql (hrd.nw g))
  rw [hv] at HFi
  unfold hdV hpV at HFi
  unfold hpH at HWi
  clear hz hv hg hrd hql h
  revert HFi HWi
  generalize wthP l id = x
  obtain ⟨⟨xt, xr, xW, q⟩, xp, xa, xc⟩ := x
  simp only
  generalize q.length = ql
  intro HWi HFi
  have HN := Lib.hid hN
  go_enter Tryz.func20, Tryz.ntmps20
  go_wp2_with fail
  rw [HZ.out]
  refine HMd.out.mono ?_
  rintro e w' ⟨rfl, rfl⟩
  go_wp2_with fail
  refine HWi.out.mono ?_
  rintro e w1 ⟨rfl, g1⟩
  obtain ⟨y1, hy1⟩ : ∃ y1, w1.alloc (.cells #[.int .i64 xt, .int .i64 xr, .slice xa ql xc, .int .i64 xW] 56) = y1 := ⟨_, rfl⟩
  have hal := allocAt w1 (.cells #[.int .i64 xt, .int .i64 xr, .slice xa ql xc, .int .i64 xW] 56)
  rw [hy1] at hal
  have g2 : Nw w1 y1 := by rw [← hy1]; exact (Nw.refl w1).alloc _
  have HY1 := Lib.hid hy1
  have HN1 := Lib.hid (HN.out.trans (g1.trans g2))
  have hA1 := (g1.trans g2).at' hA
  have hB1 := (g1.trans g2).at' hB
  clear hy1 hN hA hB g1 g2
  have hzw : w.heap.size + 2 ≤ w1.heap.size := by
    have h1 := hlt hB1
    have h2 := hlt hal
    have h3 : y1.heap.size = w1.heap.size + 1 := by rw [← HY1.out]; simp
    have h4 : w1.heap.size ≠ w.heap.size + 1 := fun e => by rw [e] at hal; rw [hB1] at hal; cases hal
    omega
  go_wp2_with fail
  rw [HY1.out]
  generalize w1.heap.size = pb at *
  refine (HFi.out _ HN1.out).mono ?_
  rintro e y2 ⟨rfl, g3⟩
  obtain ⟨y3, hy3⟩ : ∃ y3, y2.alloc (.cells #[.int .i64 b0, .int .i64 b1, .int .i64 b2, .int .i64 b3, .int .i64 b4] 47) = y3 := ⟨_, rfl⟩
  have hal2 := allocAt y2 (.cells #[.int .i64 b0, .int .i64 b1, .int .i64 b2, .int .i64 b3, .int .i64 b4] 47)
  rw [hy3] at hal2
  have g4 : Nw y2 y3 := by rw [← hy3]; exact (Nw.refl y2).alloc _
  have HY3 := Lib.hid hy3
  have HN3 := Lib.hid (HN1.out.trans (g3.trans g4))
  have hA3 := (g3.trans g4).at' hA1
  have hB3 := (g3.trans g4).at' hB1
  have hal3 := (g3.trans g4).at' hal
  have hpy : pb < y2.heap.size := Nat.lt_of_lt_of_le (hlt hal) g3.sz
  clear hy3 hA1 hB1 hal g3 g4
  go_wp2_with fail
  rw [HY3.out]
  generalize y2.heap.size = qb at *
  have m0 := hcell (j := 0) hA3
  have m1 := hcell (j := 1) hA3
  have mz := fun j => hfz (j := j) hA3
  have ml := hlt hA3
  have n0 := hcell (j := 0) hB3
  have n1 := hcell (j := 1) hB3
  have n2 := hcell (j := 2) hB3
  have n3 := hcell (j := 3) hB3
  have n4 := hcell (j := 4) hB3
  have nz := fun j => hfz (j := j) hB3
  have nl := hlt hB3
  have p0 := hcell (j := 0) hal3
  have p1 := hcell (j := 1) hal3
  have q0 := hcell (j := 0) hal2
  have q1 := hcell (j := 1) hal2
  have q2 := hcell (j := 2) hal2
  have q3 := hcell (j := 3) hal2
  have q4 := hcell (j := 4) hal2
  clear hA3 hB3 hal2 hal3
  have ng1 : ¬ (w.heap.size = pb) := by omega
  have ng2 : ¬ (w.heap.size + 1 = pb) := by omega
  have ng3 : ¬ (w.heap.size = qb) := by omega
  have ng4 : ¬ (w.heap.size + 1 = qb) := by omega
  have ng5 : ¬ (w.heap.size + 1 = w.heap.size) := by omega
  obtain ⟨y0, hy0⟩ : ∃ y0, y3.drew = y0 := ⟨_, rfl⟩
  obtain ⟨S, hSe⟩ : ∃ S : World → Prop, S = fun x => x = y0 ∨ x = ((y0.setCell ⟨w.heap.size, 0, none⟩ (.int .i64 xt)).setCell ⟨w.heap.size, 1, none⟩ (.int .i64 xr)) ∨ x = (((((((y0.setCell ⟨w.heap.size, 0, none⟩ (.int .i64 xt)).setCell ⟨w.heap.size, 1, none⟩ (.int .i64 xr)).setCell ⟨w.heap.size + 1, 0, none⟩ (.int .i64 b0)).setCell ⟨w.heap.size + 1, 1, none⟩ (.int .i64 b1)).setCell ⟨w.heap.size + 1, 2, none⟩ (.int .i64 b2)).setCell ⟨w.heap.size + 1, 3, none⟩ (.int .i64 b3)).setCell ⟨w.heap.size + 1, 4, none⟩ (.int .i64 b4)) := ⟨_, rfl⟩
  have s0 : y0.cell? ⟨pb, 0, none⟩ = some (.int .i64 xt) := by subst hy0; exact p0
  have t0 : ∀ x, Hs S x → x.cell? ⟨pb, 0, none⟩ = some (.int .i64 xt) := fun x h => by subst hSe; rcases h with rfl | rfl | rfl <;> simp [go_sem, s0]
  have s1 : y0.cell? ⟨pb, 1, none⟩ = some (.int .i64 xr) := by subst hy0; exact p1
  have t1 : ∀ x, Hs S x → x.cell? ⟨pb, 1, none⟩ = some (.int .i64 xr) := fun x h => by subst hSe; rcases h with rfl | rfl | rfl <;> simp [go_sem, s1]
  have s2 : y0.cell? ⟨qb, 0, none⟩ = some (.int .i64 b0) := by subst hy0; exact q0
  have t2 : ∀ x, Hs S x → x.cell? ⟨qb, 0, none⟩ = some (.int .i64 b0) := fun x h => by subst hSe; rcases h with rfl | rfl | rfl <;> simp [go_sem, s2]
  have s3 : y0.cell? ⟨qb, 1, none⟩ = some (.int .i64 b1) := by subst hy0; exact q1
  have t3 : ∀ x, Hs S x → x.cell? ⟨qb, 1, none⟩ = some (.int .i64 b1) := fun x h => by subst hSe; rcases h with rfl | rfl | rfl <;> simp [go_sem, s3]
  have s4 : y0.cell? ⟨qb, 2, none⟩ = some (.int .i64 b2) := by subst hy0; exact q2
  have t4 : ∀ x, Hs S x → x.cell? ⟨qb, 2, none⟩ = some (.int .i64 b2) := fun x h => by subst hSe; rcases h with rfl | rfl | rfl <;> simp [go_sem, s4]
  have s5 : y0.cell? ⟨qb, 3, none⟩ = some (.int .i64 b3) := by subst hy0; exact q3
  have t5 : ∀ x, Hs S x → x.cell? ⟨qb, 3, none⟩ = some (.int .i64 b3) := fun x h => by subst hSe; rcases h with rfl | rfl | rfl <;> simp [go_sem, s5]
  have s6 : y0.cell? ⟨qb, 4, none⟩ = some (.int .i64 b4) := by subst hy0; exact q4
  have t6 : ∀ x, Hs S x → x.cell? ⟨qb, 4, none⟩ = some (.int .i64 b4) := fun x h => by subst hSe; rcases h with rfl | rfl | rfl <;> simp [go_sem, s6]
  have m0' : y0.cell? ⟨w.heap.size, 0, none⟩ = some (.int .i64 0) := by subst hy0; exact m0
  have m1' : y0.cell? ⟨w.heap.size, 1, none⟩ = some (.int .i64 0) := by subst hy0; exact m1
  have mz' : ∀ j, y0.frozen? ⟨w.heap.size, j, none⟩ = false := by subst hy0; exact mz
  have n0' : y0.cell? ⟨w.heap.size + 1, 0, none⟩ = some (.int .i64 0) := by subst hy0; exact n0
  have n1' : y0.cell? ⟨w.heap.size + 1, 1, none⟩ = some (.int .i64 0) := by subst hy0; exact n1
  have n2' : y0.cell? ⟨w.heap.size + 1, 2, none⟩ = some (.int .i64 0) := by subst hy0; exact n2
  have n3' : y0.cell? ⟨w.heap.size + 1, 3, none⟩ = some (.int .i64 0) := by subst hy0; exact n3
  have n4' : y0.cell? ⟨w.heap.size + 1, 4, none⟩ = some (.int .i64 0) := by subst hy0; exact n4
  have nz' : ∀ j, y0.frozen? ⟨w.heap.size + 1, j, none⟩ = false := by subst hy0; exact nz
  have hS0 : Hs S y3.drew := by rw [hy0, hSe]; exact .inl rfl
  have hS1 : Hs S ((y0.setCell ⟨w.heap.size, 0, none⟩ (.int .i64 xt)).setCell ⟨w.heap.size, 1, none⟩ (.int .i64 xr)) := by rw [hSe]; exact .inr (.inl rfl)
  have hS2 : Hs S (((((((y0.setCell ⟨w.heap.size, 0, none⟩ (.int .i64 xt)).setCell ⟨w.heap.size, 1, none⟩ (.int .i64 xr)).setCell ⟨w.heap.size + 1, 0, none⟩ (.int .i64 b0)).setCell ⟨w.heap.size + 1, 1, none⟩ (.int .i64 b1)).setCell ⟨w.heap.size + 1, 2, none⟩ (.int .i64 b2)).setCell ⟨w.heap.size + 1, 3, none⟩ (.int .i64 b3)).setCell ⟨w.heap.size + 1, 4, none⟩ (.int .i64 b4)) := by rw [hSe]; exact .inr (.inr rfl)
  clear hSe p0 p1 q0 q1 q2 q3 q4 hzw hpy
  refine region_plan (.take (.take (.take (.take (.off (.go1 (.off (.go1 (.take .fin))))))))) (Hs S) (by kernel_rfl) (by kernel_rfl) (by kernel_rfl) hS0 ?_
  rw [hy0]
  iterate 4 (refine HP.take' ?_; (first | (refine ⟨undef, Or.inr ⟨by rfl, rfl⟩, ?_⟩) | (apply Exists.intro; refine ⟨Or.inl ⟨by rfl, ?_⟩, ?_⟩; (intro x hx'; go_simp; first | done | with_reducible rfl))); (try simp only [Act.put, List.setIfInBounds_toArray, List.set_cons_zero, List.set_cons_succ]))
  refine HP.off ?_
  refine HP.go1 (fun KK hKK => ?_)
  go_simp
  refine hKK.out _ _ hS1 ?_
  intro _
  clear hKK KK
  (try simp only [Act.put, List.setIfInBounds_toArray, List.set_cons_zero, List.set_cons_succ])
  refine HP.off ?_
  refine HP.go1 (fun KK hKK => ?_)
  go_simp
  refine hKK.out _ _ hS2 ?_
  intro _
  clear hKK KK
  (try simp only [Act.put, List.setIfInBounds_toArray, List.set_cons_zero, List.set_cons_succ])
  iterate 1 (refine HP.take' ?_; (first | (refine ⟨undef, Or.inr ⟨by rfl, rfl⟩, ?_⟩) | (apply Exists.intro; refine ⟨Or.inl ⟨by rfl, ?_⟩, ?_⟩; (intro x hx'; go_simp; first | done | with_reducible rfl))); (try simp only [Act.put, List.setIfInBounds_toArray, List.set_cons_zero, List.set_cons_succ]))
  refine HP.end_ ?_
  refine NoPanic.normal ?_
  subst hy0
  clear hS0 hS1 hS2
  go_wp2
  have HR := Lib.hid (show Nw w (((((((y3.drew.setCell ⟨w.heap.size, 0, none⟩ (.int .i64 xt)).setCell ⟨w.heap.size, 1, none⟩ (.int .i64 xr)).setCell ⟨w.heap.size + 1, 0, none⟩ (.int .i64 b0)).setCell ⟨w.heap.size + 1, 1, none⟩ (.int .i64 b1)).setCell ⟨w.heap.size + 1, 2, none⟩ (.int .i64 b2)).setCell ⟨w.heap.size + 1, 3, none⟩ (.int .i64 b3)).setCell ⟨w.heap.size + 1, 4, none⟩ (.int .i64 b4)) from
    (((((((HN3.out.dr.st (p := ⟨w.heap.size, 0, none⟩) (Nat.le_refl _) _).st (p := ⟨w.heap.size, 1, none⟩) (Nat.le_refl _) _).st (p := ⟨w.heap.size + 1, 0, none⟩) (Nat.le_succ _) _).st (p := ⟨w.heap.size + 1, 1, none⟩) (Nat.le_succ _) _).st (p := ⟨w.heap.size + 1, 2, none⟩) (Nat.le_succ _) _).st (p := ⟨w.heap.size + 1, 3, none⟩) (Nat.le_succ _) _).st (p := ⟨w.heap.size + 1, 4, none⟩) (Nat.le_succ _) _))
  exact bodyPost_ret (v := .tuple #[.agg #[.int .i64 xt, .int .i64 xr], .agg #[.int .i64 b0, .int .i64 b1, .int .i64 b2, .int .i64 b3, .int .i64 b4], .bool yb]) (by simp [results, Tryz.results20, go_sem, *]) rfl ⟨rfl, HR.out⟩
theorem len_d {w : World} {o mb po n : Nat} {l : List Hp} {L : List Bool} {F : Nat → Prop} (h : Db w o mb po n l L F) :
    Calls Tryz.prog 16 #[.pointer (some ⟨o, 0, none⟩)] w fun e w' => e = .returned (.int .i64 l.length) ∧ w = w' := by
  have HMd := Lib.hid (bmade_yes o w h.c0)
  have c3 := h.c3
  have hol := h.ol
  have hle := h.map.len 3
  clear h
  go_enter Tryz.func16, Tryz.ntmps16
  go_wp2_with (go_at_call 45; refine HMd.out.mono ?_; rintro e w' ⟨rfl, rfl⟩)
  go_ret
  exact ⟨rfl, rfl⟩
end Go.Proofs.YtodnlelnpidliaaGreat
end

/- Find. -/
section
namespace Go.Proofs.YtodnlelnpidliaaGreat
open Go.RowKit Go.Shelf
set_option linter.unusedVariables false      -- a contract need not use every name

end Go.Proofs.YtodnlelnpidliaaGreat
end

/- A region that draws its order and whose last operation may change what the others read. Of no program. -/
section
namespace Go.Proofs.YtodnlelnpidliaaGreat
open Go.RowKit Go.Shelf

variable {P : Program} {md : Region.Mode} {ops : Array Oper} {Q : Exit → Act → World → Prop} {S : World → Prop}
/-- Whatever order is picked from here on, and S holds behind every operation but the last. -/
def wpAnyT (P : Program) (md : Region.Mode) (ops : Array Oper) (Q : Exit → Act → World → Prop) (S : World → Prop) (t : Nat) : Nat → Array Bool → Act → World → Prop
  | 0, listed, a, w => Region.ready md ops listed = [] ∧ Q .normal a w
  | fuel + 1, listed, a, w =>
    (Region.ready md ops listed = [] → Q .normal a w) ∧
    ∀ i ∈ Region.ready md ops listed, wpOp P ops Q i (fun a' w' => (i = t ∨ S w') ∧ wpAnyT P md ops Q S t fuel (listed.setIfInBounds i true) a' w') a w
theorem wpAny_of_tail {t : Nat} : ∀ (fuel : Nat) (listed : Array Bool) (a : Act) (w : World), wpAnyT P md ops Q S t fuel listed a w → wpAny P md ops Q fuel listed a w
  | 0, _, _, _, h => h
  | fuel + 1, _, _, _, h => ⟨h.1, fun i hi => wpOp_mono (fun a' w' h' => wpAny_of_tail fuel _ a' w' h'.2) (h.2 i hi)⟩
def waitsFor (md : Region.Mode) (ops : Array Oper) (t i : Nat) : Bool := match ops[t]? with
  | some o => o.after.any fun e => Region.binds md e && e.on == i
  | none => true
theorem wpAnyT_first {t i : Nat} {oi : Oper} {v : Value} (hi : ops[i]? = some oi) (ht : waitsFor md ops t i = true) (hsel : ∀ (j : Nat) (o : Oper) cs b, ops[j]? = some o → o.op ≠ .select cs b)
    (hQ : ∀ c a w, Q (.panic c) (a.put oi.dst v) w → Q (.panic c) a w) :
    ∀ (fuel : Nat) (listed : Array Bool) (a : Act) (w : World),
      (∀ j oj, ops[j]? = some oj → j ≠ i → listed.getD j true = false → (∀ e ∈ oj.after, Region.binds md e = true → e.on ≠ i) → oi.apart ops oj = true) →
      i ∈ Region.ready md ops listed → YieldsIf P ops S oi v a → S w →
      wpAnyT P md ops Q S t fuel (listed.setIfInBounds i true) (a.put oi.dst v) w → wpAnyT P md ops Q S t (fuel + 1) listed a w := by
  intro fuel
  induction fuel with
  | zero =>
    intro listed a w _ hr hy hS H
    refine ⟨fun h => (by rw [h] at hr; cases hr), fun j hj => ?_⟩
    by_cases hji : j = i
    · subst hji; exact hy.wpOp hi hS ⟨.inr hS, H⟩
    · have := ready_mono hj hji
      rw [H.1] at this
      cases this
  | succ fuel ih =>
    intro listed a w hfree hr hy hS H
    refine ⟨fun h => (by rw [h] at hr; cases hr), fun j hj => ?_⟩
    by_cases hji : j = i
    · subst hji; exact hy.wpOp hi hS ⟨.inr hS, H⟩
    · have h1 := H.2 j (ready_mono hj hji)
      obtain ⟨hjun, oj, hoj, hall⟩ := mem_ready.1 hj
      have hnot : ∀ e ∈ oj.after, Region.binds md e = true → e.on ≠ i := fun e he hb heq => by
        have h1 := hall e he hb
        have h0 := (mem_ready.1 hr).1
        rw [heq] at h1
        rcases Nat.lt_or_ge i listed.size with h' | h'
        · simp [h'] at h0 h1; rw [h0] at h1; cases h1
        · simp [Array.getElem?_eq_none h'] at h1
      have hjt : j ≠ t := by
        rintro rfl
        unfold waitsFor at ht
        rw [hoj] at ht
        obtain ⟨e, he, hb⟩ := Array.any_eq_true'.1 ht
        rw [Bool.and_eq_true, beq_iff_eq] at hb
        exact hnot e he hb.1 hb.2
      have h2 := wpOp_putIf hoj (hfree j oj hoj hji hjun hnot) (fun cs b => hsel i oi cs b hi) (fun cs b => hsel j oj cs b hoj) hQ hy h1
      have hfree' : ∀ k ok, ops[k]? = some ok → k ≠ i → (listed.setIfInBounds j true).getD k true = false →
          (∀ e ∈ ok.after, Region.binds md e = true → e.on ≠ i) → oi.apart ops ok = true := fun k ok hk hki hun hno => by
        refine hfree k ok hk hki ?_ hno
        by_cases hjk : j = k
        · subst hjk; exact hjun
        · rw [getD_set_ne true hjk] at hun; exact hun
      refine wpOp_mono (fun a' w' h3 => ⟨h3.2.1, ih (listed.setIfInBounds j true) a' w' hfree' (ready_mono hr (Ne.symm hji)) h3.1 (h3.2.1.resolve_left hjt) ?_⟩) h2
      rw [Array.setIfInBounds_comm _ _ hji]
      exact h3.2.2
theorem wpAnyT_take {t i : Nat} {oi : Oper} {v : Value} {fuel : Nat} {listed : Array Bool} {a : Act} {w : World} (hi : ops[i]? = some oi) (ht : waitsFor md ops t i = true)
    (hs : Region.noSelect ops = true) (hf : Region.free md ops listed i = true) (hr : (Region.ready md ops listed).contains i = true)
    (hQ : ∀ c a w, Q (.panic c) (a.put oi.dst v) w → Q (.panic c) a w) (hy : YieldsIf P ops S oi v a) (hS : S w)
    (h : wpAnyT P md ops Q S t fuel (listed.setIfInBounds i true) (a.put oi.dst v) w) : wpAnyT P md ops Q S t (fuel + 1) listed a w :=
  wpAnyT_first hi ht (Region.noSelect_spec hs) hQ fuel listed a w (Region.free_spec hi hf) (by simpa using hr) hy hS h
theorem wpAnyT_done {t : Nat} {listed : Array Bool} {a : Act} {w : World} (hr : Region.ready md ops listed = []) (h : Q .normal a w) :
    ∀ fuel, wpAnyT P md ops Q S t fuel listed a w
  | 0 => ⟨hr, h⟩
  | _ + 1 => ⟨fun _ => h, by rw [hr]; simp⟩
/-- One that comes up now, ahead of the last. -/
theorem oneT {t i : Nat} {o : Oper} {fuel : Nat} {listed : Array Bool} {a : Act} {w : World} (hr : Region.ready md ops listed = [i]) (ho : ops[i]? = some o)
    (h : ∀ K' : Act → World → Prop, (∀ a w, i = t ∨ S w → wpAnyT P md ops Q S t fuel (listed.setIfInBounds i true) a w → K' a w) → if Region.wanted o (yielded ops a.tmps) = true then Oper.wp P o a w K' Q else K' (a.put o.dst undef) w) : wpAnyT P md ops Q S t (fuel + 1) listed a w :=
  ⟨fun h0 => absurd (hr ▸ h0) (by simp), fun j hj => by
    rw [hr] at hj
    obtain rfl : j = i := by simpa using hj
    exact opH ho (fun K' hK => h K' (fun a w q1 q2 => hK a w ⟨q1, q2⟩))⟩
theorem region_roundT {r n id : Nat} {l : List Oper} {a : Act} {w : World} (t : Nat) (S : World → Prop) (hm : P.follows .mixedOrders = true) (hd : l.all notDefer = true)
    (h : wpAnyT P .any l.toArray (NOr Q) S t l.toArray.size (Array.replicate l.toArray.size false) a w.drew) : (Code.region id l.toArray true).wpIn (Fence.wide.inRound r) n P Q a w :=
  wpIn_mono (wpIn_region_any hm (anyRound (fun o ho => List.all_eq_true.1 hd o (by simpa using ho)) _ _ _ _ (wpAny_of_tail _ _ _ _ h))) NOr.imp
end Go.Proofs.YtodnlelnpidliaaGreat
end

/- Heads: what a round holds. -/
section
namespace Go.Proofs.YtodnlelnpidliaaGreat
open Go.RowKit Go.Shelf
set_option linter.unusedVariables false      -- a contract need not use every name

theorem rq_blk {A B : World} {v : Value} {q : List Rq} (h : RqAt A v q) (hk : ∀ a n c j u, v = .slice (some a) n c → q ≠ [] → A.cell? ⟨a.block, j, none⟩ = some u → B.heap[a.block]? = A.heap[a.block]?) : RqAt B v q := by
  by_cases hq : q = []
  · subst hq
    obtain ⟨a, c, e, ⟨_, h⟩ | ⟨b, o, e2, hc⟩⟩ := h
    · exact ⟨a, c, e, .inl ⟨rfl, h⟩⟩
    · subst e2; exact ⟨_, c, e, .inl ⟨rfl, fun q => by cases q⟩⟩
  · obtain ⟨a, c, e, ⟨h, _⟩ | ⟨b, o, e2, hc⟩⟩ := h
    · exact absurd h hq
    · subst e2
      obtain ⟨y, t, hy⟩ := List.exists_cons_of_ne_nil hq
      have h0 : 0 < q.length := by rw [hy]; simp
      have hc0 := hc.cell 0 h0 0 _ rfl
      have hb : B.heap[b]? = A.heap[b]? := hk _ _ _ _ _ e hq hc0
      exact ⟨_, c, e, .inr ⟨b, o, rfl, World.block_lt_of_cell? _ _ ((World.cell?_of_block hb).trans hc0), fun i hi c u hu => (World.cell?_of_block hb).trans (hc.cell i hi c u hu)⟩⟩
theorem HmOk.blk {A B : World} {o : Nat} {u u' : Option Nat} {x : Hm} (h : HmOk A o u x) (hk : ∀ b j z, x.a = some b → x.h.q ≠ [] → A.cell? ⟨b.block, j, none⟩ = some z → B.heap[b.block]? = A.heap[b.block]? ∧ u' ≠ some b.block) : HmOk B o u' x := by
  refine ⟨rq_blk h.rd fun a n c j z e hq hc => (hk a j z (by unfold hmV at e; injection e) hq hc).1, h.cap, h.len, h.new, fun b e hq => ?_⟩
  obtain ⟨a, c, e1, ⟨q1, _⟩ | ⟨b', o', e2, hc⟩⟩ := h.rd
  · exact absurd q1 hq
  · unfold hmV at e1
    rw [e, e2] at e1
    injection e1 with e1 _ _
    injection e1 with e1
    subst e1
    obtain ⟨y, t, hy⟩ := List.exists_cons_of_ne_nil hq
    have h0 : 0 < x.h.q.length := by rw [hy]; simp
    exact (hk _ _ _ e hq (hc.cell 0 h0 0 _ rfl)).2
/-- A round's append, and what else stays. -/
theorem BxI.push2 {α : Type} {P : Program} {ST T sz bytes c : Nat} {row : α → List Value} (E : Elem P ST T sz bytes row) {w : World} {S0 S : Nat → Prop} {v : Value} {pre : List α} {A A1 : World} (h : BxI T sz row w c S0 S v pre A) (hw : w.heap.size ≤ c) (hex : ∀ k, S k → k < A.heap.size) (g : Nw A A1) (x : α) (b cc : Nat) (hx : ∀ j u, (row x)[j]? = some u → A1.cell? ⟨b, j, none⟩ = some u) (hsm : pre.length < 100000)
    {n₀ : Nat} (hD : ∀ k, (k = n₀ ∨ k = n₀ + 1) → ∃ o, A.heap[k]? = some o ∧ o.isCells = false) :
    ∃ v' w1, (Builtin.append_ #[ST, ST] ST #[v, .slice (some ⟨b, 0, none⟩) 1 cc]).run P A1 = .ok v' w1 ∧ (∃ g cap, v' = .slice (some ⟨g, 0, none⟩) (pre.length + 1) cap) ∧ w1.cell? ⟨c, 0, none⟩ = some v ∧ w1.frozen? ⟨c, 0, none⟩ = false ∧
      BxI T sz row w c S0 S v' (pre ++ [x]) (w1.setCell ⟨c, 0, none⟩ v') ∧ KpS S A (w1.setCell ⟨c, 0, none⟩ v') ∧ KpD n₀ A (w1.setCell ⟨c, 0, none⟩ v') ∧
      (∀ k, k < A1.heap.size → v.ownBlock ≠ some k → w1.heap[k]? = A1.heap[k]?) ∧ (v'.ownBlock = v.ownBlock ∨ v'.ownBlock = some A1.heap.size) := by
  have hc := h.lt
  obtain ⟨v', w1, h1, h2, h3, h4, h5⟩ := Own.push E (onw h.own g) x b cc hx hsm (by have := g.sz; omega)
  have hvc : ∀ k, v.ownBlock = some k → c < k := fun k hk => oge h.own hk
  have c1 : w1.cell? ⟨c, 0, none⟩ = some v := by
    have e : w1.heap[c]? = A1.heap[c]? := h3.block c (Nat.lt_of_lt_of_le hc g.sz) (fun q => by have := hvc c q.symm; omega)
    rw [World.cell?_of_block e]; exact g.kp h.cell
  have f1 : w1.frozen? ⟨c, 0, none⟩ = false := by
    have e : w1.heap[c]? = A1.heap[c]? := h3.block c (Nat.lt_of_lt_of_le hc g.sz) (fun q => by have := hvc c q.symm; omega)
    rw [World.frozen?_of_block e]; exact (g.froz hc).trans h.froz
  have hkeep : ∀ k, k < A.heap.size → v.ownBlock ≠ some k → k ≠ c → (w1.setCell ⟨c, 0, none⟩ v').heap[k]? = A.heap[k]? := fun k hk q1 q2 => by
    rw [Below.heap_setCell _ _ _ _ (by simpa using q2), h3.block k (Nat.lt_of_lt_of_le hk g.sz) (fun q => q1 q.symm)]
    exact g.block k hk
  refine ⟨v', w1, h1, h5, c1, f1, ⟨World.cell?_setCell_same _ _ _ c1, by rw [World.frozen?_setCell]; exact f1, own_st h2 (Nat.lt_succ_self c) _, fun k hk => ?_, h.box, h.sub, ?_⟩, ⟨?_, fun k hk => ?_⟩, fun k hk => ?_, fun k hk q => h3.block k hk (fun e => q e.symm), h4⟩
  · rcases h4 with q | q
    · exact h.row k (q ▸ hk)
    · rw [q] at hk
      have := Option.some.inj hk
      have := g.sz
      intro hs
      have := hex k hs
      omega
  · refine ((h.nw.trans g).gro h3 (fun k hk => ?_)).st (p := ⟨c, 0, none⟩) hw v'
    have := hvc k hk
    omega
  · have := h3.size
    have := g.sz
    have e : (w1.setCell ⟨c, 0, none⟩ v').heap.size = w1.heap.size := by simp
    omega
  · exact hkeep k (hex k hk) (fun q => h.row k q hk) (fun q => h.box (q ▸ hk))
  · obtain ⟨o, ho, hno⟩ := hD k hk
    refine hkeep k (hlt ho) (fun q => ?_) (fun q => ?_)
    · obtain ⟨cc, hcc⟩ := oheap h.own q
      rw [hcc] at ho; cases ho; cases hno
    · subst q
      obtain ⟨o', ho', hc'⟩ := cellsB h.cell
      rw [show (⟨k, 0, none⟩ : Addr).block = k from rfl, ho] at ho'; cases ho'; rw [hno] at hc'; cases hc'
/-- What Heads holds between two rounds. -/
structure HdI (w : World) (S0 S : Nat → Prop) (v : Value) (lm : List Hm) (pre : List Hp) (A : World) : Prop where
  bx : BxI 56 4 hmrow w w.heap.size S0 S v lm A
  eq : lm.map Hm.h = pre.map Hp.h
  ok : ∀ x ∈ lm, HmOk A w.heap.size v.ownBlock x ∧ ∀ b, x.a = some b → x.h.q ≠ [] → ¬ S b.block
theorem HdI.step {w A B : World} {n₀ : Nat} {S0 S S' : Nat → Prop} {v : Value} {lm : List Hm} {pre : List Hp} (hn : w.heap.size ≤ n₀) (h : HdI w S0 S v lm pre A) (k : Ch' n₀ (fun k => S k ∧ ¬ S0 k) A B) (h2 : ∀ k, S' k → S k ∨ A.heap.size ≤ k) : HdI w S0 S' v lm pre B := by
  refine ⟨h.bx.step hn k h2, h.eq, fun x hx => ?_⟩
  obtain ⟨h3, h4⟩ := h.ok x hx
  refine ⟨h3.blk fun b j z e hq hc => ⟨chSame (a := ⟨b.block, j, none⟩) k hc (fun q => h4 b e hq q.1), h3.off b e hq⟩, fun b e hq q => ?_⟩
  rcases h2 _ q with q | q
  · exact h4 b e hq q
  · obtain ⟨a, c, e1, ⟨q1, _⟩ | ⟨b', o', e2, hc⟩⟩ := h3.rd
    · exact hq q1
    · unfold hmV at e1
      rw [e, e2] at e1
      injection e1 with e1 _ _
      injection e1 with e1
      subst e1
      have := hc.lt
      have e3 : (⟨b', o', none⟩ : Addr).block = b' := rfl
      omega
/-- A row of heads of the call's own: o is the last block below it. -/
def HdsAt (w : World) (o : Nat) (v : Value) (hs : List Hq) : Prop := ∃ lm : List Hm, HmOwn w (o + 1) v lm ∧ lm.map Hm.h = hs ∧ ∀ x ∈ lm, HmOk w o v.ownBlock x
def HdPost (w : World) (hs : List Hq) (e : Ending) (W : World) : Prop := ∃ v, e = .returned v ∧ HdsAt W w.heap.size v hs ∧ Nw w W
/-- What stays while a head is copied. -/
def HdS (c xp : Nat) (v : Value) (t r W : Int) (a : Option Addr) (n m : Nat) (y : World) : Prop := y.cell? ⟨c, 0, none⟩ = some v ∧ y.cell? ⟨xp, 0, none⟩ = some (.int .i64 t) ∧ y.cell? ⟨xp, 1, none⟩ = some (.int .i64 r) ∧ y.cell? ⟨xp, 2, none⟩ = some (.slice a n m) ∧ y.cell? ⟨xp, 3, none⟩ = some (.int .i64 W)
theorem HdS.nw {c xp : Nat} {v : Value} {t r W : Int} {a : Option Addr} {n m : Nat} {y y' : World} (h : HdS c xp v t r W a n m y) (g : Nw y y') : HdS c xp v t r W a n m y' := ⟨g.kp h.1, g.kp h.2.1, g.kp h.2.2.1, g.kp h.2.2.2.1, g.kp h.2.2.2.2⟩
/-- A round: a head has been copied, its copy appended. -/
theorem HdI.push {w A z : World} {n₀ : Nat} {S0 S : Nat → Prop} {v : Value} {lm : List Hm} {pre : List Hp} (h : HdI w S0 S v lm pre A) (hex : ∀ k, S k → k < A.heap.size) (g : Nw A z) {t r W : Int} {q : List Rq} {x : Hp} (hx : x.h = ⟨t, r, W, q⟩) (hq : q.length ≤ 1000) {a1 : Option Addr} {c1 : Nat} (ho : RqOwn z A.heap.size (.slice a1 q.length c1) q) (hsm : lm.length < 100000)
    (hD : ∀ k, (k = n₀ ∨ k = n₀ + 1) → ∃ o, A.heap[k]? = some o ∧ o.isCells = false) {xp : Nat} {a : Option Addr} {m : Nat} (hxp : xp < w.heap.size) (hS : HdS w.heap.size xp v t r W a q.length m A) :
    ∃ v' w1, (Builtin.append_ #[43, 43] 43 #[v, .slice (some ⟨z.heap.size, 0, none⟩) 1 1]).run Tryz.prog (z.alloc (.cells #[.int .i64 t, .int .i64 r, .slice a1 q.length c1, .int .i64 W] 56)) = .ok v' w1 ∧ (∃ g cap, v' = .slice (some ⟨g, 0, none⟩) (lm.length + 1) cap) ∧ w1.cell? ⟨w.heap.size, 0, none⟩ = some v ∧ w1.frozen? ⟨w.heap.size, 0, none⟩ = false ∧
      HdS w.heap.size xp v t r W a q.length m w1 ∧
      (∃ lm', HdI w S0 S v' lm' (pre ++ [x]) (w1.setCell ⟨w.heap.size, 0, none⟩ v')) ∧ KpS S A (w1.setCell ⟨w.heap.size, 0, none⟩ v') ∧ KpD n₀ A (w1.setCell ⟨w.heap.size, 0, none⟩ v') := by
  have hal := allocAt z (.cells #[.int .i64 t, .int .i64 r, .slice a1 q.length c1, .int .i64 W] 56)
  have g1 : Nw z (z.alloc (.cells #[.int .i64 t, .int .i64 r, .slice a1 q.length c1, .int .i64 W] 56)) := (Nw.refl z).alloc _
  have hsz : (z.alloc (.cells #[.int .i64 t, .int .i64 r, .slice a1 q.length c1, .int .i64 W] 56)).heap.size = z.heap.size + 1 := by simp
  generalize z.alloc (.cells #[.int .i64 t, .int .i64 r, .slice a1 q.length c1, .int .i64 W] 56) = z1 at *
  obtain ⟨v', w1, h1, h2, h3, h4, h5, h6, h7, h8, h9⟩ := h.bx.push2 elemHm (Nat.le_refl _) hex (g.trans g1) (⟨⟨t, r, W, q⟩, a1, c1⟩ : Hm) z.heap.size 1 (fun j u hu => by
    rw [hcell hal]
    simpa [hmrow] using hu) hsm hD
  have hvl : ∀ k, v.ownBlock = some k → k < A.heap.size := fun k e => olt h.bx.own e
  have hvg : ∀ k, v.ownBlock = some k → w.heap.size < k := fun k e => oge h.bx.own e
  have hwA := h.bx.nw.sz
  have hAz := g.sz
  have hcl := h.bx.lt
  have keep : ∀ k, k < z1.heap.size → v.ownBlock ≠ some k → k ≠ w.heap.size → (w1.setCell ⟨w.heap.size, 0, none⟩ v').heap[k]? = z1.heap[k]? := fun k hk q1 q2 => by
    rw [Below.heap_setCell _ _ _ _ (by simpa using q2)]; exact h8 k hk q1
  have sc : ∀ j u, A.cell? ⟨xp, j, none⟩ = some u → w1.cell? ⟨xp, j, none⟩ = some u := fun j u e => by
    have e1 : w1.heap[xp]? = z1.heap[xp]? := h8 xp (by omega) (fun q => by have := hvg _ q; omega)
    rw [World.cell?_of_block e1]
    exact (g.trans g1).kp e
  refine ⟨v', w1, h1, h2, h3, h4, ⟨h3, sc _ _ hS.2.1, sc _ _ hS.2.2.1, sc _ _ hS.2.2.2.1, sc _ _ hS.2.2.2.2⟩, ⟨lm ++ [⟨⟨t, r, W, q⟩, a1, c1⟩], h5, by rw [List.map_append, List.map_append, h.eq]; simp [hx], fun y hy => ?_⟩, h6, h7⟩
  rcases List.mem_append.1 hy with hy | hy
  · obtain ⟨k1, k2⟩ := h.ok y hy
    refine ⟨k1.blk fun b j u e hne hc => ?_, k2⟩
    have hbl : b.block < A.heap.size := World.block_lt_of_cell? _ ⟨b.block, j, none⟩ hc
    have hbn : b.block ≠ w.heap.size := by
      have := k1.new b _ _ (by unfold hmV; rw [e])
      omega
    refine ⟨(keep b.block (by omega) (k1.off b e hne) hbn).trans ((g.trans g1).block _ hbl), ?_⟩
    rcases h9 with q9 | q9
    · rw [q9]; exact k1.off b e hne
    · rw [q9]; intro e9; have := Option.some.inj e9; omega
  · obtain rfl : y = ⟨⟨t, r, W, q⟩, a1, c1⟩ := by simpa using hy
    have hbk : ∀ b, a1 = some b → A.heap.size ≤ b.block ∧ b.block < z.heap.size := fun b e => by
      subst e
      rcases oform ho with ⟨e, _⟩ | ⟨g', cap, e⟩
      · cases e
      · cases e
        exact ⟨oge ho rfl, olt ho rfl⟩
    refine ⟨⟨?_, ?_, hq, fun b n c e => ?_, fun b e hne => ?_⟩, fun b e hne hs => ?_⟩
    · refine rq_blk (Rd.nw (RqOwn.rd ho) g1) fun b n c j u e hne hc => ?_
      unfold hmV at e
      simp only [Value.slice.injEq] at e
      have := hbk b e.1
      exact keep b.block (by omega) (fun q => by have := hvl _ q; omega) (by omega)
    · exact RqOwn.cap ho
    · unfold hmV at e
      simp only [Value.slice.injEq] at e
      have := hbk b e.1
      omega
    · have := hbk b e
      rcases h9 with q9 | q9
      · rw [q9]; intro q; have := hvl _ q; omega
      · rw [q9]; intro e9; have := Option.some.inj e9; omega
    · have := hbk b e
      have := hex _ hs
      omega
end Go.Proofs.YtodnlelnpidliaaGreat
end

/- Heads. -/
section
namespace Go.Proofs.YtodnlelnpidliaaGreat
open Go.RowKit Go.Sort Go.Shelf
set_option linter.unusedVariables false      -- a contract need not use every name
attribute [local go_sem] Oper.semAt_some

set_option maxRecDepth 100000 in
set_option maxHeartbeats 4000000 in
theorem heads_in (n : Nat) (hn : 4 ≤ n) {w : World} {o mb po nn : Nat} {l : List Hp} {L : List Bool} {F : Nat → Prop} (h : Db w o mb po nn l L F) :
    CallsIn Fence.wide n Tryz.prog 14 #[.pointer (some ⟨o, 0, none⟩)] w (HdPost w (hsP l)) := by
  have h1 : 1 ≤ n := by omega
  have hol := h.ol
  have hml := h.map.lt
  have hll := h.len
  have HMd := Lib.hid (bmade_yes o w h.c0)
  have H := Lib.hid h
  refine callsIn_of_wp_marks Tryz.func14 rfl trivial ?_ rfl
  simp only [Tryz.ntmps14, List.size_toArray, List.length_cons, List.length_nil, Nat.reduceAdd, Nat.reduceSub, Array.replicate_succ, Array.replicate_zero, List.push_toArray, List.append_toArray, List.nil_append, List.cons_append]
  clear h
  refine wpIn_wide.2 ?_
  go_wp2_with (go_at_call 45; refine HMd.out.mono ?_; rintro e w' ⟨rfl, rfl⟩)
  obtain ⟨W0, hW0⟩ : ∃ W0, w.alloc (.cells #[.slice none 0 0] 43) = W0 := ⟨_, rfl⟩
  have hnw : Nw w W0 := by rw [← hW0]; exact (Nw.refl w).alloc _
  have hsz : W0.heap.size = w.heap.size + 1 := by rw [← hW0]; simp
  have hA0 : ∃ v lm, HdI w (fun k => k = o ∨ k = mb) (fun k => k = o ∨ k = mb) v lm [] W0 := by
    refine ⟨.slice none 0 0, [], ⟨?_, ?_, World.ownsRow_nil _ _ _ _, fun k e => by simp [Value.ownBlock] at e, fun e => by omega, fun k e => .inl e, hnw⟩, rfl, by simp⟩
    · rw [← hW0]; simp [go_sem]
    · rw [← hW0]; simp [go_sem]
  have hseq := each_in (n - 1) (by omega) o mb l W0 ((H.out.nw hnw).c3) ((H.out.nw hnw).map) H.out.srt (by omega)
  rw [hW0]
  clear hW0 HMd
  refine (wpIn_wide (n := n)).1 ?_
  refine rg_law rfl h1 (gf := 46) (fa := #[.pointer (some ⟨o, 0, none⟩)]) (lb := #[]) rfl trivial e_each (S0 := fun k => k = o ∨ k = mb) (fun k e => by omega) hseq rfl
    (fun S pre A => ∃ v lm, HdI w (fun k => k = o ∨ k = mb) S v lm pre A) (fun _ _ _ _ => False)
    (fun S S' pre A B hi hc e1 e2 _ => by obtain ⟨v, lm, hi⟩ := hi; exact ⟨v, lm, hi.step (by omega) hc e2⟩) (fun _ _ _ _ _ _ h _ _ _ _ => h) hA0 (fun _ => none)
    (fun x bx => { tmps := #[.pointer (some ⟨o, 0, none⟩), undef, .slice none 0 0, .pointer (some ⟨w.heap.size, 0, none⟩), ptP x, .pointer (some ⟨o, 0, none⟩), .bool true, .bool false, .pointer (some ⟨o, 0, none⟩), .func (.func 46) #[.pointer (some ⟨o, 0, none⟩)] #[], ptP x, undef, undef, undef, undef, undef, undef, undef, undef, undef, undef, undef, undef, undef, undef, undef, undef, undef, undef], defers := [] }) ?assign ?body ?done ?stop
  case assign =>
    intro r x A K hK
    simp only [mkB] at hK
    gi_wp2
    exact hK
  case body =>
    intro r S pre x bx A hi hsub hex hnb hbl hnc hcx hpre
    obtain ⟨v, lm, hi⟩ := hi
    have hx : x ∈ l := hpre.subset (by simp)
    have hok := (H.out.nw hi.bx.nw).ok x hx
    have hxw : x.p < w.heap.size := (H.out.ok x hx).lt
    have hHd : HdS w.heap.size x.p v x.h.t x.h.r x.h.W x.a x.h.q.length x.c A := ⟨hi.bx.cell, hok.c0, hok.c1, hok.c2, hok.c3⟩
    have hlm : lm.length < 100000 := by
      have e1 := congrArg List.length hi.eq
      rw [List.length_map, List.length_map] at e1
      have e2 := hpre.length_le
      rw [List.length_append, List.length_singleton] at e2
      omega
    have HCl := Lib.hid (fun w1 (g : Nw A w1) => dClone (hpV x) x.h.q w1 hok.len (hok.rd.nw g))
    have HPu := Lib.hid (fun z (g : Nw A z) a1 c1 (ho : RqOwn z A.heap.size (.slice a1 x.h.q.length c1) x.h.q) => hi.push hex g (x := x) rfl hok.len ho hlm (n₀ := w.heap.size + 1) (fun k e => (hnc k (by rw [hsz]; exact e)).2) hxw hHd)
    unfold hpV at HCl
    obtain ⟨va, vn, vc, hv⟩ : ∃ va vn vc, v = .slice va vn vc := by
      rcases oform hi.bx.own with ⟨e, _⟩ | ⟨g, cap, e⟩
      · exact ⟨_, _, _, e⟩
      · exact ⟨_, _, _, e⟩
    subst hv
    have hcl := hi.bx.lt
    have hsz1 : W0.heap.size = w.heap.size + 1 := hsz
    clear hi hsub hex hnb hbl hnc hcx hpre hok hx hseq hA0 hlm
    obtain ⟨⟨xt, xr, xW, xq⟩, xp, xa, xc⟩ := x
    simp only at HCl HPu hHd hxw
    rw [hsz1]
    gi_wp2_with fail
    refine region_roundT 17 (HdS w.heap.size xp (.slice va vn vc) xt xr xW xa xq.length xc) (by kernel_rfl) (by kernel_rfl) ?_
    change wpAnyT _ _ _ _ _ _ 18 #[false, false, false, false, false, false, false, false, false, false, false, false, false, false, false, false, false, false] _ A.drew
    have hN0 : Nw A A.drew := (Nw.refl A).dr
    have hS0 := hHd.nw hN0
    obtain ⟨y, hy⟩ : ∃ y, A.drew = y := ⟨_, rfl⟩
    rw [hy] at hS0 hN0 ⊢
    clear hy
    refine wpAnyT_take (i := 0) (v := .slice va vn vc) rfl (by kernel_rfl) (by kernel_rfl) (by kernel_rfl) (by kernel_rfl) (fun c a w h => h) (.inl ⟨rfl, fun w hw => by obtain ⟨q0, q1, q2, q3, q4⟩ := hw; go_simp⟩) hS0 ?_
    simp only [Act.put, List.getElem_toArray, List.getElem_cons_zero, List.setIfInBounds_toArray, List.set_cons_zero, List.set_cons_succ]
    refine wpAnyT_take (i := 1) (v := .pointer (some ⟨xp, 0, none⟩)) rfl (by kernel_rfl) (by kernel_rfl) (by kernel_rfl) (by kernel_rfl) (fun c a w h => h) (.inl ⟨rfl, fun w hw => by obtain ⟨q0, q1, q2, q3, q4⟩ := hw; go_simp⟩) hS0 ?_
    simp only [Act.put, List.getElem_toArray, List.getElem_cons_zero, List.getElem_cons_succ, List.setIfInBounds_toArray, List.set_cons_zero, List.set_cons_succ]
    refine wpAnyT_take (i := 2) (v := .pointer (some ⟨xp, 0, none⟩)) rfl (by kernel_rfl) (by kernel_rfl) (by kernel_rfl) (by kernel_rfl) (fun c a w h => h) (.inl ⟨rfl, fun w hw => by obtain ⟨q0, q1, q2, q3, q4⟩ := hw; go_simp⟩) hS0 ?_
    simp only [Act.put, List.getElem_toArray, List.getElem_cons_zero, List.getElem_cons_succ, List.setIfInBounds_toArray, List.set_cons_zero, List.set_cons_succ]
    refine wpAnyT_take (i := 3) (v := .pointer (some ⟨xp, 0, none⟩)) rfl (by kernel_rfl) (by kernel_rfl) (by kernel_rfl) (by kernel_rfl) (fun c a w h => h) (.inl ⟨rfl, fun w hw => by obtain ⟨q0, q1, q2, q3, q4⟩ := hw; go_simp⟩) hS0 ?_
    simp only [Act.put, List.getElem_toArray, List.getElem_cons_zero, List.getElem_cons_succ, List.setIfInBounds_toArray, List.set_cons_zero, List.set_cons_succ]
    refine wpAnyT_take (i := 4) (v := .agg #[.int .i64 xt, .int .i64 xr]) rfl (by kernel_rfl) (by kernel_rfl) (by kernel_rfl) (by kernel_rfl) (fun c a w h => h) (.inl ⟨rfl, fun w hw => by obtain ⟨q0, q1, q2, q3, q4⟩ := hw; go_simp⟩) hS0 ?_
    simp only [Act.put, List.getElem_toArray, List.getElem_cons_zero, List.getElem_cons_succ, List.setIfInBounds_toArray, List.set_cons_zero, List.set_cons_succ]
    refine wpAnyT_take (i := 5) (v := .pointer (some ⟨xp, 0, none⟩)) rfl (by kernel_rfl) (by kernel_rfl) (by kernel_rfl) (by kernel_rfl) (fun c a w h => h) (.inl ⟨rfl, fun w hw => by obtain ⟨q0, q1, q2, q3, q4⟩ := hw; go_simp⟩) hS0 ?_
    simp only [Act.put, List.getElem_toArray, List.getElem_cons_zero, List.getElem_cons_succ, List.setIfInBounds_toArray, List.set_cons_zero, List.set_cons_succ]
    refine wpAnyT_take (i := 6) (v := .pointer (some ⟨xp, 0, none⟩)) rfl (by kernel_rfl) (by kernel_rfl) (by kernel_rfl) (by kernel_rfl) (fun c a w h => h) (.inl ⟨rfl, fun w hw => by obtain ⟨q0, q1, q2, q3, q4⟩ := hw; go_simp⟩) hS0 ?_
    simp only [Act.put, List.getElem_toArray, List.getElem_cons_zero, List.getElem_cons_succ, List.setIfInBounds_toArray, List.set_cons_zero, List.set_cons_succ]
    refine wpAnyT_take (i := 7) (v := .pointer (some ⟨xp, 2, none⟩)) rfl (by kernel_rfl) (by kernel_rfl) (by kernel_rfl) (by kernel_rfl) (fun c a w h => h) (.inl ⟨rfl, fun w hw => by obtain ⟨q0, q1, q2, q3, q4⟩ := hw; go_simp⟩) hS0 ?_
    simp only [Act.put, List.getElem_toArray, List.getElem_cons_zero, List.getElem_cons_succ, List.setIfInBounds_toArray, List.set_cons_zero, List.set_cons_succ]
    refine wpAnyT_take (i := 8) (v := .slice xa xq.length xc) rfl (by kernel_rfl) (by kernel_rfl) (by kernel_rfl) (by kernel_rfl) (fun c a w h => h) (.inl ⟨rfl, fun w hw => by obtain ⟨q0, q1, q2, q3, q4⟩ := hw; go_simp⟩) hS0 ?_
    simp only [Act.put, List.getElem_toArray, List.getElem_cons_zero, List.getElem_cons_succ, List.setIfInBounds_toArray, List.set_cons_zero, List.set_cons_succ]
    refine wpAnyT_take (i := 10) (v := .pointer (some ⟨xp, 0, none⟩)) rfl (by kernel_rfl) (by kernel_rfl) (by kernel_rfl) (by kernel_rfl) (fun c a w h => h) (.inl ⟨rfl, fun w hw => by obtain ⟨q0, q1, q2, q3, q4⟩ := hw; go_simp⟩) hS0 ?_
    simp only [Act.put, List.getElem_toArray, List.getElem_cons_zero, List.getElem_cons_succ, List.setIfInBounds_toArray, List.set_cons_zero, List.set_cons_succ]
    refine wpAnyT_take (i := 11) (v := .pointer (some ⟨xp, 0, none⟩)) rfl (by kernel_rfl) (by kernel_rfl) (by kernel_rfl) (by kernel_rfl) (fun c a w h => h) (.inl ⟨rfl, fun w hw => by obtain ⟨q0, q1, q2, q3, q4⟩ := hw; go_simp⟩) hS0 ?_
    simp only [Act.put, List.getElem_toArray, List.getElem_cons_zero, List.getElem_cons_succ, List.setIfInBounds_toArray, List.set_cons_zero, List.set_cons_succ]
    refine wpAnyT_take (i := 12) (v := .pointer (some ⟨xp, 3, none⟩)) rfl (by kernel_rfl) (by kernel_rfl) (by kernel_rfl) (by kernel_rfl) (fun c a w h => h) (.inl ⟨rfl, fun w hw => by obtain ⟨q0, q1, q2, q3, q4⟩ := hw; go_simp⟩) hS0 ?_
    simp only [Act.put, List.getElem_toArray, List.getElem_cons_zero, List.getElem_cons_succ, List.setIfInBounds_toArray, List.set_cons_zero, List.set_cons_succ]
    refine wpAnyT_take (i := 13) (v := .int .i64 xW) rfl (by kernel_rfl) (by kernel_rfl) (by kernel_rfl) (by kernel_rfl) (fun c a w h => h) (.inl ⟨rfl, fun w hw => by obtain ⟨q0, q1, q2, q3, q4⟩ := hw; go_simp⟩) hS0 ?_
    simp only [Act.put, List.getElem_toArray, List.getElem_cons_zero, List.getElem_cons_succ, List.setIfInBounds_toArray, List.set_cons_zero, List.set_cons_succ]
    refine oneT (i := 9) (by kernel_rfl) rfl (fun K hK => ?_)
    rw [if_pos (by rfl)]
    simp only [List.getElem_toArray, List.getElem_cons_zero, List.getElem_cons_succ]
    go_simp
    refine (HCl.out _ hN0).mono ?_
    rintro e z ⟨v1, rfl, g1, ho1⟩
    obtain ⟨a1, c1, hv1⟩ : ∃ a1 c1, v1 = .slice a1 xq.length c1 := by
      rcases oform ho1 with ⟨e, e2⟩ | ⟨g, cap, e⟩
      · exact ⟨none, 0, by rw [e, e2]⟩
      · exact ⟨_, _, e⟩
    subst hv1
    have hNz := hN0.trans g1
    have hSz := hS0.nw g1
    obtain ⟨v', w1, hr, ⟨gg, cap, hv'⟩, hcc, hff, hSw, hI, hK1, hK2⟩ := HPu.out z hNz a1 c1 (olow ho1 (fun g hg => by have := oge ho1 hg; have := hN0.sz; omega))
    subst hv'
    refine hK _ _ (.inr hSz) ?_
    clear hK K
    refine wpAnyT_take (i := 14) (v := .agg #[.int .i64 xt, .int .i64 xr, .slice a1 xq.length c1, .int .i64 xW]) rfl (by kernel_rfl) (by kernel_rfl) (by kernel_rfl) (by kernel_rfl) (fun c a w h => h) (.inl ⟨rfl, fun w hw => by obtain ⟨q0, q1, q2, q3, q4⟩ := hw; go_simp⟩) hSz ?_
    simp only [Act.put, List.getElem_toArray, List.getElem_cons_zero, List.getElem_cons_succ, List.setIfInBounds_toArray, List.set_cons_zero, List.set_cons_succ]
    refine oneT (i := 15) (by kernel_rfl) rfl (fun K hK => ?_)
    rw [if_pos (by rfl)]
    simp only [List.getElem_toArray, List.getElem_cons_zero, List.getElem_cons_succ]
    go_simp
    refine hK _ _ (.inr (hSz.nw ((Nw.refl z).alloc _))) ?_
    clear hK K
    refine oneT (i := 16) (by kernel_rfl) rfl (fun K hK => ?_)
    refine stp_app (by rfl) (.tmp 11) (.tmp 26) 43 rfl _ _ _ _ rfl rfl hr ?_
    refine hK _ _ (.inr hSw) ?_
    clear hK K
    simp only [Act.put, List.getElem_toArray, List.getElem_cons_zero, List.getElem_cons_succ, List.setIfInBounds_toArray, List.set_cons_zero, List.set_cons_succ]
    have HE := Lib.hid (And.intro hK2 (And.intro hK1 hI))
    have hwl := World.block_lt_of_cell? _ _ hcc
    refine oneT (i := 17) (by kernel_rfl) rfl (fun K hK => ?_)
    rw [if_pos (by rfl)]
    simp only [List.getElem_toArray, List.getElem_cons_zero, List.getElem_cons_succ]
    go_simp
    refine hK _ _ (.inl rfl) ?_
    clear hK K
    refine wpAnyT_done (by kernel_rfl) ?_ _
    change (NOr _ .normal _ _)
    unfold NOr
    exact ⟨HE.out.1, HE.out.2.1, _, HE.out.2.2⟩
  case done =>
    intro D S xs W hD _ hfin hi hK
    subst hfin
    obtain ⟨v, lm, hi⟩ := hi
    have HE : Hid (HdPost w (hsP xs) (.returned v) (W.putObj D (.deferred none))) := by
      have hc : Ch' D (fun k => S k ∧ ¬ (k = o ∨ k = mb)) W (W.putObj D (.deferred none)) := Ch'.put _ (.inl rfl) hK rfl
      have hi2 := hi.step (S' := S) (by omega) hc (fun k e => .inl e)
      exact ⟨v, rfl, ⟨lm, hi2.bx.own, hi2.eq, fun x hx => (hi2.ok x hx).1⟩, hi2.bx.nw⟩
    have hd := hi.bx.cell
    have hf := oform hi.bx.own
    clear hseq hA0 hi
    obtain ⟨va, vn, vc, hv⟩ : ∃ va vn vc, v = .slice va vn vc := by
      rcases hf with ⟨e, _⟩ | ⟨g, cap, e⟩
      · exact ⟨_, _, _, e⟩
      · exact ⟨_, _, _, e⟩
    subst hv
    go_wp2
    refine ⟨by simp, .inl ⟨_, _, rfl, run_takeDeferred hK, ?_⟩⟩
    exact ⟨_, results_tmp (t := 2) rfl _ _ _, HE.out⟩
  case stop =>
    intro D c S pre W _ _ h _
    exact h.elim
theorem heads_d {w : World} {o mb po nn : Nat} {l : List Hp} {L : List Bool} {F : Nat → Prop} (h : Db w o mb po nn l L F) :
    Calls Tryz.prog 14 #[.pointer (some ⟨o, 0, none⟩)] w (HdPost w (hsP l)) := callsIn_wide.1 (heads_in 4 (by omega) h)
end Go.Proofs.YtodnlelnpidliaaGreat
end

/- A pool: New. -/
section
namespace Go.Proofs.YtodnlelnpidliaaGreat
open Go.RowKit
set_option linter.unusedVariables false

theorem infoB : (Tryz.prog.info? 4).map (fun i => (i.zero, i.size, i.bytes)) = some (some (.bool false), 1, 1) := by kernel_rfl
theorem mk_bools (w : World) (N : Nat) (hN : N ≤ 1000) : (Instr.makeSlice 75 (.int .i64 N) (.int .i64 N)).run Tryz.prog w = .ok (.slice (some ⟨w.heap.size, 0, none⟩) N N) (w.alloc (.cells (Array.replicate N (.bool false)) 4)) := by
  obtain ⟨i0, hi, hz0, hz1, hz2⟩ := info_parts infoB
  have h := run_make (P := Tryz.prog) w 75 4 i0 (.bool false) Tryz.underlying75 hi hz0 .i64 .i64 N N (by omega) (Int.le_refl _) (by rw [hz2]; omega) (by omega)
  have e : madeCells (Value.bool false).cells (N * 1) = Array.replicate N (.bool false) := by
    apply Array.ext
    · simp [madeCells]
    · intro j h1 h2
      simp [madeCells, Value.cells, Nat.mod_one]
  rw [h, hz1]
  simp only [Int.toNat_natCast, e]
/-- Between two rounds: the heap has the first k numbers. -/
structure NewI (w : World) (N k : Nat) (v : Value) (l : List Int) (W : World) : Prop where
  nw : Nw w W
  hv : IHv W (w.heap.size + 1) 2 v l
  hs : IHs l (castL (List.range k))
  own : ∀ b, v.ownBlock = some b → w.heap.size + 2 ≤ b
  c0 : W.cell? ⟨w.heap.size + 1, 0, none⟩ = some (.pointer none)
  f0 : W.frozen? ⟨w.heap.size + 1, 0, none⟩ = false
  c1 : W.cell? ⟨w.heap.size + 1, 1, none⟩ = some (.slice (some ⟨w.heap.size, 0, none⟩) N N)
  cs : ∀ i, i < N → W.cell? ⟨w.heap.size, i, none⟩ = some (.bool false) ∧ W.frozen? ⟨w.heap.size, i, none⟩ = false
  sz : w.heap.size + 1 < W.heap.size
theorem newI_start (w : World) (N : Nat) (T U : TypeId) : NewI w N 0 (.slice none 0 0) [] ((w.alloc (.cells (Array.replicate N (.bool false)) T)).alloc (.cells #[.pointer none, .slice (some ⟨w.heap.size, 0, none⟩) N N, .slice none 0 0] U)) := by
  refine ⟨((Nw.refl w).alloc _).alloc _, ⟨by simp [go_sem], by simp [go_sem], IS.nil _, by simp [Value.ownBlock]⟩, IHs.nil, by simp [Value.ownBlock], by simp [go_sem], by simp [go_sem], by simp [go_sem], fun i hi => ?_, by simp⟩
  constructor <;> simp [go_sem, hi]
theorem NewI.step {w W W' : World} {N k : Nat} {v : Value} {l : List Int} (h : NewI w N k v l W) (hp : IPushH W (w.heap.size + 1) 2 v (castL (List.range (k + 1))) W') : ∃ v' l', NewI w N (k + 1) v' l' W' := by
  obtain ⟨g', cap', l', hp, hs, hor, ht, hsd⟩ := hp
  have hsz := h.sz
  have n1 : ¬ IOf (w.heap.size + 1) v w.heap.size := fun e => e.elim (fun e => by omega) (fun e => by have := h.own _ e; omega)
  refine ⟨_, l', nw_tch h.nw ht (fun i e => ?_), hp.v, hs, fun b e => ?_, (hsd 0 (by omega)).1.trans h.c0, (hsd 0 (by omega)).2.trans h.f0, (hsd 1 (by omega)).1.trans h.c1, fun i hi => ⟨(ht.cell (by omega) n1).trans (h.cs i hi).1, (ht.froz (by omega) n1).trans (h.cs i hi).2⟩, by have := ht.size; omega⟩
  · rcases e with e | e
    · omega
    · have := h.own _ e; omega
  · simp [Value.ownBlock] at e
    subst e
    rcases hor with q | q
    · exact h.own _ q.symm
    · omega
/-- What New returns. -/
def PNewP (w : World) (N : Nat) (e : Ending) (W : World) : Prop := ∃ p F, e = .returned (.tuple #[.pointer (some ⟨p, 0, none⟩), .int .i64 0]) ∧ Pol W p (List.replicate N false) F ∧ Nw w W ∧ (∀ k, F k → w.heap.size ≤ k)
theorem NewI.done {w W : World} {N : Nat} {v : Value} {l : List Int} (h : NewI w N N v l W) (hN : N ≤ 128) : PNewP w N (.returned (.tuple #[.pointer (some ⟨w.heap.size + 1, 0, none⟩), .int .i64 0])) (W.setCell ⟨w.heap.size + 1, 0, none⟩ (.pointer (some ⟨w.heap.size + 1, 0, none⟩))) := by
  have t := setCell_at W ⟨w.heap.size + 1, 0, none⟩ (.pointer (some ⟨w.heap.size + 1, 0, none⟩))
  have hsz := h.sz
  have o : ∀ j, j ≠ 0 → (W.setCell ⟨w.heap.size + 1, 0, none⟩ (.pointer (some ⟨w.heap.size + 1, 0, none⟩))).cell? ⟨w.heap.size + 1, j, none⟩ = W.cell? ⟨w.heap.size + 1, j, none⟩ := fun j hj => World.cell?_setCell_other _ _ _ _ (fun r => hj (congrArg Addr.off r).symm)
  refine ⟨w.heap.size + 1, _, rfl, ⟨w.heap.size, v, l, ⟨World.cell?_setCell_same _ _ _ h.c0, by rw [List.length_replicate]; exact (o 1 (by omega)).trans h.c1, fun i hi => ?_, by simp; omega, ?_, by rw [frI_new]; exact h.hs, by omega, fun e => by have := h.own _ e; omega, by rw [List.length_replicate]; exact hN⟩, rfl⟩, nw_tch h.nw t (fun i e => by simp at e; omega), ?_⟩
  · rw [List.length_replicate] at hi
    have e : (List.replicate N false).getD i false = false := by simp [List.getD, hi]
    rw [e]
    exact ⟨(t.cell (by omega) (by simp)).trans (h.cs i hi).1, by rw [World.frozen?_setCell]; exact (h.cs i hi).2⟩
  · refine ⟨(o 2 (by omega)).trans h.hv.hd, by rw [World.frozen?_setCell]; exact h.hv.hf, IS.tch h.hv.row t (fun b e => ?_), h.hv.ne⟩
    have := h.own b e
    simp; omega
  · rintro k (e | e | e)
    · omega
    · omega
    · have := h.own _ e; omega
set_option maxRecDepth 10000 in
set_option maxHeartbeats 1000000 in
theorem pnew_any (N : Nat) (hN : N ≤ 128) (w : World) : Calls Tryz.prog 34 #[.int .i64 N] w (PNewP w N) := by
  have km := fun w => mk_bools w N (by omega)
  have HS := Lib.hid (newI_start w N 4 94)
  have hd : decide (128 < N) = false := by simp; omega
  have hd2 : decide ((128 : Int) < (N : Int)) = false := by simp; omega
  go_enter Tryz.func34, Tryz.ntmps34
  go_wp2
  go_loopw [17] (fun i wr => ∃ k : Nat, k ≤ N ∧ i = .int .i64 k ∧ ∃ v l, Hid (NewI w N k v l wr)) (fun i _ => N - (intOf i).toNat)
  case atStart => exact ⟨0, Nat.zero_le _, rfl, _, _, HS⟩
  case round =>
    obtain ⟨k, hk, rfl, v, l, HI⟩ := hrel
    by_cases hlt : k < N
    · have hp := ihpush_any (w.heap.size + 1) 2 v l (castL (List.range k)) k wr HI.out.hv HI.out.hs (by rw [HI.out.hs.len, castL_range_len]; omega)
      rw [range_ins] at hp
      have HP := Lib.hid hp
      clear hp
      go_wp2_with fail
      refine HP.out.mono ?_
      rintro e w1 ⟨rfl, hw1⟩
      obtain ⟨v', l', hI⟩ := HI.out.step hw1
      have HI' := Lib.hid hI
      clear hw1 hI
      go_wp2
      go_roundw
      case rel => exact ⟨k + 1, by omega, by go_num, v', l', HI'⟩
      case measure => simp [intOf]; omega
    · obtain rfl : k = N := by omega
      have c0 := HI.out.c0
      have f0 := HI.out.f0
      have hz := HI.out.sz
      have HD := Lib.hid (HI.out.done hN)
      go_wp2
      exact bodyPost_ret (v := .tuple #[.pointer (some ⟨w.heap.size + 1, 0, none⟩), .int .i64 0]) (by simp [results, Tryz.results34, go_sem]) rfl HD.out
end Go.Proofs.YtodnlelnpidliaaGreat
end

/- New. -/
section
namespace Go.Proofs.YtodnlelnpidliaaGreat
open Go.RowKit Go.Shelf
set_option linter.unusedVariables false      -- a contract need not use every name

theorem hsL_neg (L : List Bool) : hsL L (-1) = false := by
  cases e : hsL L (-1) with
  | false => rfl
  | true => obtain ⟨i, hi, _⟩ := hsL_at e; omega
/-- What New returns. -/
def DNew (w : World) (po n : Nat) (L : List Bool) (F : Nat → Prop) (e : Ending) (W : World) : Prop := ∃ o mb, e = .returned (.tuple #[.pointer (some ⟨o, 0, none⟩), .int .i64 0]) ∧ Db W o mb po n [] L F ∧ Nw w W ∧ w.heap.size ≤ o ∧ w.heap.size ≤ mb
theorem dnew_made {w : World} {po n : Nat} {L : List Bool} {F : Nat → Prop} (h : Pol w po L F) (T : TypeId) :
    DNew w po n L F (.returned (.tuple #[.pointer (some ⟨w.heap.size + 1, 0, none⟩), .int .i64 0])) ((w.alloc (.map #[] 0)).alloc (.cells #[.pointer (some ⟨w.heap.size + 1, 0, none⟩), .int .i64 n, .pointer (some ⟨po, 0, none⟩), .map (some w.heap.size)] T)) := by
  have hs1 : (w.alloc (.map #[] 0)).heap.size = w.heap.size + 1 := by simp
  have hb := allocAt (w.alloc (.map #[] 0)) (.cells #[.pointer (some ⟨w.heap.size + 1, 0, none⟩), .int .i64 n, .pointer (some ⟨po, 0, none⟩), .map (some w.heap.size)] T)
  rw [hs1] at hb
  have hN : Nw w ((w.alloc (.map #[] 0)).alloc (.cells #[.pointer (some ⟨w.heap.size + 1, 0, none⟩), .int .i64 n, .pointer (some ⟨po, 0, none⟩), .map (some w.heap.size)] T)) := ((Nw.refl w).alloc _).alloc _
  have hM : MapH ((w.alloc (.map #[] 0)).alloc (.cells #[.pointer (some ⟨w.heap.size + 1, 0, none⟩), .int .i64 n, .pointer (some ⟨po, 0, none⟩), .map (some w.heap.size)] T)) w.heap.size [] := (MapH.made w).nw ((Nw.refl _).alloc _)
  generalize (w.alloc (.map #[] 0)).alloc (.cells #[.pointer (some ⟨w.heap.size + 1, 0, none⟩), .int .i64 n, .pointer (some ⟨po, 0, none⟩), .map (some w.heap.size)] T) = z at *
  have hF : ∀ k, F k → k < w.heap.size := h.own
  refine ⟨w.heap.size + 1, w.heap.size, rfl, ⟨?_, ?_, ?_, ?_, hlt hb, fun e => ?_, fun e => ?_, hM, List.Pairwise.nil, by simp, h.nw hN, by simp⟩, hN, Nat.le_succ _, Nat.le_refl _⟩
  · rw [hcell hb]; rfl
  · rw [hcell hb]; rfl
  · rw [hcell hb]; rfl
  · rw [hcell hb]; rfl
  · have := hF _ e; omega
  · have := hF _ e; omega
set_option maxRecDepth 10000 in
set_option maxHeartbeats 1000000 in
theorem new_d {w : World} {po : Nat} {L : List Bool} {F : Nat → Prop} (h : Pol w po L F) (n : Nat) (h1 : 1 ≤ n) (h2 : n ≤ 64) :
    Calls Tryz.prog 35 #[.int .i64 n, .pointer (some ⟨po, 0, none⟩)] w (DNew w po n L F) := by
  have hmm := @run_makeMap Tryz.prog
  have HD := Lib.hid (dnew_made (n := n) h 89)
  obtain ⟨g, v, l, hp, rfl⟩ := h
  have HG := Lib.hid (give_bad hp (-1) (hsL_neg L))
  have d1 : decide ((n : Int) < 1) = false := by simp; omega
  have d2 : decide ((64 : Int) < (n : Int)) = false := by simp; omega
  clear hp h1 h2
  go_enter Tryz.func35, Tryz.ntmps35
  go_wp2_with (go_at_call 67; refine HG.out.mono ?_; rintro e w' ⟨rfl, rfl⟩)
  exact bodyPost_ret (v := .tuple #[.pointer (some ⟨w.heap.size + 1, 0, none⟩), .int .i64 0]) (by simp [results, Tryz.results35, go_sem, *]) rfl HD.out
end Go.Proofs.YtodnlelnpidliaaGreat
end

/- The kit's Same of requests, SameHeads of equal heads. -/
section
namespace Go.Proofs.YtodnlelnpidliaaGreat
open Go.RowKit Go.Shelf
set_option linter.unusedVariables false      -- a contract need not use every name

theorem HdsAt.nw {w w' : World} {o : Nat} {v : Value} {hs : List Hq} (h : HdsAt w o v hs) (g : Nw w w') : HdsAt w' o v hs := by
  obtain ⟨lm, h1, h2, h3⟩ := h
  exact ⟨lm, onw h1 g, h2, fun x hx => (h3 x hx).nw g⟩
/-- How heads read, wherever they lie. -/
def HmRd (w : World) (v : Value) (lm : List Hm) : Prop := Rd 4 hmrow w v lm ∧ ∀ x ∈ lm, RqAt w (hmV x) x.h.q ∧ x.h.q.length ≤ 1000
theorem HdsAt.rd {w : World} {o : Nat} {v : Value} {hs : List Hq} (h : HdsAt w o v hs) : ∃ lm, HmRd w v lm ∧ lm.map Hm.h = hs := by
  obtain ⟨lm, h1, h2, h3⟩ := h
  exact ⟨lm, ⟨Own.rd elemHm.len h1, fun x hx => ⟨(h3 x hx).rd, (h3 x hx).len⟩⟩, h2⟩
end Go.Proofs.YtodnlelnpidliaaGreat
end

/- A range over a function that yields numbers out of a row of its own, which it has made ahead of the first one: the law. -/
section
namespace Go.Proofs.YtodnlelnpidliaaGreat
open Go.RowKit Go.Shelf

/-- What lies in S lies as it lay. -/
structure KpI (S : Nat → Prop) (A B : World) : Prop where
  size : A.heap.size ≤ B.heap.size
  same : ∀ k, S k → B.heap[k]? = A.heap[k]?
theorem KpI.refl (S : Nat → Prop) (A : World) : KpI S A A := ⟨Nat.le_refl _, fun _ _ => rfl⟩
theorem KpI.trans {S : Nat → Prop} {A B C : World} (h : KpI S A B) (k : KpI S B C) : KpI S A C := ⟨Nat.le_trans h.size k.size, fun i hi => (k.same i hi).trans (h.same i hi)⟩
theorem KpI.put {S : Nat → Prop} {A : World} {l : Nat} (o : Obj) (hl : ¬ S l) : KpI S A (A.putObj l o) := ⟨by simp, fun i hi => World.putObj_heap_other (fun e => hl (e ▸ hi))⟩
variable {F : Fence} {n : Nat} {P : Program}
end Go.Proofs.YtodnlelnpidliaaGreat
end
