
/- The developers' package queue: turns. -/
import Derived.Test.YtmciiobncfchlaaQvS
import Derived.Test.YtmciiobncfchlaaQvI
namespace Go.Proofs.Ytmciiobncfchlaa
open Go.RowKit
set_option linter.unusedVariables false      -- a contract need not use every name

def rqAt (q : List Rq) (x : Int) : Rq := q.getD x.toNat ⟨0, 0, 0, 0, 0⟩
def tC (q : List Rq) (x y : Int) : Int := toI (rqAt q x) (rqAt q y)
def isPl (q : List Rq) (x : Int) : Prop := ∃ k : Nat, x = k ∧ k < q.length
theorem rqAt_nat (q : List Rq) (k : Nat) (hk : k < q.length) : rqAt q (k : Int) = q[k] := by unfold rqAt; simp [List.getD, hk]
/-- The places of those that wait, among the first k. -/
def wpl (q : List Rq) : Nat → List Int
  | 0 => []
  | k + 1 => if 0 < (rqAt q k).sn then wpl q k ++ [(k : Int)] else wpl q k
theorem wpl_mem (q : List Rq) (x : Int) : ∀ k, x ∈ wpl q k ↔ ∃ j : Nat, j < k ∧ x = j ∧ 0 < (rqAt q x).sn
  | 0 => by simp [wpl]
  | k + 1 => by
    unfold wpl
    split
    · rename_i h
      rw [List.mem_append, wpl_mem q x k, List.mem_singleton]
      constructor
      · rintro (⟨j, h1, h2, h3⟩ | rfl)
        · exact ⟨j, by omega, h2, h3⟩
        · exact ⟨k, by omega, rfl, h⟩
      · rintro ⟨j, h1, rfl, h3⟩
        by_cases e : j = k
        · exact .inr (by rw [e])
        · exact .inl ⟨j, by omega, rfl, h3⟩
    · rename_i h
      rw [wpl_mem q x k]
      constructor
      · rintro ⟨j, h1, h2, h3⟩; exact ⟨j, by omega, h2, h3⟩
      · rintro ⟨j, h1, rfl, h3⟩
        refine ⟨j, ?_, rfl, h3⟩
        rcases Nat.lt_or_ge j k with g | g
        · exact g
        · have : j = k := by omega
          subst this; exact absurd h3 h
theorem wpl_nodup (q : List Rq) : ∀ k, (wpl q k).Nodup
  | 0 => by simp [wpl]
  | k + 1 => by
    unfold wpl
    split
    · rw [List.nodup_append]
      refine ⟨wpl_nodup q k, by simp, fun a ha b hb => ?_⟩
      rw [List.mem_singleton] at hb
      obtain ⟨j, h1, h2, _⟩ := (wpl_mem q a k).1 ha
      omega
    · exact wpl_nodup q k
theorem wpl_len (q : List Rq) : ∀ k, (wpl q k).length ≤ k
  | 0 => by simp [wpl]
  | k + 1 => by
    unfold wpl
    have := wpl_len q k
    split <;> simp <;> omega
theorem wpl_pl (q : List Rq) : ∀ x ∈ wpl q q.length, isPl q x := fun x hx => by
  obtain ⟨j, h1, h2, _⟩ := (wpl_mem q x _).1 hx
  exact ⟨j, h2, h1⟩
set_option maxRecDepth 100000 in
set_option maxHeartbeats 2000000 in
theorem dTurns1 {w : World} {g0 p b n : Nat} {t r W : Int} {v : Value} {q : List Rq} {c : Int → Int} (h : Ln w g0 p t r W v b n q c) (pb : Nat) (hpb : w.cell? ⟨pb, 0, none⟩ = some (.pointer (some ⟨p, 0, none⟩))) (x y : Int) (hx : isPl q x) (hy : isPl q y) :
    Calls Try.prog 90 #[.int .i64 x, .int .i64 y, .pointer (some ⟨pb, 0, none⟩)] w fun e w' => e = .returned (.int .i64 (tC q x y)) ∧ Nw w w' := by
  obtain ⟨i, rfl, hi⟩ := hx
  obtain ⟨j, rfl, hj⟩ := hy
  have hT := dByTurn q[i] q[j]
  unfold tC
  rw [rqAt_nat q i hi, rqAt_nat q j hj]
  obtain ⟨g, cap, rfl, _, hgl, hce⟩ := RqOwn.at h.own hi
  obtain ⟨g', cap', e, _, _, hde⟩ := RqOwn.at h.own hj
  simp only [Value.slice.injEq, Option.some.injEq, Addr.mk.injEq, and_true, true_and] at e
  obtain ⟨rfl, rfl⟩ := e
  have hii : (i : Int) < (q.length : Int) := by omega
  have hjj : (j : Int) < (q.length : Int) := by omega
  have hpl := hlt h.obj
  have hpbl := World.block_lt_of_cell? _ _ hpb
  have s0 : ∀ z, Nw w z → z.cell? ⟨pb, 0, none⟩ = some (.pointer (some ⟨p, 0, none⟩)) := fun z hz => hz.kp hpb
  have s1 : ∀ z, Nw w z → z.cell? ⟨p, 2, none⟩ = some (.slice (some ⟨g, 0, none⟩) q.length cap) := fun z hz => hz.kp (hcell (j := 2) h.obj)
  obtain ⟨V, hV⟩ : ∃ V, toI q[i] q[j] = V := ⟨_, rfl⟩
  rw [hV] at hT ⊢
  generalize q[i] = R at *
  generalize q[j] = S at *
  obtain ⟨a0, a1, a2, a3, a4⟩ := R
  obtain ⟨b0, b1, b2, b3, b4⟩ := S
  have m0 : ∀ z, Nw w z → z.cell? ⟨g, i * 5, none⟩ = some (.int .i64 a0) := fun z hz => hz.kp (hce 0 _ rfl)
  have m1 : ∀ z, Nw w z → z.cell? ⟨g, i * 5 + 1, none⟩ = some (.int .i64 a1) := fun z hz => hz.kp (hce 1 _ rfl)
  have m2 : ∀ z, Nw w z → z.cell? ⟨g, i * 5 + 2, none⟩ = some (.int .i64 a2) := fun z hz => hz.kp (hce 2 _ rfl)
  have m3 : ∀ z, Nw w z → z.cell? ⟨g, i * 5 + 3, none⟩ = some (.int .i64 a3) := fun z hz => hz.kp (hce 3 _ rfl)
  have m4 : ∀ z, Nw w z → z.cell? ⟨g, i * 5 + 4, none⟩ = some (.int .i64 a4) := fun z hz => hz.kp (hce 4 _ rfl)
  have n0 : ∀ z, Nw w z → z.cell? ⟨g, j * 5, none⟩ = some (.int .i64 b0) := fun z hz => hz.kp (hde 0 _ rfl)
  have n1 : ∀ z, Nw w z → z.cell? ⟨g, j * 5 + 1, none⟩ = some (.int .i64 b1) := fun z hz => hz.kp (hde 1 _ rfl)
  have n2 : ∀ z, Nw w z → z.cell? ⟨g, j * 5 + 2, none⟩ = some (.int .i64 b2) := fun z hz => hz.kp (hde 2 _ rfl)
  have n3 : ∀ z, Nw w z → z.cell? ⟨g, j * 5 + 3, none⟩ = some (.int .i64 b3) := fun z hz => hz.kp (hde 3 _ rfl)
  have n4 : ∀ z, Nw w z → z.cell? ⟨g, j * 5 + 4, none⟩ = some (.int .i64 b4) := fun z hz => hz.kp (hde 4 _ rfl)
  unfold rqV at hT
  have HT := Lib.hid hT
  clear hT hce hde h hpb hV
  have q1 := (Nw.refl w).drew1
  obtain ⟨wc, hwc⟩ : ∃ wc, w.drew = wc := ⟨_, rfl⟩
  go_enter Try.func90, Try.ntmps90
  go_wp2
  refine region_told [some true, some true, some true, some true, some true, some true, some true, some true, some true, some true, some true, some true, some true, some true, some true, some true, some false, none, some true] (Nw w) (by kernel_rfl) (by kernel_rfl) (by kernel_rfl) q1 ?_
  rw [hwc] at q1 ⊢
  clear hwc
  repeat (first
    | (refine HW.off ?_)
    | (refine HW.take' ?_; (apply Exists.intro; refine ⟨Or.inl ⟨by rfl, ?_⟩, ?_⟩; (intro x hx; go_simp; first | done | with_reducible rfl)); (try simp only [Act.put, List.setIfInBounds_toArray, List.set_cons_zero, List.set_cons_succ]))
    | (refine HW.go (fun K hK => ?_); go_simp; (go_at_call 80; (with_reducible refine (HT.out _).mono ?_); rintro e wy ⟨rfl, g2⟩; refine hK.out _ _ (q1.trans g2) ?_; intro _; replace q1 := q1.trans g2; clear hK K g2)))
  refine HW.end_ ?_
  refine NoPanic.normal ?_
  go_wp2
  go_ret
  exact ⟨rfl, q1⟩
theorem own_at {w : World} {v : Value} {l : List Int} (h : IS w v l) {m : Nat} (hf : ∀ g, v.ownBlock = some g → m ≤ g) : ∃ gi, (∀ g, v.ownBlock = some g → g = gi) ∧ m ≤ gi := by
  rcases h.form with ⟨rfl, _⟩ | ⟨g, cap, rfl⟩
  · exact ⟨m, fun g e => by simp [Value.ownBlock] at e, Nat.le_refl _⟩
  · exact ⟨g, fun g' e => (Option.some.inj e).symm, hf g rfl⟩
theorem e_turns1 : ∀ args w, (callFunc 90 args).run Try.prog w = .ok (.enter 90 args) w := enters_of Try.func90 (by kernel_rfl) rfl
set_option maxRecDepth 100000 in
set_option maxHeartbeats 4000000 in
theorem dTurns {w : World} {g0 p b n : Nat} {t r W : Int} {v : Value} {q : List Rq} {c : Int → Int} (h : Ln w g0 p t r W v b n q c) (hl : q.length ≤ 1000) (hst : StOk (tC q) (wpl q q.length)) :
    Calls Try.prog 78 #[.pointer (some ⟨p, 0, none⟩)] w fun e w' => ∃ v', e = .returned v' ∧ Nw w w' ∧ IS w' v' (stR (tC q) (wpl q q.length)) ∧ ∀ g, v'.ownBlock = some g → w.heap.size ≤ g := by
  have hWt := dWaits
  have hB : (w.alloc (.cells #[.pointer (some ⟨p, 0, none⟩)] 68)).cell? ⟨w.heap.size, 0, none⟩ = some (.pointer (some ⟨p, 0, none⟩)) := hcell (j := 0) (allocAt w _)
  have hN1 : Nw w (w.alloc (.cells #[.pointer (some ⟨p, 0, none⟩)] 68)) := (Nw.refl w).alloc _
  obtain ⟨w1, hw1⟩ : ∃ w1, w.alloc (.cells #[.pointer (some ⟨p, 0, none⟩)] 68) = w1 := ⟨_, rfl⟩
  have hs1 : w1.heap.size = w.heap.size + 1 := by rw [← hw1]; simp
  rw [hw1] at hB hN1
  have hL1 := h.nw hN1
  have HW1 := Lib.hid hw1
  have HL := Lib.hid (And.intro hL1 (And.intro hN1 (And.intro hs1 hB)))
  obtain ⟨a0, c0, rfl⟩ := (RqOwn.rd h.own).form
  have hp0 := hlt h.obj
  have m20 := hcell (j := 2) h.obj
  have hpb := World.block_lt_of_cell? _ _ hB
  have hB0 := hB
  clear h hw1 hL1 hs1 hN1
  go_enter Try.func78, Try.ntmps78
  go_wp2
  rw [HW1.out]
  have HW := Lib.hid hWt
  clear hWt hp0 m20 HW1 hpb hB hB0
  go_loopw [3, 12] (fun x i wr => ∃ (k : Nat), k ≤ q.length ∧ i = .int .i64 k ∧ IS wr x (wpl q k) ∧ Nw w1 wr ∧ ∀ g, x.ownBlock = some g → w1.heap.size ≤ g) (fun _ i _ => q.length - (intOf i).toNat)
  case atStart => exact ⟨0, Nat.zero_le _, rfl, IS.nil _, Nw.refl _, fun g e => by simp [Value.ownBlock] at e⟩
  case round =>
    obtain ⟨k, hk, rfl, hI, hN, hfr⟩ := hrel
    by_cases hlt : k < q.length
    · obtain ⟨g, cap, e, _, hgl, hce⟩ := RqOwn.at (onw HL.out.1.own hN) hlt
      simp only [Value.slice.injEq, true_and] at e
      obtain ⟨rfl, rfl⟩ := e
      have hki : (k : Int) < (q.length : Int) := by omega
      have hstep : wpl q (k + 1) = if 0 < (q[k]).sn then wpl q k ++ [(k : Int)] else wpl q k := by
        show (if 0 < (rqAt q k).sn then wpl q k ++ [(k : Int)] else wpl q k) = _
        rw [rqAt_nat q k hlt]
      have HWk := Lib.hid (HW.out q[k])
      generalize q[k] = R at *
      obtain ⟨b0, b1, b2, b3, b4⟩ := R
      have e0 := hce 0 _ rfl
      have e1 := hce 1 _ rfl
      have e2 := hce 2 _ rfl
      have e3 := hce 3 _ rfl
      have e4 := hce 4 _ rfl
      simp only [Nat.add_zero] at e0
      have g6 : Nw wr (wr.alloc (.cells #[.int .i64 b0, .int .i64 b1, .int .i64 b2, .int .i64 b3, .int .i64 b4] 41)) := (Nw.refl wr).alloc _
      unfold rqV at HWk
      simp only at HWk hstep
      obtain ⟨w6, hw6⟩ : ∃ w6, wr.alloc (.cells #[.int .i64 b0, .int .i64 b1, .int .i64 b2, .int .i64 b3, .int .i64 b4] 41) = w6 := ⟨_, rfl⟩
      have hq6 := RqB.made wr b0 b1 b2 b3 b4 41
      rw [hw6] at g6 hq6
      obtain ⟨hlq, y0, y1, y2, y3, y4⟩ := hq6
      have HI := Lib.hid (And.intro (hI.nw g6) (And.intro (hN.trans g6) hfr))
      have HW6 := Lib.hid hw6
      clear hce hI hN hfr g6 hw6
      by_cases hs : 0 < b4
      · have ds : decide (0 < b4) = true := by simpa using hs
        rw [ds] at HWk
        rw [if_pos hs] at hstep
        have HS := Lib.hid hstep
        clear hs ds hstep
        go_wp2_with fail
        rw [HW6.out]
        go_wp2_with fail
        go_at_call 42
        refine (HWk.out _).mono ?_
        rintro e w7 ⟨rfl, g7⟩
        have hI7 := HI.out.1.nw g7
        obtain ⟨v', w8, hr, q1, q2, q3, ⟨g', cap', hv'⟩⟩ := IS.push w7 _ (wpl q k) k hI7 (by have := wpl_len q k; omega)
        have HR := Lib.hid hr
        have HE : Hid (IS w8 v' (wpl q (k + 1)) ∧ Nw w1 w8 ∧ ∀ g, v'.ownBlock = some g → w1.heap.size ≤ g) := Lib.hid ⟨by rw [HS.out]; exact q1, nw_tch (HI.out.2.1.trans g7) q2 (fun i e => HI.out.2.2 i e), fun g e => by
          rcases q3 g e with h | h
          · exact HI.out.2.2 g h
          · have := (HI.out.2.1.trans g7).sz; omega⟩
        clear hr q1 q2 q3 hI7 g7 y0 y1 y2 y3 y4 hlq e0 e1 e2 e3 e4 hv'
        go_wp2_with (at_builtin; (refine wpl_app (by rfl) (.tmp 19) (.tmp 21) 36 rfl _ _ _ _ rfl rfl HR.out ?_))
        go_roundw
        case rel => exact ⟨k + 1, by omega, by go_num, HE.out⟩
        case measure => simp [intOf]; omega
      · have ds : decide (0 < b4) = false := by simpa using hs
        rw [ds] at HWk
        rw [if_neg hs] at hstep
        have HS := Lib.hid hstep
        clear hs ds hstep
        go_wp2_with fail
        rw [HW6.out]
        go_wp2_with fail
        go_at_call 42
        refine (HWk.out _).mono ?_
        rintro e w7 ⟨rfl, g7⟩
        have HE := Lib.hid g7
        clear g7 y0 y1 y2 y3 y4 hlq e0 e1 e2 e3 e4
        go_wp2
        go_roundw
        case rel => exact ⟨k + 1, by omega, by go_num, by rw [HS.out]; exact HI.out.1.nw HE.out, HI.out.2.1.trans HE.out, HI.out.2.2⟩
        case measure => simp [intOf]; omega
    · obtain rfl : k = q.length := by omega
      obtain ⟨gi, hgi, hge⟩ := own_at hI hfr
      have hCm : Cmps wr (.func (.func 90) #[] #[.pointer (some ⟨w.heap.size, 0, none⟩)]) gi (tC q) (isPl q) :=
        ⟨_, _, rfl, e_turns1, fun x y w2 hx hy hT => by
          have hN2 := nw_tch hN hT (fun i e => by subst e; exact hge)
          exact dTurns1 (HL.out.1.nw hN2) w.heap.size (hN2.kp HL.out.2.2.2) x y hx hy⟩
      have HS := Lib.hid (dStable _ (tC q) (isPl q) _ (wpl q q.length) wr gi hst hI (wpl_pl q) hCm hgi)
      have HE := Lib.hid (And.intro hN hfr)
      clear hI hN hfr hgi hge hCm hst
      go_wp2_with (go_at_call 89; refine HS.out.mono ?_; rintro e w9 ⟨rfl, hI9, hT9⟩)
      go_ret
      exact ⟨_, rfl, HL.out.2.1.trans (nw_tch HE.out.1 hT9 (fun i e => HE.out.2 i e)), hI9, fun g e => by have := HE.out.2 g e; have := HL.out.2.2.1; omega⟩
end Go.Proofs.Ytmciiobncfchlaa
