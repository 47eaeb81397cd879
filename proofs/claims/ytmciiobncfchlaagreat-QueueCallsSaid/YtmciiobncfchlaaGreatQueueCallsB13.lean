/- Texts merged: QwB, QwC, QwD, QwE, QwF, QwG, QwH, QwI, QwJ, QwK, QcC -/
import Derived.Test.YtmciiobncfchlaaGreatQueueCallsB12
import Derived.Maps.OwnSet

/- The developers' package queue: Blockers. -/
section
namespace Go.Proofs.YtmciiobncfchlaaGreat
open Go.RowKit
set_option linter.unusedVariables false      -- a contract need not use every name

/-- Because of whom a request waits, in the order of the queue. -/
def bkC (S R : Rq) : Bool := !(R.id == S.id) && ((decide (0 < R.sn) && decide (toI R S < 0)) || !cpI R.md S.wt)
def bkT (q : List Rq) (S : Rq) (k : Nat) : List Int := ((q.take k).filter (bkC S)).map fun R => R.txn
theorem bkT_succ (q : List Rq) (S : Rq) (k : Nat) (hk : k < q.length) : bkT q S (k + 1) = if bkC S q[k] = true then bkT q S k ++ [q[k].txn] else bkT q S k := by
  unfold bkT
  rw [List.take_add_one, List.getElem?_eq_getElem hk, List.filter_append, List.map_append]
  by_cases e : bkC S q[k] = true
  · rw [if_pos e]; simp [e]
  · rw [if_neg e]; simp at e; simp [e]
theorem bkT_len (q : List Rq) (S : Rq) (k : Nat) : (bkT q S k).length ≤ q.length := by
  unfold bkT
  rw [List.length_map]
  exact Nat.le_trans (List.length_filter_le _ _) (by rw [List.length_take]; omega)
theorem bk_blk {W : Int} {q : List Rq} (h : Ok W q) {S R : Rq} (hS : S ∈ q) (hR : R ∈ q) (hw : 0 < S.sn) (ne : R.id ≠ S.id) : bkC S R = blk S R := by
  have h1 := h.rt R hR
  have h2 := h.rt S hS
  have hz : R.md = 0 → 0 < R.sn := fun e => by
    rcases Int.lt_or_eq_of_le h1.s0 with g | g
    · exact g
    · exact absurd e (h1.h g.symm).1
  have hc0 : R.md = 0 → cpI R.md S.wt = true := fun e => by rw [e]; exact cp_zero _ h2.wt
  unfold bkC blk
  rw [Bool.eq_iff_iff]
  simp only [Bool.and_eq_true, Bool.or_eq_true, Bool.not_eq_true', beq_eq_false_iff_ne, ne_eq, decide_eq_true_eq, bne_iff_ne, beq_iff_eq, ahead_iff]
  constructor
  · rintro ⟨_, ⟨a, b | b⟩ | b⟩
    · exact .inl (.inr ⟨⟨b.1, a⟩, .inl b.2⟩)
    · by_cases e : R.md = 0
      · exact .inr ⟨⟨b.1.1 e, e⟩, b.2⟩
      · exact .inl (.inr ⟨⟨e, a⟩, .inr b.2⟩)
    · by_cases e : R.md = 0
      · rw [hc0 e] at b; cases b
      · exact .inl (.inl ⟨e, b⟩)
  · rintro ((⟨a, b⟩ | ⟨⟨a, b⟩, c⟩) | ⟨⟨a, b⟩, c⟩)
    · exact ⟨ne, .inr b⟩
    · refine ⟨ne, .inl ⟨b, ?_⟩⟩
      by_cases e : S.md = 0
      · exact .inl ⟨a, e⟩
      · rcases c with c | c
        · exact absurd c e
        · exact .inr ⟨by simp [a, e], c⟩
    · exact ⟨ne, .inl ⟨hz b, .inr ⟨by simp [a, b], c⟩⟩⟩
theorem bk_all {W : Int} {q : List Rq} (h : Ok W q) {S : Rq} (hS : S ∈ q) (hw : 0 < S.sn) : Lib.compact ((bkT q S q.length).mergeSort fun x y => decide (x ≤ y)) = blkL q S := by
  obtain ⟨h1, h2⟩ := cmp_sorted (bkT q S q.length)
  refine sorted_ext h1 (blkL_sorted q S) (fun x => ?_)
  rw [h2 x, blkL_mem]
  unfold bkT
  rw [List.take_of_length_le (Nat.le_refl _), List.mem_map]
  constructor
  · rintro ⟨R, hR, e⟩
    obtain ⟨hR, hc⟩ := List.mem_filter.1 hR
    have ne : R.id ≠ S.id := by unfold bkC at hc; simp at hc; exact hc.1
    exact ⟨R, hR, ne, by rw [← bk_blk h hS hR hw ne]; exact hc, e⟩
  · rintro ⟨R, hR, ne, hc, e⟩
    exact ⟨R, List.mem_filter.2 ⟨hR, by rw [bk_blk h hS hR hw ne]; exact hc⟩, e⟩
set_option maxRecDepth 100000 in
set_option maxHeartbeats 8000000 in
theorem dBlockers (t r W id : Int) (v : Value) (q : List Rq) (w : World) (hl : q.length ≤ 1000) (hok : Ok W q) (h : RqAt w v q) :
    Calls Tryz.prog 28 #[hdV t r v W, .int .i64 id] w fun e w' => ∃ v', e = .returned v' ∧ Nw w w' ∧ IS w' v' (blkR q id) := by
  have HOk := Lib.hid hok
  have HAt := Lib.hid h
  clear hok
  obtain ⟨X, hX⟩ : ∃ X, blkR q id = X := ⟨_, rfl⟩
  rw [hX]
  have HFq := Lib.hid (fun (z : World) (g : Nw w z) => dFindQ t r W id v q z hl (h.nw g))
  obtain ⟨a, c, rfl, _⟩ := h
  unfold hdV at HFq ⊢
  have hx1 := allocAt w (.cells #[.int .i64 t, .int .i64 r, .slice a q.length c, .int .i64 W] 26)
  have hN : Nw w (w.alloc (.cells #[.int .i64 t, .int .i64 r, .slice a q.length c, .int .i64 W] 26)) := (Nw.refl w).alloc _
  obtain ⟨w1, hw1⟩ : ∃ w1, w.alloc (.cells #[.int .i64 t, .int .i64 r, .slice a q.length c, .int .i64 W] 26) = w1 := ⟨_, rfl⟩
  rw [hw1] at hx1 hN
  have HW1 := Lib.hid hw1
  have HB := Lib.hid (And.intro hx1 hN)
  have HFq1 := Lib.hid (HFq.out w1 hN)
  have c0 := hcell (j := 0) hx1
  have c1 := hcell (j := 1) hx1
  have c2 := hcell (j := 2) hx1
  have c3 := hcell (j := 3) hx1
  have hpl := hlt hx1
  clear hw1 hx1 hN HFq
  unfold fndV at HFq1
  cases hf : fnd q id with
  | none =>
    rw [hf] at HFq1
    simp only at HFq1
    have hR := hX.symm.trans (show blkR q id = [] by unfold blkR; rw [hf])
    subst hR
    unfold rqV at HFq1
    clear hX hf
    go_enter Tryz.func28, Tryz.ntmps28
    go_wp2_with fail
    rw [HW1.out]
    go_wp2_with fail
    go_at_call 21
    refine HFq1.out.mono ?_
    rintro e w2 ⟨rfl, g2⟩
    have HG := Lib.hid (HB.out.2.trans g2)
    clear c0 c1 c2 c3 hpl g2 HFq1
    go_wp2
    go_ret
    exact ⟨_, rfl, HG.out.alloc _, IS.nil _⟩
  | some S =>
    rw [hf] at HFq1
    simp only at HFq1
    have hS := (fnd_is hf).1
    have hSi := (fnd_is hf).2
    have hX1 : ¬ 0 < S.sn → X = [] := fun s => hX.symm.trans (by unfold blkR; rw [hf]; exact if_neg s)
    have hX2 : 0 < S.sn → X = blkL q S := fun s => hX.symm.trans (by unfold blkR; rw [hf]; exact if_pos s)
    have HX1 := Lib.hid hX1
    have HX2 := Lib.hid hX2
    have HSq := Lib.hid (And.intro hS hSi)
    have HWa := Lib.hid (fun z => dWaits S z)
    have HAh := Lib.hid (fun z => dAheadOf S z)
    clear hX hf hX1 hX2 hS hSi
    have HSv : Hid (S = ⟨S.id, S.txn, S.md, S.wt, S.sn⟩) := Lib.hid rfl
    obtain ⟨s0, s1, s2, s3, s4⟩ := S
    simp only at HX1 HX2 HAh HSq
    unfold rqV at HFq1 HWa HAh
    clear HSv
    go_enter Tryz.func28, Tryz.ntmps28
    go_wp2_with fail
    rw [HW1.out]
    go_wp2_with fail
    go_at_call 21
    refine HFq1.out.mono ?_
    rintro e w2 ⟨rfl, g2⟩
    have hb3 := RqB.made w2 s0 s1 s2 s3 s4 42
    obtain ⟨w3, hw3⟩ : ∃ w3, w2.alloc (.cells #[.int .i64 s0, .int .i64 s1, .int .i64 s2, .int .i64 s3, .int .i64 s4] 42) = w3 := ⟨_, rfl⟩
    have g3 : Nw w2 w3 := by rw [← hw3]; exact (Nw.refl w2).alloc _
    rw [hw3] at hb3
    have HW3 := Lib.hid hw3
    have HB3 := Lib.hid (And.intro hb3 (And.intro ((HB.out.2.trans g2).trans g3) (g3.at' (g2.at' HB.out.1))))
    obtain ⟨yl, y0, y1, y2, y3, y4⟩ := hb3
    clear c0 c1 c2 c3 hpl g2 g3 hw3 HFq1
    go_wp2_with fail
    rw [HW3.out]
    go_wp2_with fail
    go_at_call 51
    refine (HWa.out _).mono ?_
    rintro e w4 ⟨rfl, g4⟩
    have HB4 := Lib.hid (And.intro (HB3.out.1.nw g4) (And.intro (HB3.out.2.1.trans g4) (g4.at' HB3.out.2.2)))
    clear yl y0 y1 y2 y3 y4 g4 HWa
    by_cases hs : 0 < s4
    rotate_left
    · have ds : decide (0 < s4) = false := by simpa using hs
      have hR := HX1.out (by first | exact hs | exact Int.not_lt.1 hs)
      subst hR
      clear hs HX1 HX2
      go_wp2
      go_ret
      exact ⟨_, rfl, HB4.out.2.1, IS.nil _⟩
    have ds : decide (0 < s4) = true := by simpa using hs
    have hR := HX2.out hs
    have HAll := Lib.hid (bk_all HOk.out HSq.out.1 hs)
    rw [← hR] at HAll
    obtain ⟨yl, y0, y1, y2, y3, y4⟩ := HB4.out.1
    clear hs HX1 HX2 hR
    go_wp2_with fail
    go_at_call 61
    refine (HAh.out _).mono ?_
    rintro e w5 ⟨pa, rfl, g5, hbx⟩
    obtain ⟨g, lb, hfv, eg, hT⟩ := Tells.ahead (S := ⟨s0, s1, s2, s3, s4⟩) hbx
    have HT := Lib.hid hT
    have HB5 := Lib.hid (And.intro (HB4.out.1.nw g5) (And.intro (HB4.out.2.1.trans g5) (g5.at' HB4.out.2.2)))
    have c2 := hcell (j := 2) HB5.out.2.2
    have hpl := hlt HB5.out.2.2
    rw [hfv]
    clear yl y0 y1 y2 y3 y4 g5 hbx hT hfv HAh ds
    go_wp2
    clear c2 hpl
    go_loopw [8, 29] (fun x i wr => ∃ k : Nat, k ≤ q.length ∧ i = .int .i64 k ∧ IS wr x (bkT q ⟨s0, s1, s2, s3, s4⟩ k) ∧ Nw w5 wr ∧ ∀ g, x.ownBlock = some g → w5.heap.size ≤ g) (fun _ i _ => q.length - (intOf i).toNat)
    case atStart => exact ⟨0, Nat.zero_le _, rfl, IS.nil _, Nw.refl _, fun g e => by simp [Value.ownBlock] at e⟩
    case round =>
      obtain ⟨k, hk, rfl, hI, hN, hfr⟩ := hrel
      by_cases hlk : k < q.length
      · obtain ⟨a', c', e, ⟨e4, _⟩ | ⟨b, o, e4, hc⟩⟩ := (HAt.out.nw (HB5.out.2.1.trans hN))
        · subst e4; simp at hlk
        simp only [Value.slice.injEq, true_and] at e
        obtain ⟨rfl, rfl⟩ := e
        subst e4
        have hki : (k : Int) < (q.length : Int) := by omega
        have hstep := bkT_succ q ⟨s0, s1, s2, s3, s4⟩ k hlk
        have hce := hc.cell k hlk
        have HKn := Lib.hid (And.intro (HOk.out.rt _ (List.getElem_mem hlk)).md (HOk.out.rt _ HSq.out.1).wt)
        have HTk := Lib.hid (fun (z : World) (g : Nw w5 z) => HT.out q[k] z g)
        generalize q[k] = R at *
        obtain ⟨b0, b1, b2, b3, b4⟩ := R
        unfold rqV at HTk
        have e0 := hce 0 _ rfl
        have e1 := hce 1 _ rfl
        have e2 := hce 2 _ rfl
        have e3 := hce 3 _ rfl
        have e4 := hce 4 _ rfl
        simp only [Nat.add_zero] at e0
        simp only at hstep HTk HKn
        have hbk : bkC ⟨s0, s1, s2, s3, s4⟩ ⟨b0, b1, b2, b3, b4⟩ = (!(b0 == s0) && ((decide (0 < b4) && decide (toI ⟨b0, b1, b2, b3, b4⟩ ⟨s0, s1, s2, s3, s4⟩ < 0)) || !cpI b2 s3)) := rfl
        have g6 : Nw wr (wr.alloc (.cells #[.int .i64 b0, .int .i64 b1, .int .i64 b2, .int .i64 b3, .int .i64 b4] 42)) := (Nw.refl wr).alloc _
        obtain ⟨w6, hw6⟩ : ∃ w6, wr.alloc (.cells #[.int .i64 b0, .int .i64 b1, .int .i64 b2, .int .i64 b3, .int .i64 b4] 42) = w6 := ⟨_, rfl⟩
        have hs6 : w6.heap.size = wr.heap.size + 1 := by rw [← hw6]; simp
        have hq6 := RqB.made wr b0 b1 b2 b3 b4 42
        rw [hw6] at g6 hq6
        have HQ6 := Lib.hid hq6
        obtain ⟨hlq, x0, x1, x2, x3, x4⟩ := hq6
        have HI := Lib.hid (And.intro (hI.nw g6) (And.intro (hN.trans g6) hfr))
        have HW6 := Lib.hid hw6
        have HCp := Lib.hid (fun z => dCp b2 s3 z HKn.out.1 HKn.out.2)
        obtain ⟨A, hA⟩ : ∃ A, (decide (0 < b4) && decide (toI ⟨b0, b1, b2, b3, b4⟩ ⟨s0, s1, s2, s3, s4⟩ < 0)) = A := ⟨_, rfl⟩
        obtain ⟨B, hB⟩ : ∃ B, cpI b2 s3 = B := ⟨_, rfl⟩
        rw [hA] at hbk HTk
        rw [hB] at hbk HCp
        have hy3 : ∀ z, Nw w5 z → z.cell? ⟨w2.heap.size, 3, none⟩ = some (.int .i64 s3) := fun z hz => hz.kp HB5.out.1.c3
        clear hce hI hN hfr g6 hw6 hA hB hc
        by_cases hi : b0 = s0
        · have di : (b0 != id) = false := by have := HSq.out.2; simp [hi, this]
          have hst : bkT q ⟨s0, s1, s2, s3, s4⟩ (k + 1) = bkT q ⟨s0, s1, s2, s3, s4⟩ k := by rw [hstep, if_neg (by rw [hbk]; simp [hi])]
          have HS := Lib.hid hst
          clear hstep hst hi hbk
          go_wp2_with fail
          go_roundw
          case rel => exact ⟨k + 1, by omega, by go_num, by rw [HS.out]; first | exact HI.out.1 | (rw [HW6.out]; exact HI.out.1), by first | exact HI.out.2.1 | (rw [HW6.out]; exact HI.out.2.1), HI.out.2.2⟩
          case measure => simp [intOf]; omega
        · have di : (b0 != id) = true := by have := HSq.out.2; rw [← this]; simpa using hi
          have hnb : (b0 == s0) = false := by simpa using hi
          rw [hnb] at hbk
          clear hi hnb
          cases A
          · cases B
            · -- stands in the way by what it holds
              have hst : bkT q ⟨s0, s1, s2, s3, s4⟩ (k + 1) = bkT q ⟨s0, s1, s2, s3, s4⟩ k ++ [b1] := by rw [hstep, if_pos (by rw [hbk]; rfl)]
              have HS := Lib.hid hst
              clear hstep hst hbk
              go_wp2_with fail
              rw [HW6.out]
              go_wp2_with fail
              go_at_fn g
              refine (HTk.out _ HI.out.2.1).mono ?_
              rintro e w7 ⟨rfl, g7⟩
              have hz3 := hy3 _ (HI.out.2.1.trans g7)
              have hzl := World.block_lt_of_cell? _ _ hz3
              obtain ⟨zl, z0, z1, z2, z3, z4⟩ := HQ6.out.nw g7
              have G7 := Lib.hid g7
              clear x0 x1 x2 x3 x4 hlq e0 e1 e2 e3 e4 g7
              go_wp2_with fail
              go_at_call 62
              refine (HCp.out _).mono ?_
              rintro e w8 ⟨rfl, g8⟩
              have hI8 := HI.out.1.nw (G7.out.trans g8)
              obtain ⟨v', w9, hr, q1, q2, q3, ⟨g', cap', hv'⟩⟩ := IS.push w8 _ (bkT q ⟨s0, s1, s2, s3, s4⟩ k) b1 hI8 (by have := bkT_len q ⟨s0, s1, s2, s3, s4⟩ k; omega)
              have HR := Lib.hid hr
              have HN8 := Lib.hid ((HI.out.2.1.trans G7.out).trans g8)
              have HE : Hid (IS w9 v' (bkT q ⟨s0, s1, s2, s3, s4⟩ (k + 1)) ∧ Nw w5 w9 ∧ ∀ g, v'.ownBlock = some g → w5.heap.size ≤ g) := Lib.hid ⟨by rw [HS.out]; exact q1, nw_tch HN8.out q2 (fun i e => HI.out.2.2 i e), fun g e => by
                rcases q3 g e with h | h
                · exact HI.out.2.2 g h
                · have := HN8.out.sz; omega⟩
              obtain ⟨zl', z0', z1', z2', z3', z4'⟩ := (HQ6.out.nw G7.out).nw g8
              clear hr q1 q2 q3 hI8 g8 hv' zl z0 z1 z2 z3 z4 hz3 hzl
              go_wp2_with (at_builtin; (refine wpl_app (by rfl) (.tmp 50) (.tmp 53) 48 rfl _ _ _ _ rfl rfl HR.out ?_))
              go_roundw
              case rel => exact ⟨k + 1, by omega, by go_num, HE.out⟩
              case measure => simp [intOf]; omega
            · have hst : bkT q ⟨s0, s1, s2, s3, s4⟩ (k + 1) = bkT q ⟨s0, s1, s2, s3, s4⟩ k := by rw [hstep, if_neg (by rw [hbk]; simp)]
              have HS := Lib.hid hst
              clear hstep hst hbk
              go_wp2_with fail
              rw [HW6.out]
              go_wp2_with fail
              go_at_fn g
              refine (HTk.out _ HI.out.2.1).mono ?_
              rintro e w7 ⟨rfl, g7⟩
              have hz3 := hy3 _ (HI.out.2.1.trans g7)
              have hzl := World.block_lt_of_cell? _ _ hz3
              obtain ⟨zl, z0, z1, z2, z3, z4⟩ := HQ6.out.nw g7
              have G7 := Lib.hid g7
              clear x0 x1 x2 x3 x4 hlq e0 e1 e2 e3 e4 g7
              go_wp2_with fail
              go_at_call 62
              refine (HCp.out _).mono ?_
              rintro e w8 ⟨rfl, g8⟩
              have G8 := Lib.hid (G7.out.trans g8)
              clear g8 zl z0 z1 z2 z3 z4 hz3 hzl
              go_wp2
              go_roundw
              case rel => exact ⟨k + 1, by omega, by go_num, by rw [HS.out]; exact HI.out.1.nw G8.out, HI.out.2.1.trans G8.out, HI.out.2.2⟩
              case measure => simp [intOf]; omega
          · have hst : bkT q ⟨s0, s1, s2, s3, s4⟩ (k + 1) = bkT q ⟨s0, s1, s2, s3, s4⟩ k ++ [b1] := by rw [hstep, if_pos (by rw [hbk]; simp)]
            have HS := Lib.hid hst
            clear hstep hst hbk
            go_wp2_with fail
            rw [HW6.out]
            go_wp2_with fail
            go_at_fn g
            refine (HTk.out _ HI.out.2.1).mono ?_
            rintro e w8 ⟨rfl, g8⟩
            have hI8 := HI.out.1.nw g8
            obtain ⟨v', w9, hr, q1, q2, q3, ⟨g', cap', hv'⟩⟩ := IS.push w8 _ (bkT q ⟨s0, s1, s2, s3, s4⟩ k) b1 hI8 (by have := bkT_len q ⟨s0, s1, s2, s3, s4⟩ k; omega)
            have HR := Lib.hid hr
            have HN8 := Lib.hid (HI.out.2.1.trans g8)
            have HE : Hid (IS w9 v' (bkT q ⟨s0, s1, s2, s3, s4⟩ (k + 1)) ∧ Nw w5 w9 ∧ ∀ g, v'.ownBlock = some g → w5.heap.size ≤ g) := Lib.hid ⟨by rw [HS.out]; exact q1, nw_tch HN8.out q2 (fun i e => HI.out.2.2 i e), fun g e => by
              rcases q3 g e with h | h
              · exact HI.out.2.2 g h
              · have := HN8.out.sz; omega⟩
            obtain ⟨zl', z0', z1', z2', z3', z4'⟩ := HQ6.out.nw g8
            clear hr q1 q2 q3 hI8 g8 hv' x0 x1 x2 x3 x4 hlq e0 e1 e2 e3 e4
            go_wp2_with (at_builtin; (refine wpl_app (by rfl) (.tmp 50) (.tmp 53) 48 rfl _ _ _ _ rfl rfl HR.out ?_))
            go_roundw
            case rel => exact ⟨k + 1, by omega, by go_num, HE.out⟩
            case measure => simp [intOf]; omega
      · obtain rfl : k = q.length := by omega
        have HSo := Lib.hid (dSortI _ _ _ hI (Nat.le_trans (bkT_len q _ _) hl))
        have HE := Lib.hid (And.intro hN hfr)
        clear hI hN hfr
        go_wp2_with fail
        go_at_call 63
        refine HSo.out.mono ?_
        rintro e w9 ⟨rfl, hI9, hT9⟩
        have HCm := Lib.hid (dCompactI _ _ _ hI9 (by rw [List.length_mergeSort]; exact Nat.le_trans (bkT_len q _ _) hl))
        have HN9 := Lib.hid (nw_tch HE.out.1 hT9 (fun i e => HE.out.2 i e))
        clear hI9 hT9
        go_wp2_with fail
        go_at_call 64
        refine HCm.out.mono ?_
        rintro e w10 ⟨v10, rfl, hI10, _, hT10⟩
        have HZ := Lib.hid (And.intro hI10 (nw_tch HN9.out hT10 (fun i e => HE.out.2 i e)))
        clear hI10 hT10
        go_wp2
        go_ret
        exact ⟨_, rfl, HB5.out.2.1.trans HZ.out.2, by rw [← HAll.out]; exact HZ.out.1⟩
end Go.Proofs.YtmciiobncfchlaaGreat
end

/- The developers' package queue: what a request of a valid head is. -/
section
namespace Go.Proofs.YtmciiobncfchlaaGreat
open Go.RowKit
set_option linter.unusedVariables false      -- a contract need not use every name

theorem dKnownS (m : Int) (w : World) : Calls Tryz.prog 79 #[.int .i64 m] w fun e w' => e = .returned (.bool (knI m)) ∧ w = w' := by
  by_cases h : 0 ≤ m ∧ m < 7
  · refine (known_yes m w h.1 h.2).mono ?_
    rintro e w' ⟨rfl, rfl⟩
    exact ⟨by rw [(knI_iff m).2 h], rfl⟩
  · refine (known_no m w (by omega)).mono ?_
    rintro e w' ⟨rfl, rfl⟩
    have : knI m = false := by
      cases e : knI m with
      | false => rfl
      | true => exact absurd ((knI_iff m).1 e) h
    exact ⟨by rw [this], rfl⟩
theorem dCovers (a b : Int) (w : World) : Calls Tryz.prog 92 #[.int .i64 a, .int .i64 b] w fun e w' => e = .returned (.bool (cvI a b)) ∧ Nw w w' := by
  have K1 := Lib.hid (fun w => dKnownS a w)
  have K2 := Lib.hid (fun w => dKnownS b w)
  unfold cvI
  cases h1 : knI a with
  | false =>
    rw [h1] at K1
    go_enter Tryz.func92, Tryz.ntmps92
    go_wp2_with (go_at_call 79; refine (K1.out _).mono ?_; rintro e w' ⟨rfl, rfl⟩)
    go_ret
    exact ⟨rfl, Nw.refl _⟩
  | true =>
    rw [h1] at K1
    cases h2 : knI b with
    | false =>
      rw [h2] at K2
      go_enter Tryz.func92, Tryz.ntmps92
      go_wp2_with fail
      go_at_call 79
      refine (K1.out _).mono ?_
      rintro e w' ⟨rfl, rfl⟩
      go_wp2_with fail
      go_at_call 79
      refine (K2.out _).mono ?_
      rintro e w' ⟨rfl, rfl⟩
      go_wp2
      go_ret
      exact ⟨rfl, Nw.refl _⟩
    | true =>
      rw [h2] at K2
      have HS := Lib.hid (fun w => dSup a b w h1 h2)
      generalize supT a b = x at *
      obtain ⟨B, hB⟩ : ∃ B, (x == a) = B := ⟨_, rfl⟩
      rw [hB]
      clear h1 h2
      go_enter Tryz.func92, Tryz.ntmps92
      go_wp2_with fail
      go_at_call 79
      refine (K1.out _).mono ?_
      rintro e w' ⟨rfl, rfl⟩
      go_wp2_with fail
      go_at_call 79
      refine (K2.out _).mono ?_
      rintro e w' ⟨rfl, rfl⟩
      go_wp2_with fail
      go_at_call 52
      refine (HS.out _).mono ?_
      rintro e w2 ⟨rfl, g2⟩
      go_wp2
      go_ret
      exact ⟨by simp, g2⟩
set_option maxRecDepth 100000 in
set_option maxHeartbeats 2000000 in
theorem dFormed (a b m n s W : Int) (w : World) : Calls Tryz.prog 71 #[.agg #[.int .i64 a, .int .i64 b, .int .i64 m, .int .i64 n, .int .i64 s], .int .i64 W] w fun e w' => e = .returned (.bool (rtB W ⟨a, b, m, n, s⟩)) ∧ Nw w w' := by
  have hK1 := fun w => dKnownS m w
  have hK2 := fun w => dKnownS n w
  have hCV := fun w => dCovers m n w
  have HWa := Lib.hid (fun z => dWaits ⟨a, b, m, n, s⟩ z)
  have HHo := Lib.hid (fun z => dHolds ⟨a, b, m, n, s⟩ z)
  unfold rqV at HWa HHo
  simp only at HWa HHo
  unfold rtB
  simp only
  generalize knI m = k1 at *
  generalize knI n = k2 at *
  generalize cvI m n = cv at *
  have K1 := Lib.hid hK1
  have K2 := Lib.hid hK2
  have CV := Lib.hid hCV
  clear hK1 hK2 hCV
  by_cases h1 : a < 0
  · rw [show (!(((((decide (a < 0) || !k1) || !k2) || decide (s < 0)) || decide (W < s))) && (if 0 < s then !cv else ((m != 0) && (n == m)))) = false by simp [h1]]
    go_enter Tryz.func71, Tryz.ntmps71
    go_wp2
    go_ret
    exact ⟨rfl, (Nw.refl _).alloc _⟩
  by_cases h4 : s < 0
  · rw [show (!(((((decide (a < 0) || !k1) || !k2) || decide (s < 0)) || decide (W < s))) && (if 0 < s then !cv else ((m != 0) && (n == m)))) = false by simp [h4]]
    go_enter Tryz.func71, Tryz.ntmps71
    go_wp2
    go_ret
    exact ⟨rfl, (Nw.refl _).alloc _⟩
  by_cases h5 : W < s
  · rw [show (!(((((decide (a < 0) || !k1) || !k2) || decide (s < 0)) || decide (W < s))) && (if 0 < s then !cv else ((m != 0) && (n == m)))) = false by simp [h5]]
    go_enter Tryz.func71, Tryz.ntmps71
    go_wp2
    go_ret
    exact ⟨rfl, (Nw.refl _).alloc _⟩
  cases k1
  · rw [show (!(((((decide (a < 0) || !false) || !k2) || decide (s < 0)) || decide (W < s))) && (if 0 < s then !cv else ((m != 0) && (n == m)))) = false by simp]
    go_enter Tryz.func71, Tryz.ntmps71
    go_wp2_with fail
    go_at_call 79
    refine (K1.out _).mono ?_
    rintro e w' ⟨rfl, rfl⟩
    go_wp2
    go_ret
    exact ⟨rfl, (Nw.refl _).alloc _⟩
  cases k2
  · rw [show (!(((((decide (a < 0) || !true) || !false) || decide (s < 0)) || decide (W < s))) && (if 0 < s then !cv else ((m != 0) && (n == m)))) = false by simp]
    go_enter Tryz.func71, Tryz.ntmps71
    go_wp2_with fail
    go_at_call 79
    refine (K1.out _).mono ?_
    rintro e w' ⟨rfl, rfl⟩
    go_wp2_with fail
    go_at_call 79
    refine (K2.out _).mono ?_
    rintro e w' ⟨rfl, rfl⟩
    go_wp2
    go_ret
    exact ⟨rfl, (Nw.refl _).alloc _⟩
  by_cases h6 : 0 < s
  · rw [show (!(((((decide (a < 0) || !true) || !true) || decide (s < 0)) || decide (W < s))) && (if 0 < s then !cv else ((m != 0) && (n == m)))) = !cv by simp [h1, h4, h5, h6]]
    have d6 : decide (0 < s) = true := by simpa using h6
    have hb := RqB.made w a b m n s 42
    obtain ⟨w1, hw1⟩ : ∃ w1, w.alloc (.cells #[.int .i64 a, .int .i64 b, .int .i64 m, .int .i64 n, .int .i64 s] 42) = w1 := ⟨_, rfl⟩
    have g1 : Nw w w1 := by rw [← hw1]; exact (Nw.refl w).alloc _
    rw [hw1] at hb
    have HW1 := Lib.hid hw1
    have HB := Lib.hid (And.intro hb g1)
    obtain ⟨yl, y0, y1, y2, y3, y4⟩ := hb
    clear hw1 g1
    go_enter Tryz.func71, Tryz.ntmps71
    go_wp2_with fail
    rw [HW1.out]
    go_wp2_with fail
    go_at_call 79
    refine (K1.out _).mono ?_
    rintro e w' ⟨rfl, rfl⟩
    go_wp2_with fail
    go_at_call 79
    refine (K2.out _).mono ?_
    rintro e w' ⟨rfl, rfl⟩
    go_wp2_with fail
    go_at_call 51
    refine (HWa.out _).mono ?_
    rintro e w2 ⟨rfl, g2⟩
    have HB2 := Lib.hid (And.intro (HB.out.1.nw g2) (HB.out.2.trans g2))
    clear yl y0 y1 y2 y3 y4 g2
    obtain ⟨yl, y0, y1, y2, y3, y4⟩ := HB2.out.1
    go_wp2_with fail
    go_at_call 92
    refine (CV.out _).mono ?_
    rintro e w4 ⟨rfl, g4⟩
    go_wp2
    go_ret
    exact ⟨rfl, HB2.out.2.trans g4⟩
  · rw [show (!(((((decide (a < 0) || !true) || !true) || decide (s < 0)) || decide (W < s))) && (if 0 < s then !cv else ((m != 0) && (n == m)))) = ((m != 0) && (n == m)) by simp [h1, h4, h5, h6]]
    have d6 : decide (0 < s) = false := by simpa using h6
    obtain ⟨M, hM⟩ : ∃ M, (m != 0) = M := ⟨_, rfl⟩
    rw [hM] at HHo ⊢
    clear hM
    have hb := RqB.made w a b m n s 42
    obtain ⟨w1, hw1⟩ : ∃ w1, w.alloc (.cells #[.int .i64 a, .int .i64 b, .int .i64 m, .int .i64 n, .int .i64 s] 42) = w1 := ⟨_, rfl⟩
    have g1 : Nw w w1 := by rw [← hw1]; exact (Nw.refl w).alloc _
    rw [hw1] at hb
    have HW1 := Lib.hid hw1
    have HB := Lib.hid (And.intro hb g1)
    obtain ⟨yl, y0, y1, y2, y3, y4⟩ := hb
    clear hw1 g1
    go_enter Tryz.func71, Tryz.ntmps71
    go_wp2_with fail
    rw [HW1.out]
    go_wp2_with fail
    go_at_call 79
    refine (K1.out _).mono ?_
    rintro e w' ⟨rfl, rfl⟩
    go_wp2_with fail
    go_at_call 79
    refine (K2.out _).mono ?_
    rintro e w' ⟨rfl, rfl⟩
    go_wp2_with fail
    go_at_call 51
    refine (HWa.out _).mono ?_
    rintro e w2 ⟨rfl, g2⟩
    have HB2 := Lib.hid (And.intro (HB.out.1.nw g2) (HB.out.2.trans g2))
    clear yl y0 y1 y2 y3 y4 g2
    obtain ⟨yl, y0, y1, y2, y3, y4⟩ := HB2.out.1
    go_wp2_with fail
    go_at_call 57
    refine (HHo.out _).mono ?_
    rintro e w4 ⟨rfl, g4⟩
    have HB4 := Lib.hid (And.intro (HB2.out.1.nw g4) (HB2.out.2.trans g4))
    clear yl y0 y1 y2 y3 y4 g4
    obtain ⟨yl, y0, y1, y2, y3, y4⟩ := HB4.out.1
    cases M
    · go_wp2
      go_ret
      exact ⟨by simp, HB4.out.2⟩
    · go_wp2
      go_ret
      exact ⟨by simp, HB4.out.2⟩
end Go.Proofs.YtmciiobncfchlaaGreat
end

/- The developers' package queue: the functions of a request that Check hands on. -/
section
namespace Go.Proofs.YtmciiobncfchlaaGreat
open Go.RowKit
set_option linter.unusedVariables false      -- a contract need not use every name

theorem dValid1 (W : Int) (R : Rq) (p : Nat) (w : World) (h : w.cell? ⟨p, 3, none⟩ = some (.int .i64 W)) :
    Calls Tryz.prog 70 #[rqV R, .pointer (some ⟨p, 0, none⟩)] w fun e w' => e = .returned (.bool (!rtB W R)) ∧ Nw w w' := by
  obtain ⟨a, b, m, n, s⟩ := R
  have HF := Lib.hid (fun z => dFormed a b m n s W z)
  have hpl := World.block_lt_of_cell? _ _ h
  unfold rqV
  generalize rtB W ⟨a, b, m, n, s⟩ = B at *
  have hN : Nw w (w.alloc (.cells #[.int .i64 a, .int .i64 b, .int .i64 m, .int .i64 n, .int .i64 s] 42)) := (Nw.refl w).alloc _
  go_enter Tryz.func70, Tryz.ntmps70
  go_wp2_with (go_at_call 71; refine (HF.out _).mono ?_; rintro e w2 ⟨rfl, g2⟩)
  go_ret
  exact ⟨rfl, hN.trans g2⟩
theorem Tells.valid {w : World} {W : Int} {p : Nat} (h : w.cell? ⟨p, 3, none⟩ = some (.int .i64 W)) : Tells w (.func (.func 70) #[] #[.pointer (some ⟨p, 0, none⟩)]) (fun R => !rtB W R) :=
  ⟨_, _, rfl, enters_of Tryz.func70 (by kernel_rfl) rfl, fun R w1 g => dValid1 W R p w1 (g.kp h)⟩
/-- By where requests stand. -/
def bpI (A B : Rq) : Int := if ((A.md != 0) && (B.md != 0)) = true then 0 else toI A B
theorem dByPlace (A B : Rq) (w : World) : Calls Tryz.prog 74 #[rqV A, rqV B] w fun e w' => e = .returned (.int .i64 (bpI A B)) ∧ Nw w w' := by
  have HA := Lib.hid (fun z => dHolds A z)
  have HB := Lib.hid (fun z => dHolds B z)
  have HT := Lib.hid (fun z => dByTurn A B z)
  unfold bpI
  obtain ⟨x, hx⟩ : ∃ x, (A.md != 0) = x := ⟨_, rfl⟩
  obtain ⟨y, hy⟩ : ∃ y, (B.md != 0) = y := ⟨_, rfl⟩
  rw [hx] at HA ⊢
  rw [hy] at HB ⊢
  clear hx hy
  generalize toI A B = T at *
  obtain ⟨a0, a1, a2, a3, a4⟩ := A
  obtain ⟨b0, b1, b2, b3, b4⟩ := B
  unfold rqV at *
  simp only at *
  have hA := RqB.made w a0 a1 a2 a3 a4 42
  obtain ⟨w1, hw1⟩ : ∃ w1, w.alloc (.cells #[.int .i64 a0, .int .i64 a1, .int .i64 a2, .int .i64 a3, .int .i64 a4] 42) = w1 := ⟨_, rfl⟩
  have g1 : Nw w w1 := by rw [← hw1]; exact (Nw.refl w).alloc _
  have hs1 : w1.heap.size = w.heap.size + 1 := by rw [← hw1]; simp
  rw [hw1] at hA
  have hB := RqB.made w1 b0 b1 b2 b3 b4 42
  obtain ⟨w2, hw2⟩ : ∃ w2, w1.alloc (.cells #[.int .i64 b0, .int .i64 b1, .int .i64 b2, .int .i64 b3, .int .i64 b4] 42) = w2 := ⟨_, rfl⟩
  have g2 : Nw w1 w2 := by rw [← hw2]; exact (Nw.refl w1).alloc _
  rw [hw2, hs1] at hB
  have hww : (w.alloc (.cells #[.int .i64 a0, .int .i64 a1, .int .i64 a2, .int .i64 a3, .int .i64 a4] 42)).alloc (.cells #[.int .i64 b0, .int .i64 b1, .int .i64 b2, .int .i64 b3, .int .i64 b4] 42) = w2 := by rw [hw1]; exact hw2
  have HW := Lib.hid hww
  have HH := Lib.hid (And.intro (hA.nw g2) (And.intro hB (g1.trans g2)))
  obtain ⟨xl, x0, x1, x2, x3, x4⟩ := hA.nw g2
  obtain ⟨yl, y0, y1, y2, y3, y4⟩ := hB
  clear hA hw1 hw2 hww g1 g2 hs1
  go_enter Tryz.func74, Tryz.ntmps74
  go_wp2_with fail
  rw [HW.out]
  go_wp2_with fail
  go_at_call 57
  refine (HA.out _).mono ?_
  rintro e w3 ⟨rfl, g3⟩
  have H3 := Lib.hid (And.intro (HH.out.1.nw g3) (And.intro (HH.out.2.1.nw g3) (HH.out.2.2.trans g3)))
  clear xl x0 x1 x2 x3 x4 yl y0 y1 y2 y3 y4 g3
  obtain ⟨xl, x0, x1, x2, x3, x4⟩ := H3.out.1
  obtain ⟨yl, y0, y1, y2, y3, y4⟩ := H3.out.2.1
  cases x
  · go_wp2_with fail
    go_at_call 87
    refine (HT.out _).mono ?_
    rintro e w4 ⟨rfl, g4⟩
    go_wp2
    go_ret
    exact ⟨by simp, H3.out.2.2.trans g4⟩
  · go_wp2_with fail
    go_at_call 57
    refine (HB.out _).mono ?_
    rintro e w4 ⟨rfl, g4⟩
    have H4 := Lib.hid (And.intro (H3.out.1.nw g4) (And.intro (H3.out.2.1.nw g4) (H3.out.2.2.trans g4)))
    clear xl x0 x1 x2 x3 x4 yl y0 y1 y2 y3 y4 g4
    obtain ⟨xl, x0, x1, x2, x3, x4⟩ := H4.out.1
    obtain ⟨yl, y0, y1, y2, y3, y4⟩ := H4.out.2.1
    cases y
    · go_wp2_with fail
      go_at_call 87
      refine (HT.out _).mono ?_
      rintro e w5 ⟨rfl, g5⟩
      go_wp2
      go_ret
      exact ⟨by simp, H4.out.2.2.trans g5⟩
    · go_wp2
      go_ret
      exact ⟨by simp, H4.out.2.2⟩
/-- A function value that gives a number of a request. -/
def Nums (w : World) (f : Value) (p : Rq → Int) : Prop := ∃ (g : Nat) (lb : Array Value), f = .func (.func g) #[] lb ∧ (∀ args w, (callFunc g args).run Tryz.prog w = .ok (.enter g args) w) ∧ ∀ (R : Rq) (w1 : World), Nw w w1 → Calls Tryz.prog g (#[rqV R] ++ lb) w1 fun e w' => e = .returned (.int .i64 (p R)) ∧ Nw w1 w'
theorem dNumI (R : Rq) (w : World) : Calls Tryz.prog 95 #[rqV R] w fun e w' => e = .returned (.int .i64 R.id) ∧ Nw w w' := by
  obtain ⟨a, b, m, n, s⟩ := R
  unfold rqV
  go_enter Tryz.func95, Tryz.ntmps95
  go_wp2
  go_ret
  exact ⟨rfl, (Nw.refl _).alloc _⟩
theorem dNumT (R : Rq) (w : World) : Calls Tryz.prog 96 #[rqV R] w fun e w' => e = .returned (.int .i64 R.txn) ∧ Nw w w' := by
  obtain ⟨a, b, m, n, s⟩ := R
  unfold rqV
  go_enter Tryz.func96, Tryz.ntmps96
  go_wp2
  go_ret
  exact ⟨rfl, (Nw.refl _).alloc _⟩
theorem dNumS (R : Rq) (w : World) : Calls Tryz.prog 97 #[rqV R] w fun e w' => e = .returned (.int .i64 R.sn) ∧ Nw w w' := by
  obtain ⟨a, b, m, n, s⟩ := R
  unfold rqV
  go_enter Tryz.func97, Tryz.ntmps97
  go_wp2
  go_ret
  exact ⟨rfl, (Nw.refl _).alloc _⟩
theorem dIdle (R : Rq) (w : World) : Calls Tryz.prog 93 #[rqV R] w fun e w' => e = .returned (.bool (!decide (0 < R.sn))) ∧ Nw w w' := by
  have HW := Lib.hid (fun z => dWaits R z)
  obtain ⟨a, b, m, n, s⟩ := R
  unfold rqV at *
  simp only at *
  have hN : Nw w (w.alloc (.cells #[.int .i64 a, .int .i64 b, .int .i64 m, .int .i64 n, .int .i64 s] 42)) := (Nw.refl w).alloc _
  go_enter Tryz.func93, Tryz.ntmps93
  go_wp2_with (go_at_call 51; refine (HW.out _).mono ?_; rintro e w2 ⟨rfl, g2⟩)
  go_ret
  exact ⟨rfl, hN.trans g2⟩
end Go.Proofs.YtmciiobncfchlaaGreat
end

/- The library's IsSortedFunc at requests. -/
section
namespace Go.Proofs.YtmciiobncfchlaaGreat
open Go.RowKit
set_option linter.unusedVariables false      -- a contract need not use every name

/-- A function value that compares two requests. -/
def Comps (w : World) (f : Value) (c : Rq → Rq → Int) : Prop := ∃ (g : Nat) (lb : Array Value), f = .func (.func g) #[] lb ∧ (∀ args w, (callFunc g args).run Tryz.prog w = .ok (.enter g args) w) ∧ ∀ (A B : Rq) (w1 : World), Nw w w1 → Calls Tryz.prog g (#[rqV A, rqV B] ++ lb) w1 fun e w' => e = .returned (.int .i64 (c A B)) ∧ Nw w1 w'
theorem Comps.place (w : World) : Comps w (.func (.func 74) #[] #[]) bpI :=
  ⟨_, _, rfl, enters_of Tryz.func74 (by kernel_rfl) rfl, fun A B w1 g => dByPlace A B w1⟩
def Asc (c : Rq → Rq → Int) (q : List Rq) (k : Int) : Prop := ∀ j : Nat, k ≤ j → ∀ h : j + 1 < q.length, ¬ c q[j + 1] q[j] < 0
set_option maxRecDepth 100000 in
set_option maxHeartbeats 4000000 in
theorem dIsSorted (v f : Value) (c : Rq → Rq → Int) (q : List Rq) (w : World) (hl : q.length ≤ 1000) (h : RqAt w v q) (hf : Comps w f c) :
    Calls Tryz.prog 73 #[v, f] w fun e w' => ∃ b, e = .returned (.bool b) ∧ Nw w w' ∧ (b = true ↔ Asc c q 0) := by
  obtain ⟨g, lb, rfl, eg, hT⟩ := hf
  have HT := Lib.hid hT
  have HAt := Lib.hid h
  obtain ⟨a, cp, rfl, _⟩ := h
  clear hT
  have hw0 : IntKind.i64.wrap ((q.length : Int) - 1) = (q.length : Int) - 1 := by rw [IntKind.wrap_i64]; omega
  go_enter Tryz.func73, Tryz.ntmps73
  go_wp2
  go_loopw [5] (fun i wr => ∃ k : Int, -1 ≤ k ∧ k < q.length ∧ i = .int .i64 k ∧ Asc c q k ∧ Nw w wr) (fun i _ => (intOf i + 1).toNat)
  case atStart => exact ⟨(q.length : Int) - 1, by omega, by omega, by first | rfl | rw [hw0], fun j hj h => by omega, Nw.refl _⟩
  case round =>
    obtain ⟨k, hk0, hk1, rfl, hA, hG⟩ := hrel
    clear hw0
    by_cases hp : 0 < k
    · obtain ⟨m, rfl⟩ := Int.eq_ofNat_of_zero_le (show 0 ≤ k by omega)
      obtain ⟨m1, hm1⟩ : ∃ m1 : Nat, m = m1 + 1 := ⟨m - 1, by omega⟩
      have hml : m < q.length := by omega
      have hm1l : m1 < q.length := by omega
      have hmi : (m : Int) < (q.length : Int) := by omega
      have hm1i : (m1 : Int) < (q.length : Int) := by omega
      have hwm : IntKind.i64.wrap ((m : Int) - 1) = (m1 : Int) := by rw [IntKind.wrap_i64]; omega
      obtain ⟨a', c', e, ⟨e4, _⟩ | ⟨b, o, e4, hc⟩⟩ := (HAt.out.nw hG)
      · subst e4; simp at hml
      simp only [Value.slice.injEq, true_and] at e
      obtain ⟨rfl, rfl⟩ := e
      subst e4
      have hce := hc.cell m hml
      have hde := hc.cell m1 hm1l
      have hstep : ¬ c q[m] q[m1] < 0 → Asc c q m1 := fun hn j hj h => by
        by_cases e : j = m1
        · subst e; subst hm1; exact hn
        · exact hA j (by omega) h
      have hbad : c q[m] q[m1] < 0 → ¬ Asc c q 0 := fun hn h => by
        subst hm1
        exact h m1 (by omega) hml hn
      have HTk := Lib.hid (fun (z : World) (g : Nw w z) => HT.out q[m] q[m1] z g)
      have HSt := Lib.hid (And.intro hstep hbad)
      obtain ⟨x, hx⟩ : ∃ x, c q[m] q[m1] = x := ⟨_, rfl⟩
      rw [hx] at HTk HSt
      clear hx hstep hbad hA
      have HM := Lib.hid hm1
      clear hm1
      generalize q[m] = R at *
      generalize q[m1] = S at *
      obtain ⟨b0, b1, b2, b3, b4⟩ := R
      obtain ⟨f0, f1, f2, f3, f4⟩ := S
      unfold rqV at HTk
      simp only at HTk
      have e0 := fun (z : World) (hz : Nw wr z) => hz.kp (hce 0 _ rfl)
      have e1 := fun (z : World) (hz : Nw wr z) => hz.kp (hce 1 _ rfl)
      have e2 := fun (z : World) (hz : Nw wr z) => hz.kp (hce 2 _ rfl)
      have e3 := fun (z : World) (hz : Nw wr z) => hz.kp (hce 3 _ rfl)
      have e4 := fun (z : World) (hz : Nw wr z) => hz.kp (hce 4 _ rfl)
      have g0 := fun (z : World) (hz : Nw wr z) => hz.kp (hde 0 _ rfl)
      have g1 := fun (z : World) (hz : Nw wr z) => hz.kp (hde 1 _ rfl)
      have g2 := fun (z : World) (hz : Nw wr z) => hz.kp (hde 2 _ rfl)
      have g3 := fun (z : World) (hz : Nw wr z) => hz.kp (hde 3 _ rfl)
      have g4 := fun (z : World) (hz : Nw wr z) => hz.kp (hde 4 _ rfl)
      simp only [Nat.add_zero] at e0 g0
      have HG := Lib.hid hG
      clear hce hde hc hG
      have q1 := (Nw.refl wr).drew1
      obtain ⟨wc, hwc⟩ : ∃ wc, wr.drew = wc := ⟨_, rfl⟩
      have dpos : decide (0 < (m : Int)) = true := by simpa using hp
      go_wp2
      refine region_told [some true, some true, some true, some true, some true, some true, some true, some true, some true, some true, some false, none, some true] (Nw wr) (by kernel_rfl) (by kernel_rfl) (by kernel_rfl) q1 ?_
      rw [hwc] at q1 ⊢
      clear hwc
      repeat (first
        | (refine HW.off ?_)
        | (refine HW.take' ?_; (apply Exists.intro; refine ⟨Or.inl ⟨by rfl, ?_⟩, ?_⟩; (intro x hx; go_simp; first | done | with_reducible rfl)); (try simp only [Act.put, List.setIfInBounds_toArray, List.set_cons_zero, List.set_cons_succ]))
        | (refine HW.go (fun K hK => ?_); go_simp; (go_at_fn g; (with_reducible refine (HTk.out _ (HG.out.trans q1)).mono ?_); rintro e wy ⟨rfl, gy⟩; refine hK.out _ _ (q1.trans gy) ?_; intro _; replace q1 := q1.trans gy; clear hK K gy)))
      refine HW.end_ ?_
      refine NoPanic.normal ?_
      have HG2 := Lib.hid (HG.out.trans q1)
      clear e0 e1 e2 e3 e4 g0 g1 g2 g3 g4 q1
      by_cases hx : x < 0
      · have dx : decide (x < 0) = true := by simpa using hx
        have HB := Lib.hid (HSt.out.2 hx)
        go_wp2
        go_ret
        exact ⟨false, rfl, HG2.out, by simpa using HB.out⟩
      · have dx : decide (x < 0) = false := by simpa using hx
        have hx' : 0 ≤ x := Int.not_lt.1 hx
        have HB := Lib.hid (HSt.out.1 (by first | exact hx | exact hx'))
        go_wp2
        go_roundw
        case rel => exact ⟨(m1 : Int), by omega, by omega, by first | rfl | rw [hwm], HB.out, HG2.out⟩
        case measure => have := HM.out; simp [intOf]; first | omega | (rw [hwm]; omega)
    · have dpos : decide (0 < k) = false := by simpa using hp
      have HA := Lib.hid (show Asc c q 0 from fun j hj h => hA j (by omega) h)
      have HG := Lib.hid hG
      clear hA hG hp
      go_wp2
      go_ret
      exact ⟨true, rfl, HG.out, by simpa using HA.out⟩
end Go.Proofs.YtmciiobncfchlaaGreat
end

/- The developers' package queue: whether what all hold agrees. -/
section
namespace Go.Proofs.YtmciiobncfchlaaGreat
open Go.RowKit Go.Maps Go.ChangeMaps
set_option linter.unusedVariables false      -- a contract need not use every name

set_option maxHeartbeats 1000000 in
theorem dAgree1 {w : World} {g0 p b n : Nat} {t r W : Int} {v : Value} {q : List Rq} (h : Ln w g0 p t r W v b n q (cntQ q)) (hl : q.length ≤ 1000) (x : Nat) (hx : w.cell? ⟨x, 0, none⟩ = some (.pointer (some ⟨p, 0, none⟩))) (R : Rq) :
    Calls Tryz.prog 98 #[rqV R, .pointer (some ⟨x, 0, none⟩)] w fun e w' => e = .returned (.bool (!fitB (cntQ q) R.md R.md)) ∧ Nw w w' := by
  obtain ⟨b0, b1, b2, b3, b4⟩ := R
  unfold rqV
  simp only
  have hN : Nw w (w.alloc (.cells #[.int .i64 b0, .int .i64 b1, .int .i64 b2, .int .i64 b3, .int .i64 b4] 42)) := (Nw.refl w).alloc _
  have HF := Lib.hid (fun (z : World) (g : Nw w z) => dFitsA p b n (cntQ q) b2 b2 _ _ _ _ _ z (h.nw g).obj (h.nw g).map (fun y => by have := cntQ_bd q y; omega))
  have hxl := World.block_lt_of_cell? _ _ hx
  generalize fitB (cntQ q) b2 b2 = B at *
  clear h
  go_enter Tryz.func98, Tryz.ntmps98
  go_wp2_with (go_at_call 83; refine (HF.out _ hN).mono ?_; rintro e w2 ⟨rfl, g2⟩)
  go_ret
  exact ⟨rfl, hN.trans g2⟩
set_option maxRecDepth 100000 in
set_option maxHeartbeats 2000000 in
theorem dAgree (t r W : Int) (v : Value) (q : List Rq) (w : World) (hl : q.length ≤ 1000) (hkn : ∀ R ∈ q, knI R.md = true) (h : RqAt w v q) :
    Calls Tryz.prog 75 #[hdV t r v W] w fun e w' => e = .returned (.bool (!q.any fun R => !fitB (cntQ q) R.md R.md)) ∧ Nw w w' := by
  have HLi := Lib.hid (fun (w1 : World) (g : Nw w w1) => dLineOf t r W v q w1 hl hkn (h.nw g))
  obtain ⟨a, c, rfl, _⟩ := h
  unfold hdV at *
  have hx1 := allocAt w (.cells #[.int .i64 t, .int .i64 r, .slice a q.length c, .int .i64 W] 26)
  have hN : Nw w (w.alloc (.cells #[.int .i64 t, .int .i64 r, .slice a q.length c, .int .i64 W] 26)) := (Nw.refl w).alloc _
  go_enter Tryz.func75, Tryz.ntmps75
  go_wp2_with fail
  go_at_call 42
  refine (HLi.out _ hN).mono ?_
  rintro e w2 ⟨p, v1, b, n, rfl, g2, hL2, hnq⟩
  have hc3 := allocAt w2 (.cells #[.pointer (some ⟨p, 0, none⟩)] 62)
  have g3 : Nw w2 (w2.alloc (.cells #[.pointer (some ⟨p, 0, none⟩)] 62)) := (Nw.refl w2).alloc _
  obtain ⟨w3, hw3⟩ : ∃ w3, w2.alloc (.cells #[.pointer (some ⟨p, 0, none⟩)] 62) = w3 := ⟨_, rfl⟩
  rw [hw3] at hc3 g3
  have HW3 := Lib.hid hw3
  have hL3 := hL2.nw g3
  have hcl := hcell (j := 0) hc3
  have hxl := hlt hc3
  have HCo := Lib.hid (dContains v1 _ _ q w3 hl (RqOwn.rd hL3.own) ⟨98, #[.pointer (some ⟨w2.heap.size, 0, none⟩)], rfl, enters_of Tryz.func98 (by kernel_rfl) rfl, fun R w1 g => dAgree1 (hL3.nw g) hl w2.heap.size (g.kp hcl) R⟩)
  have p2 := hcell (j := 2) hL2.obj
  have hpl := hlt hL2.obj
  obtain ⟨a1, c1, hv1⟩ := (RqOwn.rd hL3.own).form
  subst hv1
  have HN := Lib.hid ((hN.trans g2).trans g3)
  clear hx1 hN g2 g3 hw3 hL2 hL3 hc3 hkn HLi
  clear hcl hxl
  go_wp2_with fail
  rw [HW3.out]
  go_at_call 69
  refine HCo.out.mono ?_
  rintro e w4 ⟨rfl, g4⟩
  go_wp2
  go_ret
  exact ⟨rfl, HN.out.trans g4⟩
end Go.Proofs.YtmciiobncfchlaaGreat
end

/- The developers' package queue: whether numbers are distinct: a map of keys. -/
section
namespace Go.Proofs.YtmciiobncfchlaaGreat
open Go.RowKit Go.Maps Go.ChangeMaps
set_option linter.unusedVariables false      -- a contract need not use every name

theorem lawK : Keyed Tryz.prog 3 := int_keyed Tryz.underlying3
/-- A number that an int holds. -/
def Fit (k : Int) : Prop := -9223372036854775808 ≤ k ∧ k ≤ 9223372036854775807
theorem keyK {k : Int} (h : Fit k) : keyOf Tryz.prog 3 (.int .i64 k) = some (.int .i64 k) := keyOf_int_mk Tryz.underlying3 (wfM h.1 h.2)
theorem isKeyK {k : Int} (h : Fit k) : WideAt.IsKeyLit (.int .i64 k) := lawK.key (keyK h)
/-- The map in block b has these keys. -/
def KeyS (w : World) (b n : Nat) (l : List Int) : Prop :=
  ∃ D : DataW Unit, w.ownsMap Tryz.prog 3 (fun _ => some (.lit (.int .i64 0), [])) b n D ∧ (∀ k, Maps.has D (.int .i64 k) = decide (k ∈ l)) ∧ Maps.size D ≤ l.length ∧ (Maps.size D = l.length ↔ l.Nodup)
theorem KeyS.kept {w w' : World} {b n : Nat} {l : List Int} {row : Option Nat} (h : KeyS w b n l) (hg : w.grownBy w' row) (hne : some b ≠ row) : KeyS w' b n l := by
  obtain ⟨D, h1, h2⟩ := h
  exact ⟨D, h1.kept hg hne, h2⟩
theorem KeyS.nw {w w' : World} {b n : Nat} {l : List Int} (h : KeyS w b n l) (g : Nw w w') : KeyS w' b n l := h.kept (g.grownBy none) (by simp)
theorem KeyS.made (w : World) : KeyS (w.alloc (.map #[] 0)) w.heap.size 0 [] :=
  ⟨_, World.ownsMap_made _ _ _ _, fun k => by simp [Maps.has], by simp [Maps.size], by simp [Maps.size]⟩
theorem nodup_snoc {l : List Int} {k : Int} : (l ++ [k]).Nodup ↔ l.Nodup ∧ k ∉ l := by
  rw [List.nodup_append]
  constructor
  · rintro ⟨h1, _, h3⟩
    exact ⟨h1, fun m => h3 k m k (by simp) rfl⟩
  · rintro ⟨h1, h2⟩
    exact ⟨h1, by simp, fun a ha b hb e => by
      rw [List.mem_singleton] at hb
      subst hb; subst e; exact h2 ha⟩
set_option maxRecDepth 100000 in
theorem KeyS.put {w : World} {b n : Nat} {l : List Int} (h : KeyS w b n l) (hn : n < 1000000) {k : Int} (hk : Fit k) :
    ∃ w', (Instr.mapUpdate 122 (.map (some b)) (.int .i64 k) (.agg #[])).run Tryz.prog w = .ok () w' ∧ KeyS w' b (n + 1) (l ++ [k]) ∧ w.grownBy w' (some b) := by
  obtain ⟨D, o, h2, h3, h4⟩ := h
  obtain ⟨w', hr, o', hg⟩ := o.update (t := 122) lawK Tryz.underlying122 (by unfold maxLen; omega) (keyK hk) (show (fun _ : Value => some ((.lit (.int .i64 0) : DataW Unit), ([] : List MemPlace))) (.agg #[]) = some (.lit (.int .i64 0), []) from rfl)
  have hsz := size_put (k := .int .i64 k) (o.tidy lawK) (.lit (.int .i64 0))
  rw [h2 k] at hsz
  refine ⟨w', hr, ⟨_, o', fun y => ?_, ?_, ?_⟩, hg⟩
  · by_cases q : y = k
    · subst q
      rw [has_put_same o.isMap (isKeyK hk)]
      simp
    · rw [has_put_other (litM_ne q), h2 y]
      simp [q]
  · rw [hsz, List.length_append, List.length_singleton]
    split <;> omega
  · rw [hsz, nodup_snoc, List.length_append, List.length_singleton]
    by_cases m : k ∈ l
    · rw [if_pos (by simpa using m)]
      exact ⟨fun e => by omega, fun e => absurd m e.2⟩
    · rw [if_neg (by simpa using m)]
      exact ⟨fun e => ⟨h4.1 (by omega), m⟩, fun e => by have := h4.2 e.1; omega⟩
theorem KeyS.len {w : World} {b n : Nat} {l : List Int} (h : KeyS w b n l) : ∃ s : Nat, (∀ ty, (Builtin.len_ #[122] ty #[.map (some b)]).run Tryz.prog w = .ok (.int .i64 s) w) ∧ s ≤ l.length ∧ (s = l.length ↔ l.Nodup) := by
  obtain ⟨D, o, _, h3, h4⟩ := h
  exact ⟨Maps.size D, fun ty => o.len Tryz.underlying122 ty, h3, h4⟩
end Go.Proofs.YtmciiobncfchlaaGreat
end

/- The developers' package queue: distinct. -/
section
namespace Go.Proofs.YtmciiobncfchlaaGreat
open Go.RowKit Go.Maps Go.ChangeMaps
set_option linter.unusedVariables false      -- a contract need not use every name

set_option maxRecDepth 100000 in
set_option maxHeartbeats 4000000 in
theorem dDistinct (v f : Value) (p : Rq → Int) (q : List Rq) (w : World) (hl : q.length ≤ 1000) (hw : ∀ R ∈ q, Fit (p R)) (h : RqAt w v q) (hf : Nums w f p) :
    Calls Tryz.prog 94 #[v, f] w fun e w' => ∃ b, e = .returned (.bool b) ∧ Nw w w' ∧ (b = true ↔ (q.map p).Nodup) := by
  have hmm := @run_makeMap Tryz.prog
  obtain ⟨g, lb, rfl, eg, hT⟩ := hf
  have HT := Lib.hid hT
  have HAt := Lib.hid h
  have HFw := Lib.hid hw
  obtain ⟨a, c, rfl, _⟩ := h
  clear hT hw
  have hK := KeyS.made w
  have hN1 : Nw w (w.alloc (.map #[] 0)) := (Nw.refl w).alloc _
  obtain ⟨w1, hw1⟩ : ∃ w1, w.alloc (.map #[] 0) = w1 := ⟨_, rfl⟩
  rw [hw1] at hK hN1
  have HW1 := Lib.hid hw1
  obtain ⟨b, hb⟩ : ∃ b, w.heap.size = b := ⟨_, rfl⟩
  rw [hb] at hK
  have HB := Lib.hid hb
  have HK := Lib.hid (And.intro hK hN1)
  clear hK hN1 hw1
  go_enter Tryz.func94, Tryz.ntmps94
  go_wp2
  rw [HW1.out]
  try rw [hb]
  clear hb HW1 hmm
  go_loopw [11] (fun i wr => ∃ k : Nat, k ≤ q.length ∧ i = .int .i64 k ∧ KeyS wr b k ((q.take k).map p) ∧ Nw w wr) (fun i _ => q.length - (intOf i).toNat)
  case atStart => exact ⟨0, Nat.zero_le _, rfl, HK.out.1, HK.out.2⟩
  case round =>
    obtain ⟨k, hk, rfl, hS, hG⟩ := hrel
    by_cases hlk : k < q.length
    · obtain ⟨a', c', e, ⟨e4, _⟩ | ⟨b', o, e4, hc⟩⟩ := (HAt.out.nw hG)
      · subst e4; simp at hlk
      simp only [Value.slice.injEq, true_and] at e
      obtain ⟨rfl, rfl⟩ := e
      subst e4
      have hki : (k : Int) < (q.length : Int) := by omega
      have hce := hc.cell k hlk
      have HX := Lib.hid (show (q.take (k + 1)).map p = (q.take k).map p ++ [p q[k]] by rw [List.take_add_one, List.getElem?_eq_getElem hlk, List.map_append]; rfl)
      have hft := HFw.out _ (List.getElem_mem hlk)
      have HTk := Lib.hid (fun (z : World) (g : Nw w z) => HT.out q[k] z g)
      generalize p q[k] = x at *
      generalize q[k] = R at *
      obtain ⟨b0, b1, b2, b3, b4⟩ := R
      unfold rqV at HTk
      simp only at HTk
      have e0 := hce 0 _ rfl
      have e1 := hce 1 _ rfl
      have e2 := hce 2 _ rfl
      have e3 := hce 3 _ rfl
      have e4 := hce 4 _ rfl
      simp only [Nat.add_zero] at e0
      have g6 : Nw wr (wr.alloc (.cells #[.int .i64 b0, .int .i64 b1, .int .i64 b2, .int .i64 b3, .int .i64 b4] 42)) := (Nw.refl wr).alloc _
      obtain ⟨w6, hw6⟩ : ∃ w6, wr.alloc (.cells #[.int .i64 b0, .int .i64 b1, .int .i64 b2, .int .i64 b3, .int .i64 b4] 42) = w6 := ⟨_, rfl⟩
      have hq6 := RqB.made wr b0 b1 b2 b3 b4 42
      rw [hw6] at g6 hq6
      obtain ⟨hlq, y0, y1, y2, y3, y4⟩ := hq6
      have HW6 := Lib.hid hw6
      have HI := Lib.hid (And.intro (hS.nw g6) (hG.trans g6))
      have HFt := Lib.hid hft
      clear hce hc hS hG g6 hw6 hft
      go_wp2_with fail
      rw [HW6.out]
      go_wp2_with fail
      go_at_fn g
      refine (HTk.out _ HI.out.2).mono ?_
      rintro e w7 ⟨rfl, g7⟩
      obtain ⟨w8, hr, hS8, hg8⟩ := (HI.out.1.nw g7).put (by omega) HFt.out
      rw [← HX.out] at hS8
      have HR := Lib.hid hr
      have HE := Lib.hid (And.intro hS8 ((HI.out.2.trans g7).gro hg8 (fun i e => by have := Option.some.inj e; have := HB.out; omega)))
      clear hr hS8 hg8 g7 e0 e1 e2 e3 e4 y0 y1 y2 y3 y4 hlq
      go_wp2_with (at_mapUpdate; refine wpl_mapUp rfl (.tmp 15) (.tmp 18) (.tmp 19) 122 rfl _ _ _ _ rfl rfl rfl HR.out ?_)
      go_roundw
      case rel => exact ⟨k + 1, by omega, by go_num, HE.out⟩
      case measure => simp [intOf]; omega
    · obtain rfl : k = q.length := by omega
      rw [List.take_of_length_le (Nat.le_refl _)] at hS
      obtain ⟨s, hlen, _, hnd⟩ := hS.len
      rw [List.length_map] at hnd
      have HG := Lib.hid (And.intro hG hnd)
      clear hS hG hnd
      by_cases e : s = q.length
      · have d : ((s : Int) == (q.length : Int)) = true := by rw [e]; simp
        have HN := Lib.hid (HG.out.2.1 e)
        clear e
        go_wp2
        go_ret
        exact ⟨true, rfl, HG.out.1, by simpa using HN.out⟩
      · have d : ((s : Int) == (q.length : Int)) = false := by simp; omega
        have HN := Lib.hid (fun h => e (HG.out.2.2 h))
        clear e
        go_wp2
        go_ret
        exact ⟨false, rfl, HG.out.1, by simpa using HN.out⟩
end Go.Proofs.YtmciiobncfchlaaGreat
end

/- The developers' package queue: differ. -/
section
namespace Go.Proofs.YtmciiobncfchlaaGreat
open Go.RowKit Go.Maps Go.ChangeMaps
set_option linter.unusedVariables false      -- a contract need not use every name

theorem Tells.idle (w : World) : Tells w (.func (.func 93) #[] #[]) (fun R => !decide (0 < R.sn)) :=
  ⟨_, _, rfl, enters_of Tryz.func93 (by kernel_rfl) rfl, fun R w1 g => dIdle R w1⟩
theorem Nums.ids (w : World) : Nums w (.func (.func 95) #[] #[]) (fun R => R.id) :=
  ⟨_, _, rfl, enters_of Tryz.func95 (by kernel_rfl) rfl, fun R w1 g => dNumI R w1⟩
theorem Nums.txns (w : World) : Nums w (.func (.func 96) #[] #[]) (fun R => R.txn) :=
  ⟨_, _, rfl, enters_of Tryz.func96 (by kernel_rfl) rfl, fun R w1 g => dNumT R w1⟩
theorem Nums.sns (w : World) : Nums w (.func (.func 97) #[] #[]) (fun R => R.sn) :=
  ⟨_, _, rfl, enters_of Tryz.func97 (by kernel_rfl) rfl, fun R w1 g => dNumS R w1⟩
/-- All the numbers of a request are such as an int holds. -/
def FitR (R : Rq) : Prop := Fit R.id ∧ Fit R.txn ∧ Fit R.sn
theorem outQ_sub (p : Rq → Bool) (q : List Rq) : ∀ R ∈ outQ p q, R ∈ q := fun R h => (List.mem_filter.1 h).1
theorem outQ_len (p : Rq → Bool) (q : List Rq) : (outQ p q).length ≤ q.length := List.length_filter_le _ _
set_option maxRecDepth 100000 in
set_option maxHeartbeats 4000000 in
theorem dDiffer (v : Value) (q : List Rq) (w : World) (hl : q.length ≤ 1000) (hw : ∀ R ∈ q, FitR R) (h : RqAt w v q) :
    Calls Tryz.prog 72 #[v] w fun e w' => ∃ b, e = .returned (.bool b) ∧ Nw w w' ∧ (b = true ↔ (q.map fun R => R.id).Nodup ∧ (q.map fun R => R.txn).Nodup ∧ ((outQ (fun R => !decide (0 < R.sn)) q).map fun R => R.sn).Nodup) := by
  have HCl := Lib.hid (dClone v q w hl h)
  have HI := Lib.hid (fun (z : World) (g : Nw w z) => dDistinct v _ (fun R => R.id) q z hl (fun R hR => (hw R hR).1) (h.nw g) (Nums.ids z))
  have HT := Lib.hid (fun (z : World) (g : Nw w z) => dDistinct v _ (fun R => R.txn) q z hl (fun R hR => (hw R hR).2.1) (h.nw g) (Nums.txns z))
  have HFs := Lib.hid (fun R hR => (hw R (outQ_sub (fun R => !decide (0 < R.sn)) q R hR)).2.2)
  obtain ⟨P1, hP1⟩ : ∃ P1, (q.map fun R => R.id).Nodup = P1 := ⟨_, rfl⟩
  obtain ⟨P2, hP2⟩ : ∃ P2, (q.map fun R => R.txn).Nodup = P2 := ⟨_, rfl⟩
  obtain ⟨P3, hP3⟩ : ∃ P3, ((outQ (fun R => !decide (0 < R.sn)) q).map fun R => R.sn).Nodup = P3 := ⟨_, rfl⟩
  rw [hP1] at HI ⊢
  rw [hP2] at HT ⊢
  rw [hP3]
  have HP3 := Lib.hid hP3
  clear hP1 hP2 hP3 hw
  obtain ⟨a, c, rfl, _⟩ := h
  go_enter Tryz.func72, Tryz.ntmps72
  go_wp2_with fail
  go_at_call 58
  refine HCl.out.mono ?_
  rintro e w1 ⟨v1, rfl, g1, hO⟩
  have HD := Lib.hid (dDelete (fun R => !decide (0 < R.sn)) _ w.heap.size v1 q w1 hl hO (Tells.idle w1) (fun w2 _ => Tells.idle w2))
  have HO := Lib.hid (And.intro g1 hO)
  clear g1 hO HCl
  go_wp2_with fail
  go_at_call 85
  refine HD.out.mono ?_
  rintro e w2 ⟨v2, rfl, hR2, _, _, hT2⟩
  have HN2 := Lib.hid (nw_tch HO.out.1 hT2 (fun i e => oge HO.out.2 e))
  have HS := Lib.hid (fun (z : World) (g : Nw w2 z) => dDistinct v2 _ (fun R => R.sn) (outQ (fun R => !decide (0 < R.sn)) q) z (Nat.le_trans (outQ_len _ q) hl) HFs.out (hR2.nw g) (Nums.sns z))
  rw [HP3.out] at HS
  have HI2 := Lib.hid (HI.out w2 HN2.out)
  clear hR2 hT2 HD HO HI HP3 HFs
  go_wp2_with fail
  go_at_call 94
  refine HI2.out.mono ?_
  rintro e w3 ⟨b1, rfl, g3, h1⟩
  have H3 := Lib.hid (And.intro g3 h1)
  have HT2 := Lib.hid (HT.out w3 (HN2.out.trans g3))
  clear g3 h1 HI2 HT
  cases b1
  · go_wp2
    go_ret
    exact ⟨false, rfl, HN2.out.trans H3.out.1, by have h := H3.out.2; simp at h; simp [h]⟩
  go_wp2_with fail
  go_at_call 94
  refine HT2.out.mono ?_
  rintro e w4 ⟨b2, rfl, g4, h2⟩
  have H4 := Lib.hid (And.intro g4 h2)
  have HS2 := Lib.hid (HS.out w4 (H3.out.1.trans g4))
  clear g4 h2 HT2 HS
  cases b2
  · go_wp2
    go_ret
    exact ⟨false, rfl, (HN2.out.trans H3.out.1).trans H4.out.1, by have h := H4.out.2; simp at h; simp [h]⟩
  go_wp2_with fail
  go_at_call 94
  refine HS2.out.mono ?_
  rintro e w5 ⟨b3, rfl, g5, h3⟩
  have H5 := Lib.hid (And.intro g5 h3)
  clear g5 h3 HS2
  go_wp2
  go_ret
  exact ⟨b3, by simp, ((HN2.out.trans H3.out.1).trans H4.out.1).trans H5.out.1, by have h3 := H3.out.2; have h4 := H4.out.2; have h5 := H5.out.2; simp at h3 h4; simp [h3, h4, h5]⟩
end Go.Proofs.YtmciiobncfchlaaGreat
end

/- Plain: what the developers' Check asks of a queue whose requests are as they may be. -/
section
namespace Go.Proofs.YtmciiobncfchlaaGreat
open Go.RowKit
set_option linter.unusedVariables false

theorem bp_no {a b : Rq} (h : ¬ bpI b a < 0) : a.md = 0 → b.md = 0 ∧ a.sn ≤ b.sn := by
  intro z
  unfold bpI at h
  have e : ¬ ((b.md != 0) && (a.md != 0)) = true := by simp [z]
  rw [if_neg e, ahead_iff] at h
  have h1 : b.md = 0 := by
    by_cases y : b.md = 0
    · exact y
    · exact absurd (.inl ⟨y, z⟩) h
  refine ⟨h1, ?_⟩
  by_cases s : b.sn < a.sn
  · exact absurd (.inr ⟨by simp [h1, z], s⟩) h
  · omega
theorem bp_ok {a b : Rq} (h : a.md = 0 → b.md = 0 ∧ a.sn < b.sn) : ¬ bpI b a < 0 := by
  unfold bpI
  by_cases e : ((b.md != 0) && (a.md != 0)) = true
  · rw [if_pos e]; decide
  · rw [if_neg e, ahead_iff]
    rintro (⟨h1, h2⟩ | ⟨h1, h2⟩)
    · exact h1 (h h2).1
    · by_cases z : a.md = 0
      · have := (h z).2; omega
      · have : b.md ≠ 0 := fun y => z (h1.1 y)
        exact e (by simp [this, z])
theorem asc_all {q : List Rq} (h : Asc bpI q 0) : ∀ (i j : Nat) (hj : j < q.length) (hij : i < j), q[i].md = 0 → q[j].md = 0 ∧ q[i].sn ≤ q[j].sn := by
  intro i j
  induction j with
  | zero => intro hj hij; omega
  | succ j ih =>
    intro hj hij z
    have hs := bp_no (h j (by omega) hj)
    by_cases e : i = j
    · subst e; exact hs z
    · have h1 := ih (by omega) (by omega) z
      have h2 := hs h1.1
      exact ⟨h2.1, by omega⟩
theorem cp_any {W : Int} {a b : Rq} (ha : Rt W a) (hb : Rt W b) (h : a.md ≠ 0 → b.md ≠ 0 → cpI a.md b.md = true) : cpI a.md b.md = true := by
  by_cases z : a.md = 0
  · rw [z]; exact cp_zero _ hb.md
  · by_cases y : b.md = 0
    · rw [y, cp_symm]; exact cp_zero _ ha.md
    · exact h z y
theorem chk_iff {W : Int} {q : List Rq} (hrt : ∀ r ∈ q, Rt W r) :
    (((q.map fun R => R.id).Nodup ∧ (q.map fun R => R.txn).Nodup ∧ ((outQ (fun R => !decide (0 < R.sn)) q).map fun R => R.sn).Nodup) ∧ Asc bpI q 0 ∧ (q.any fun R => !fitB (cntQ q) R.md R.md) = false) ↔ q.Pairwise Pr := by
  have hfit : ∀ k (hk : k < q.length), fitB (cntQ q) q[k].md q[k].md = (q.take k ++ q.drop (k + 1)).all fun a => cpI a.md q[k].md := fun k hk => fit_all q k hk _ (fun R hR => (hrt R hR).md)
  constructor
  · rintro ⟨⟨h1, h2, h3⟩, h4, h5⟩
    unfold List.Nodup at h1 h2 h3
    rw [List.pairwise_map] at h1 h2 h3
    rw [show outQ (fun R => !decide (0 < R.sn)) q = q.filter fun s => !(!decide (0 < s.sn)) from rfl, List.pairwise_filter] at h3
    rw [List.pairwise_iff_getElem] at h1 h2 h3 ⊢
    intro i j hi hj hij
    have ri := hrt _ (List.getElem_mem hi)
    have rj := hrt _ (List.getElem_mem hj)
    refine ⟨h1 i j hi hj hij, h2 i j hi hj hij, fun s e => ?_, fun z => ?_, fun _ _ => ?_⟩
    · exact h3 i j hi hj hij (by simpa using s) (by rw [← e]; simpa using s) e
    · obtain ⟨a, b⟩ := asc_all h4 i j hj hij z
      have s := ri.w' z
      have : q[i].sn ≠ q[j].sn := fun e => h3 i j hi hj hij (by simpa using s) (by rw [← e]; simpa using s) e
      exact ⟨a, by omega⟩
    · rw [List.any_eq_false] at h5
      have := h5 _ (List.getElem_mem hi)
      rw [Bool.not_eq_true, Bool.not_eq_false', hfit i hi, List.all_eq_true] at this
      have hm : q[j] ∈ q.take i ++ q.drop (i + 1) := List.mem_append_right _ (by
        rw [List.mem_iff_getElem]
        exact ⟨j - (i + 1), by rw [List.length_drop]; omega, by rw [List.getElem_drop]; congr 1; omega⟩)
      rw [cp_symm]; exact this _ hm
  · intro h
    refine ⟨⟨?_, ?_, ?_⟩, fun j _ hj => bp_ok ((List.pairwise_iff_getElem.1 h j (j + 1) (by omega) hj (by omega)).ord), ?_⟩
    · unfold List.Nodup; rw [List.pairwise_map]; exact h.imp fun p => p.id
    · unfold List.Nodup; rw [List.pairwise_map]; exact h.imp fun p => p.txn
    · unfold List.Nodup
      rw [List.pairwise_map, show outQ (fun R => !decide (0 < R.sn)) q = q.filter fun s => !(!decide (0 < s.sn)) from rfl, List.pairwise_filter]
      exact h.imp fun p sa _ => p.sn (by simpa using sa)
    · rw [List.any_eq_false]
      intro R hR
      obtain ⟨k, hk, rfl⟩ := List.getElem_of_mem hR
      rw [Bool.not_eq_true, Bool.not_eq_false', hfit k hk, List.all_eq_true]
      intro a ha
      have hp := List.pairwise_iff_getElem.1 h
      rcases List.mem_append.1 ha with m | m
      · obtain ⟨i, hi, rfl⟩ := List.getElem_of_mem m
        rw [List.length_take] at hi
        rw [List.getElem_take]
        exact cp_any (hrt _ (List.getElem_mem _)) (hrt _ (List.getElem_mem hk)) (hp i k (by omega) hk (by omega)).cp
      · obtain ⟨i, hi, rfl⟩ := List.getElem_of_mem m
        rw [List.length_drop] at hi
        rw [List.getElem_drop, cp_symm]
        exact cp_any (hrt _ (List.getElem_mem hk)) (hrt _ (List.getElem_mem _)) (hp k (k + 1 + i) hk (by omega) (by omega)).cp
end Go.Proofs.YtmciiobncfchlaaGreat
end

/- The developers' package queue: valid, Check. -/
section
namespace Go.Proofs.YtmciiobncfchlaaGreat
open Go.RowKit
set_option linter.unusedVariables false      -- a contract need not use every name

set_option maxRecDepth 100000 in
set_option maxHeartbeats 4000000 in
theorem dValid (t r W : Int) (v : Value) (q : List Rq) (w : World) (hl : q.length ≤ 1000) (hfi : ∀ R ∈ q, FitR R) (h : RqAt w v q) :
    Calls Tryz.prog 32 #[hdV t r v W] w fun e w' => e = .returned (.bool (okQ W q)) ∧ Nw w w' := by
  have hat := h
  obtain ⟨a, c, rfl, _⟩ := h
  have hx1 := allocAt w (.cells #[.int .i64 t, .int .i64 r, .slice a q.length c, .int .i64 W] 26)
  have hN1 : Nw w (w.alloc (.cells #[.int .i64 t, .int .i64 r, .slice a q.length c, .int .i64 W] 26)) := (Nw.refl w).alloc _
  obtain ⟨w1, hw1⟩ : ∃ w1, w.alloc (.cells #[.int .i64 t, .int .i64 r, .slice a q.length c, .int .i64 W] 26) = w1 := ⟨_, rfl⟩
  rw [hw1] at hx1 hN1
  have hb3 : w1.cell? ⟨w.heap.size, 3, none⟩ = some (.int .i64 W) := hcell (j := 3) hx1
  have HCo := Lib.hid (dContains _ _ (fun R => !rtB W R) q w1 hl (hat.nw hN1) (Tells.valid hb3))
  have HDi := Lib.hid (fun (z : World) (g : Nw w1 z) => dDiffer _ q z hl hfi (hat.nw (hN1.trans g)))
  have HSo := Lib.hid (fun (z : World) (g : Nw w1 z) => dIsSorted _ _ bpI q z hl (hat.nw (hN1.trans g)) (Comps.place z))
  have HAg := Lib.hid (fun (hkn : ∀ R ∈ q, knI R.md = true) (z : World) (g : Nw w1 z) => dAgree t r W _ q z hl hkn (hat.nw (hN1.trans g)))
  obtain ⟨O, hO⟩ : ∃ O, okQ W q = O := ⟨_, rfl⟩
  rw [hO]
  have HO := Lib.hid hO
  have HW1 := Lib.hid hw1
  have HN1 := Lib.hid hN1
  have HX := Lib.hid hx1
  unfold hdV at HAg ⊢
  have c0 := hcell (j := 0) hx1
  have c1 := hcell (j := 1) hx1
  have c2 := hcell (j := 2) hx1
  have c3 := hcell (j := 3) hx1
  have hpl := hlt hx1
  clear hx1 hN1 hw1 hb3 hO hat hfi
  by_cases h1 : W < 0
  · have hR : O = false := by
      have := HO.out; rw [← this]; unfold okQ; simp; omega
    subst hR
    have d1 : decide (W < 0) = true := by simpa using h1
    go_enter Tryz.func32, Tryz.ntmps32
    go_wp2_with fail
    rw [HW1.out]
    go_wp2
    go_ret
    exact ⟨rfl, HN1.out⟩
  by_cases h2 : 4611686018427387904 < W
  · have hR : O = false := by
      have := HO.out; rw [← this]; unfold okQ; simp; omega
    subst hR
    have d1 : decide (W < 0) = false := by simpa using h1
    go_enter Tryz.func32, Tryz.ntmps32
    go_wp2_with fail
    rw [HW1.out]
    go_wp2
    go_ret
    exact ⟨rfl, HN1.out⟩
  have HWb := Lib.hid (show 0 ≤ W ∧ W ≤ 4611686018427387904 by omega)
  obtain ⟨A, hA⟩ : ∃ A, (q.any fun R => !rtB W R) = A := ⟨_, rfl⟩
  rw [hA] at HCo
  have HA := Lib.hid hA
  clear hA
  go_enter Tryz.func32, Tryz.ntmps32
  go_wp2_with fail
  rw [HW1.out]
  go_wp2_with fail
  go_at_call 69
  refine HCo.out.mono ?_
  rintro e w2 ⟨rfl, g2⟩
  have G2 := Lib.hid g2
  have hx2 := g2.at' HX.out
  clear c0 c1 c2 c3 hpl g2 HCo
  cases A
  rotate_left
  · have hR : O = false := by
      have h3 := HA.out
      rw [List.any_eq_true] at h3
      obtain ⟨R, hR, e⟩ := h3
      rw [← HO.out]
      cases e2 : okQ W q with
      | false => rfl
      | true =>
        have := (rtB_iff W R).2 (((okQ_iff W q).1 e2).rt R hR)
        rw [this] at e; cases e
    subst hR
    clear hx2
    go_wp2
    go_ret
    exact ⟨rfl, HN1.out.trans G2.out⟩
  have hrt : ∀ R ∈ q, Rt W R := fun R hR => by
    have h3 := HA.out
    rw [List.any_eq_false] at h3
    have := h3 R hR
    rw [← rtB_iff]
    simpa using this
  have HRt := Lib.hid hrt
  have HCk := Lib.hid (chk_iff hrt)
  have HOi : Hid (O = true ↔ q.Pairwise Pr) := Lib.hid (by
    rw [← HO.out, okQ_iff]
    exact ⟨fun h => h.pr, fun h => ⟨HWb.out.1, HWb.out.2, HRt.out, h⟩⟩)
  have HD2 := Lib.hid (HDi.out w2 G2.out)
  have c0 := hcell (j := 0) hx2
  have c1 := hcell (j := 1) hx2
  have c2 := hcell (j := 2) hx2
  have c3 := hcell (j := 3) hx2
  have hpl := hlt hx2
  clear hrt hx2 HDi
  go_wp2_with fail
  go_at_call 72
  refine HD2.out.mono ?_
  rintro e w3 ⟨b1, rfl, g3, i1⟩
  have G3 := Lib.hid (G2.out.trans g3)
  have I1 := Lib.hid i1
  have hx3 := G3.out.at' HX.out
  have HS3 := Lib.hid (HSo.out w3 G3.out)
  clear c0 c1 c2 c3 hpl g3 i1 HD2 HSo
  cases b1
  · have hR : O = false := by
      cases e : O with
      | false => rfl
      | true => have := I1.out.2 (HCk.out.2 (HOi.out.1 e)).1; cases this
    subst hR
    clear hx3
    go_wp2
    go_ret
    exact ⟨rfl, HN1.out.trans G3.out⟩
  have c0 := hcell (j := 0) hx3
  have c1 := hcell (j := 1) hx3
  have c2 := hcell (j := 2) hx3
  have c3 := hcell (j := 3) hx3
  have hpl := hlt hx3
  clear hx3
  go_wp2_with fail
  go_at_call 73
  refine HS3.out.mono ?_
  rintro e w4 ⟨b2, rfl, g4, i2⟩
  have G4 := Lib.hid (G3.out.trans g4)
  have I2 := Lib.hid i2
  have hx4 := G4.out.at' HX.out
  have HA4 := Lib.hid (HAg.out (fun R hR => (HRt.out R hR).md) w4 G4.out)
  clear c0 c1 c2 c3 hpl g4 i2 HS3 HAg
  cases b2
  · have hR : O = false := by
      cases e : O with
      | false => rfl
      | true => have := I2.out.2 (HCk.out.2 (HOi.out.1 e)).2.1; cases this
    subst hR
    clear hx4
    go_wp2
    go_ret
    exact ⟨rfl, HN1.out.trans G4.out⟩
  have c0 := hcell (j := 0) hx4
  have c1 := hcell (j := 1) hx4
  have c2 := hcell (j := 2) hx4
  have c3 := hcell (j := 3) hx4
  have hpl := hlt hx4
  obtain ⟨B, hB⟩ : ∃ B, (q.any fun R => !fitB (cntQ q) R.md R.md) = B := ⟨_, rfl⟩
  rw [hB] at HA4
  have hR : O = !B := by
    have h5 := HCk.out
    rw [hB] at h5
    cases B
    · exact HOi.out.2 (h5.1 ⟨I1.out.1 (by trivial), I2.out.1 (by trivial), rfl⟩)
    · cases e : O with
      | false => rfl
      | true => have := (h5.2 (HOi.out.1 e)).2.2; cases this
  subst hR
  clear hx4 hB
  go_wp2_with fail
  go_at_call 75
  refine HA4.out.mono ?_
  rintro e w5 ⟨rfl, g5⟩
  go_wp2
  go_ret
  exact ⟨by simp, HN1.out.trans (G4.out.trans g5)⟩
theorem dCheck (t r W : Int) (v : Value) (q : List Rq) (w : World) (hl : q.length ≤ 1000) (hfi : ∀ R ∈ q, FitR R) (h : RqAt w v q) :
    Calls Tryz.prog 6 #[hdV t r v W] w fun e w' => e = .returned (.int .i64 (if okQ W q = true then 0 else 2)) ∧ Nw w w' := by
  have HV := Lib.hid (fun (z : World) (g : Nw w z) => dValid t r W v q z hl hfi (h.nw g))
  obtain ⟨a, c, rfl, _⟩ := h
  unfold hdV at *
  generalize okQ W q = O at *
  have hN : Nw w (w.alloc (.cells #[.int .i64 t, .int .i64 r, .slice a q.length c, .int .i64 W] 26)) := (Nw.refl w).alloc _
  cases O
  · go_enter Tryz.func6, Tryz.ntmps6
    go_wp2_with (go_at_call 32; refine (HV.out _ hN).mono ?_; rintro e w2 ⟨rfl, g2⟩)
    go_ret
    exact ⟨rfl, hN.trans g2⟩
  · go_enter Tryz.func6, Tryz.ntmps6
    go_wp2_with (go_at_call 32; refine (HV.out _ hN).mono ?_; rintro e w2 ⟨rfl, g2⟩)
    go_ret
    exact ⟨rfl, hN.trans g2⟩
end Go.Proofs.YtmciiobncfchlaaGreat
end

/- QueueCalls: what the calls give, written out. -/
section
namespace Go.Proofs.YtmciiobncfchlaaGreat
open Go.RowKit
set_option linter.unusedVariables false

/-- A head, a flag, an error. -/
def HX2 (xt xr xW : Int) (xn : Nat) (xq : List Rq) (xb : Bool) (xe : Int) (w : World) (e : Ending) (w' : World) : Prop := ∃ a k, e = .returned (.tuple #[.agg #[.int .i64 xt, .int .i64 xr, .slice a xn k, .int .i64 xW], .bool xb, .int .i64 xe]) ∧ Nw w w' ∧ RqAt w' (.slice a xn k) xq
def HX1 (xt xr xW : Int) (xn : Nat) (xq : List Rq) (xe : Int) (w : World) (e : Ending) (w' : World) : Prop := ∃ a k, e = .returned (.tuple #[.agg #[.int .i64 xt, .int .i64 xr, .slice a xn k, .int .i64 xW], .int .i64 xe]) ∧ Nw w w' ∧ RqAt w' (.slice a xn k) xq
theorem HD2.x {X : Hq × Bool × Int} {w : World} {e : Ending} {w' : World} (h : HD2 X w e w') : HX2 X.1.t X.1.r X.1.W X.1.q.length X.1.q X.2.1 X.2.2 w e w' := by
  obtain ⟨v, rfl, g, hR, _⟩ := h
  obtain ⟨a, k, rfl⟩ := hR.form
  exact ⟨a, k, rfl, g, hR⟩
theorem HR2.x {X : Hq × Bool × Int} {w : World} {e : Ending} {w' : World} (h : HR2 X w e w') : HX2 X.1.t X.1.r X.1.W X.1.q.length X.1.q X.2.1 X.2.2 w e w' := by
  obtain ⟨v, rfl, g, hR, _⟩ := h
  obtain ⟨a, k, rfl⟩ := hR.form
  exact ⟨a, k, rfl, g, hR⟩
theorem HD1.x {X : Hq × Int} {w : World} {e : Ending} {w' : World} (h : HD1 X w e w') : HX1 X.1.t X.1.r X.1.W X.1.q.length X.1.q X.2 w e w' := by
  obtain ⟨v, rfl, g, hR, _⟩ := h
  obtain ⟨a, k, rfl⟩ := hR.form
  exact ⟨a, k, rfl, g, hR⟩
theorem HR1.x {X : Hq × Int} {w : World} {e : Ending} {w' : World} (h : HR1 X w e w') : HX1 X.1.t X.1.r X.1.W X.1.q.length X.1.q X.2 w e w' := by
  obtain ⟨v, rfl, g, hR, _⟩ := h
  obtain ⟨a, k, rfl⟩ := hR.form
  exact ⟨a, k, rfl, g, hR⟩
theorem cOwn (t r W : Int) (v : Value) (q : List Rq) (n : Nat) (hn : q.length = n) (hl : n ≤ 12) (w : World) (h : RqAt w v q) :
    Calls Tryz.prog 11 #[hdV t r v W] w fun e w' => ∃ a k, e = .returned (hdV t r (.slice a n k) W) ∧ Nw w w' ∧ RqAt w' (.slice a n k) q := by
  subst hn
  refine (kOwnHead t r W v q w (by omega) h).mono ?_
  rintro e w' ⟨v', rfl, g, hO⟩
  have hR := RqOwn.rd hO
  obtain ⟨a, k, rfl⟩ := hR.form
  exact ⟨a, k, rfl, g, hR⟩
theorem cSame (t r W : Int) (v v' : Value) (q : List Rq) (w : World) (hl : q.length ≤ 1000) (h : RqAt w v q) (h' : RqAt w v' q) :
    Calls Tryz.prog 9 #[hdV t r v W, hdV t r v' W] w fun e w' => e = .returned (.bool true) ∧ Nw w w' := by
  refine (r9same t r W t r W v v' q q w hl h h').mono ?_
  rintro e w' ⟨f, rfl, g, hf⟩
  rw [hf.2 ⟨rfl, rfl, rfl, rfl⟩]
  exact ⟨rfl, g⟩
/-- Both Sames answer one thing. -/
theorem cBoth (t r W t2 r2 W2 : Int) (q q2 : List Rq) : ∃ F : Bool, ∀ f : Bool, (f = true ↔ t = t2 ∧ r = r2 ∧ W = W2 ∧ q = q2) → f = F := by
  by_cases h : t = t2 ∧ r = r2 ∧ W = W2 ∧ q = q2
  · exact ⟨true, fun f hf => hf.2 h⟩
  · refine ⟨false, fun f hf => ?_⟩
    cases f with
    | false => rfl
    | true => exact absurd (hf.1 rfl) h
theorem fndV_form (q : List Rq) (id : Int) : ∃ (f0 f1 f2 f3 f4 : Int) (b : Bool), fndV q id = .tuple #[.agg #[.int .i64 f0, .int .i64 f1, .int .i64 f2, .int .i64 f3, .int .i64 f4], .bool b] := by
  unfold fndV
  cases fnd q id with
  | none => exact ⟨0, 0, 0, 0, 0, false, rfl⟩
  | some R => exact ⟨R.id, R.txn, R.md, R.wt, R.sn, true, rfl⟩
theorem lv_lenR (h : Hq) (id : Int) (hl : h.q.length ≤ 12) : (lvR h id).1.q.length ≤ 13 := by
  unfold lvR
  cases fnd h.q id with
  | none => simp [noH]
  | some R => have := lvQ_len id h.q; show (lvQ id h.q).length ≤ 13; omega
theorem ab_lenR (h : Hq) (id : Int) (hl : h.q.length ≤ 12) : (abRes h id).1.q.length ≤ 13 := by
  unfold abRes
  cases fnd h.q id with
  | none => simp [noH]
  | some R =>
    by_cases s : 0 < R.sn
    · simp only [if_pos s]; have := abQ_len R h.q; omega
    · simp only [if_neg s]; simp [noH]
theorem hn_lenR (h : Hq) (id txn : Int) (hl : h.q.length ≤ 12) : (hnR h id txn).1.q.length ≤ 13 := by
  unfold hnR
  cases fnd h.q id with
  | none => simp [noH]
  | some R =>
    simp only
    split
    · simp [noH]
    split
    · simp [noH]
    · simp only [chg_len]; omega
theorem ask_lenR (h : Hq) (id txn m : Int) (hl : h.q.length ≤ 12) : (askR h id txn m).1.q.length ≤ 13 := by
  unfold askR
  split
  · have := (askQ_W h.W h.q id txn m).2.2
    simp only
    omega
  · simp [noH]
theorem up_lenR (h : Hq) (id m : Int) (hl : h.q.length ≤ 12) : (upR h id m).1.q.length ≤ 13 := by
  unfold upR
  split
  · simp [noH]
  cases fnd h.q id with
  | none => simp [noH]
  | some R =>
    simp only
    split
    · simp [noH]
    · have := (upQ_W h.W h.q R m).2.2
      simp only
      omega
end Go.Proofs.YtmciiobncfchlaaGreat
end
