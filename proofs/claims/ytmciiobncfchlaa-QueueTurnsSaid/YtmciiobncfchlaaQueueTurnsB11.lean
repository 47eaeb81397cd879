/- Texts merged: QwB, QwC, QwD, QwE, QwF, QwG, QwH, QwI, QhA, QhB, QvX -/
import Derived.Test.YtmciiobncfchlaaQueueTurnsB10
import Derived.Maps.OwnSet

/- The developers' package queue: Blockers. -/
section
namespace Go.Proofs.Ytmciiobncfchlaa
open Go.RowKit
set_option linter.unusedVariables false      -- a contract need not use every name

/-- Because of whom a request waits, in the order of the queue. -/
def bkC (S R : Rq) : Bool := !(R.id == S.id) && ((decide (0 < R.sn) && decide (toI R S < 0)) || !cpI R.md S.wt)
def bkT (q : List Rq) (S : Rq) (k : Nat) : List Int := ((q.take k).filter (bkC S)).map fun R => R.txn
theorem bkT_succ (q : List Rq) (S : Rq) (k : Nat) (hk : k < q.length) : bkT q S (k + 1) = if bkC S q[k] = true then bkT q S k ++ [q[k].txn] else bkT q S k := by
  unfold bkT
  rw [List.take_add_one, List.getElem?_eq_getElem hk, List.filter_append, List.map_append]
  by_cases e : bkC S q[k] = true
  · rw [if_pos e]; simp [e]
  · rw [if_neg e]; simp at e; simp [e]
theorem bkT_len (q : List Rq) (S : Rq) (k : Nat) : (bkT q S k).length ≤ q.length := by
  unfold bkT
  rw [List.length_map]
  exact Nat.le_trans (List.length_filter_le _ _) (by rw [List.length_take]; omega)
theorem bk_blk {W : Int} {q : List Rq} (h : Ok W q) {S R : Rq} (hS : S ∈ q) (hR : R ∈ q) (hw : 0 < S.sn) (ne : R.id ≠ S.id) : bkC S R = blk S R := by
  have h1 := h.rt R hR
  have h2 := h.rt S hS
  have hz : R.md = 0 → 0 < R.sn := fun e => by
    rcases Int.lt_or_eq_of_le h1.s0 with g | g
    · exact g
    · exact absurd e (h1.h g.symm).1
  have hc0 : R.md = 0 → cpI R.md S.wt = true := fun e => by rw [e]; exact cp_zero _ h2.wt
  unfold bkC blk
  rw [Bool.eq_iff_iff]
  simp only [Bool.and_eq_true, Bool.or_eq_true, Bool.not_eq_true', beq_eq_false_iff_ne, ne_eq, decide_eq_true_eq, bne_iff_ne, beq_iff_eq, ahead_iff]
  constructor
  · rintro ⟨_, ⟨a, b | b⟩ | b⟩
    · exact .inl (.inr ⟨⟨b.1, a⟩, .inl b.2⟩)
    · by_cases e : R.md = 0
      · exact .inr ⟨⟨b.1.1 e, e⟩, b.2⟩
      · exact .inl (.inr ⟨⟨e, a⟩, .inr b.2⟩)
    · by_cases e : R.md = 0
      · rw [hc0 e] at b; cases b
      · exact .inl (.inl ⟨e, b⟩)
  · rintro ((⟨a, b⟩ | ⟨⟨a, b⟩, c⟩) | ⟨⟨a, b⟩, c⟩)
    · exact ⟨ne, .inr b⟩
    · refine ⟨ne, .inl ⟨b, ?_⟩⟩
      by_cases e : S.md = 0
      · exact .inl ⟨a, e⟩
      · rcases c with c | c
        · exact absurd c e
        · exact .inr ⟨by simp [a, e], c⟩
    · exact ⟨ne, .inl ⟨hz b, .inr ⟨by simp [a, b], c⟩⟩⟩
theorem bk_all {W : Int} {q : List Rq} (h : Ok W q) {S : Rq} (hS : S ∈ q) (hw : 0 < S.sn) : Lib.compact ((bkT q S q.length).mergeSort fun x y => decide (x ≤ y)) = blkL q S := by
  obtain ⟨h1, h2⟩ := cmp_sorted (bkT q S q.length)
  refine sorted_ext h1 (blkL_sorted q S) (fun x => ?_)
  rw [h2 x, blkL_mem]
  unfold bkT
  rw [List.take_of_length_le (Nat.le_refl _), List.mem_map]
  constructor
  · rintro ⟨R, hR, e⟩
    obtain ⟨hR, hc⟩ := List.mem_filter.1 hR
    have ne : R.id ≠ S.id := by unfold bkC at hc; simp at hc; exact hc.1
    exact ⟨R, hR, ne, by rw [← bk_blk h hS hR hw ne]; exact hc, e⟩
  · rintro ⟨R, hR, ne, hc, e⟩
    exact ⟨R, List.mem_filter.2 ⟨hR, by rw [bk_blk h hS hR hw ne]; exact hc⟩, e⟩
set_option maxRecDepth 100000 in
set_option maxHeartbeats 8000000 in
theorem dBlockers (t r W id : Int) (v : Value) (q : List Rq) (w : World) (hl : q.length ≤ 1000) (hok : Ok W q) (h : RqAt w v q) :
    Calls Try.prog 20 #[hdV t r v W, .int .i64 id] w fun e w' => ∃ v', e = .returned v' ∧ Nw w w' ∧ IS w' v' (blkR q id) := by
  have HOk := Lib.hid hok
  have HAt := Lib.hid h
  clear hok
  obtain ⟨X, hX⟩ : ∃ X, blkR q id = X := ⟨_, rfl⟩
  rw [hX]
  have HFq := Lib.hid (fun (z : World) (g : Nw w z) => dFindQ t r W id v q z hl (h.nw g))
  obtain ⟨a, c, rfl, _⟩ := h
  unfold hdV at HFq ⊢
  have hx1 := allocAt w (.cells #[.int .i64 t, .int .i64 r, .slice a q.length c, .int .i64 W] 27)
  have hN : Nw w (w.alloc (.cells #[.int .i64 t, .int .i64 r, .slice a q.length c, .int .i64 W] 27)) := (Nw.refl w).alloc _
  obtain ⟨w1, hw1⟩ : ∃ w1, w.alloc (.cells #[.int .i64 t, .int .i64 r, .slice a q.length c, .int .i64 W] 27) = w1 := ⟨_, rfl⟩
  rw [hw1] at hx1 hN
  have HW1 := Lib.hid hw1
  have HB := Lib.hid (And.intro hx1 hN)
  have HFq1 := Lib.hid (HFq.out w1 hN)
  have c0 := hcell (j := 0) hx1
  have c1 := hcell (j := 1) hx1
  have c2 := hcell (j := 2) hx1
  have c3 := hcell (j := 3) hx1
  have hpl := hlt hx1
  clear hw1 hx1 hN HFq
  unfold fndV at HFq1
  cases hf : fnd q id with
  | none =>
    rw [hf] at HFq1
    simp only at HFq1
    have hR := hX.symm.trans (show blkR q id = [] by unfold blkR; rw [hf])
    subst hR
    unfold rqV at HFq1
    clear hX hf
    go_enter Try.func20, Try.ntmps20
    go_wp2_with fail
    rw [HW1.out]
    go_wp2_with fail
    go_at_call 15
    refine HFq1.out.mono ?_
    rintro e w2 ⟨rfl, g2⟩
    have HG := Lib.hid (HB.out.2.trans g2)
    clear c0 c1 c2 c3 hpl g2 HFq1
    go_wp2
    go_ret
    exact ⟨_, rfl, HG.out.alloc _, IS.nil _⟩
  | some S =>
    rw [hf] at HFq1
    simp only at HFq1
    have hS := (fnd_is hf).1
    have hSi := (fnd_is hf).2
    have hX1 : ¬ 0 < S.sn → X = [] := fun s => hX.symm.trans (by unfold blkR; rw [hf]; exact if_neg s)
    have hX2 : 0 < S.sn → X = blkL q S := fun s => hX.symm.trans (by unfold blkR; rw [hf]; exact if_pos s)
    have HX1 := Lib.hid hX1
    have HX2 := Lib.hid hX2
    have HSq := Lib.hid (And.intro hS hSi)
    have HWa := Lib.hid (fun z => dWaits S z)
    have HAh := Lib.hid (fun z => dAheadOf S z)
    clear hX hf hX1 hX2 hS hSi
    have HSv : Hid (S = ⟨S.id, S.txn, S.md, S.wt, S.sn⟩) := Lib.hid rfl
    obtain ⟨s0, s1, s2, s3, s4⟩ := S
    simp only at HX1 HX2 HAh HSq
    unfold rqV at HFq1 HWa HAh
    clear HSv
    go_enter Try.func20, Try.ntmps20
    go_wp2_with fail
    rw [HW1.out]
    go_wp2_with fail
    go_at_call 15
    refine HFq1.out.mono ?_
    rintro e w2 ⟨rfl, g2⟩
    have hb3 := RqB.made w2 s0 s1 s2 s3 s4 41
    obtain ⟨w3, hw3⟩ : ∃ w3, w2.alloc (.cells #[.int .i64 s0, .int .i64 s1, .int .i64 s2, .int .i64 s3, .int .i64 s4] 41) = w3 := ⟨_, rfl⟩
    have g3 : Nw w2 w3 := by rw [← hw3]; exact (Nw.refl w2).alloc _
    rw [hw3] at hb3
    have HW3 := Lib.hid hw3
    have HB3 := Lib.hid (And.intro hb3 (And.intro ((HB.out.2.trans g2).trans g3) (g3.at' (g2.at' HB.out.1))))
    obtain ⟨yl, y0, y1, y2, y3, y4⟩ := hb3
    clear c0 c1 c2 c3 hpl g2 g3 hw3 HFq1
    go_wp2_with fail
    rw [HW3.out]
    go_wp2_with fail
    go_at_call 42
    refine (HWa.out _).mono ?_
    rintro e w4 ⟨rfl, g4⟩
    have HB4 := Lib.hid (And.intro (HB3.out.1.nw g4) (And.intro (HB3.out.2.1.trans g4) (g4.at' HB3.out.2.2)))
    clear yl y0 y1 y2 y3 y4 g4 HWa
    by_cases hs : 0 < s4
    rotate_left
    · have ds : decide (0 < s4) = false := by simpa using hs
      have hR := HX1.out (by first | exact hs | exact Int.not_lt.1 hs)
      subst hR
      clear hs HX1 HX2
      go_wp2
      go_ret
      exact ⟨_, rfl, HB4.out.2.1, IS.nil _⟩
    have ds : decide (0 < s4) = true := by simpa using hs
    have hR := HX2.out hs
    have HAll := Lib.hid (bk_all HOk.out HSq.out.1 hs)
    rw [← hR] at HAll
    obtain ⟨yl, y0, y1, y2, y3, y4⟩ := HB4.out.1
    clear hs HX1 HX2 hR
    go_wp2_with fail
    go_at_call 50
    refine (HAh.out _).mono ?_
    rintro e w5 ⟨pa, rfl, g5, hbx⟩
    obtain ⟨g, lb, hfv, eg, hT⟩ := Tells.ahead (S := ⟨s0, s1, s2, s3, s4⟩) hbx
    have HT := Lib.hid hT
    have HB5 := Lib.hid (And.intro (HB4.out.1.nw g5) (And.intro (HB4.out.2.1.trans g5) (g5.at' HB4.out.2.2)))
    have c2 := hcell (j := 2) HB5.out.2.2
    have hpl := hlt HB5.out.2.2
    rw [hfv]
    clear yl y0 y1 y2 y3 y4 g5 hbx hT hfv HAh ds
    go_wp2
    clear c2 hpl
    go_loopw [8, 29] (fun x i wr => ∃ k : Nat, k ≤ q.length ∧ i = .int .i64 k ∧ IS wr x (bkT q ⟨s0, s1, s2, s3, s4⟩ k) ∧ Nw w5 wr ∧ ∀ g, x.ownBlock = some g → w5.heap.size ≤ g) (fun _ i _ => q.length - (intOf i).toNat)
    case atStart => exact ⟨0, Nat.zero_le _, rfl, IS.nil _, Nw.refl _, fun g e => by simp [Value.ownBlock] at e⟩
    case round =>
      obtain ⟨k, hk, rfl, hI, hN, hfr⟩ := hrel
      by_cases hlk : k < q.length
      · obtain ⟨a', c', e, ⟨e4, _⟩ | ⟨b, o, e4, hc⟩⟩ := (HAt.out.nw (HB5.out.2.1.trans hN))
        · subst e4; simp at hlk
        simp only [Value.slice.injEq, true_and] at e
        obtain ⟨rfl, rfl⟩ := e
        subst e4
        have hki : (k : Int) < (q.length : Int) := by omega
        have hstep := bkT_succ q ⟨s0, s1, s2, s3, s4⟩ k hlk
        have hce := hc.cell k hlk
        have HKn := Lib.hid (And.intro (HOk.out.rt _ (List.getElem_mem hlk)).md (HOk.out.rt _ HSq.out.1).wt)
        have HTk := Lib.hid (fun (z : World) (g : Nw w5 z) => HT.out q[k] z g)
        generalize q[k] = R at *
        obtain ⟨b0, b1, b2, b3, b4⟩ := R
        unfold rqV at HTk
        have e0 := hce 0 _ rfl
        have e1 := hce 1 _ rfl
        have e2 := hce 2 _ rfl
        have e3 := hce 3 _ rfl
        have e4 := hce 4 _ rfl
        simp only [Nat.add_zero] at e0
        simp only at hstep HTk HKn
        have hbk : bkC ⟨s0, s1, s2, s3, s4⟩ ⟨b0, b1, b2, b3, b4⟩ = (!(b0 == s0) && ((decide (0 < b4) && decide (toI ⟨b0, b1, b2, b3, b4⟩ ⟨s0, s1, s2, s3, s4⟩ < 0)) || !cpI b2 s3)) := rfl
        have g6 : Nw wr (wr.alloc (.cells #[.int .i64 b0, .int .i64 b1, .int .i64 b2, .int .i64 b3, .int .i64 b4] 41)) := (Nw.refl wr).alloc _
        obtain ⟨w6, hw6⟩ : ∃ w6, wr.alloc (.cells #[.int .i64 b0, .int .i64 b1, .int .i64 b2, .int .i64 b3, .int .i64 b4] 41) = w6 := ⟨_, rfl⟩
        have hs6 : w6.heap.size = wr.heap.size + 1 := by rw [← hw6]; simp
        have hq6 := RqB.made wr b0 b1 b2 b3 b4 41
        rw [hw6] at g6 hq6
        have HQ6 := Lib.hid hq6
        obtain ⟨hlq, x0, x1, x2, x3, x4⟩ := hq6
        have HI := Lib.hid (And.intro (hI.nw g6) (And.intro (hN.trans g6) hfr))
        have HW6 := Lib.hid hw6
        have HCp := Lib.hid (fun z => dCp b2 s3 z HKn.out.1 HKn.out.2)
        obtain ⟨A, hA⟩ : ∃ A, (decide (0 < b4) && decide (toI ⟨b0, b1, b2, b3, b4⟩ ⟨s0, s1, s2, s3, s4⟩ < 0)) = A := ⟨_, rfl⟩
        obtain ⟨B, hB⟩ : ∃ B, cpI b2 s3 = B := ⟨_, rfl⟩
        rw [hA] at hbk HTk
        rw [hB] at hbk HCp
        have hy3 : ∀ z, Nw w5 z → z.cell? ⟨w2.heap.size, 3, none⟩ = some (.int .i64 s3) := fun z hz => hz.kp HB5.out.1.c3
        clear hce hI hN hfr g6 hw6 hA hB hc
        by_cases hi : b0 = s0
        · have di : (b0 != id) = false := by have := HSq.out.2; simp [hi, this]
          have hst : bkT q ⟨s0, s1, s2, s3, s4⟩ (k + 1) = bkT q ⟨s0, s1, s2, s3, s4⟩ k := by rw [hstep, if_neg (by rw [hbk]; simp [hi])]
          have HS := Lib.hid hst
          clear hstep hst hi hbk
          go_wp2_with fail
          go_roundw
          case rel => exact ⟨k + 1, by omega, by go_num, by rw [HS.out]; first | exact HI.out.1 | (rw [HW6.out]; exact HI.out.1), by first | exact HI.out.2.1 | (rw [HW6.out]; exact HI.out.2.1), HI.out.2.2⟩
          case measure => simp [intOf]; omega
        · have di : (b0 != id) = true := by have := HSq.out.2; rw [← this]; simpa using hi
          have hnb : (b0 == s0) = false := by simpa using hi
          rw [hnb] at hbk
          clear hi hnb
          cases A
          · cases B
            · -- stands in the way by what it holds
              have hst : bkT q ⟨s0, s1, s2, s3, s4⟩ (k + 1) = bkT q ⟨s0, s1, s2, s3, s4⟩ k ++ [b1] := by rw [hstep, if_pos (by rw [hbk]; rfl)]
              have HS := Lib.hid hst
              clear hstep hst hbk
              go_wp2_with fail
              rw [HW6.out]
              go_wp2_with fail
              go_at_fn g
              refine (HTk.out _ HI.out.2.1).mono ?_
              rintro e w7 ⟨rfl, g7⟩
              have hz3 := hy3 _ (HI.out.2.1.trans g7)
              have hzl := World.block_lt_of_cell? _ _ hz3
              obtain ⟨zl, z0, z1, z2, z3, z4⟩ := HQ6.out.nw g7
              have G7 := Lib.hid g7
              clear x0 x1 x2 x3 x4 hlq e0 e1 e2 e3 e4 g7
              go_wp2_with fail
              go_at_call 51
              refine (HCp.out _).mono ?_
              rintro e w8 ⟨rfl, g8⟩
              have hI8 := HI.out.1.nw (G7.out.trans g8)
              obtain ⟨v', w9, hr, q1, q2, q3, ⟨g', cap', hv'⟩⟩ := IS.push w8 _ (bkT q ⟨s0, s1, s2, s3, s4⟩ k) b1 hI8 (by have := bkT_len q ⟨s0, s1, s2, s3, s4⟩ k; omega)
              have HR := Lib.hid hr
              have HN8 := Lib.hid ((HI.out.2.1.trans G7.out).trans g8)
              have HE : Hid (IS w9 v' (bkT q ⟨s0, s1, s2, s3, s4⟩ (k + 1)) ∧ Nw w5 w9 ∧ ∀ g, v'.ownBlock = some g → w5.heap.size ≤ g) := Lib.hid ⟨by rw [HS.out]; exact q1, nw_tch HN8.out q2 (fun i e => HI.out.2.2 i e), fun g e => by
                rcases q3 g e with h | h
                · exact HI.out.2.2 g h
                · have := HN8.out.sz; omega⟩
              obtain ⟨zl', z0', z1', z2', z3', z4'⟩ := (HQ6.out.nw G7.out).nw g8
              clear hr q1 q2 q3 hI8 g8 hv' zl z0 z1 z2 z3 z4 hz3 hzl
              go_wp2_with (at_builtin; (refine wpl_app (by rfl) (.tmp 50) (.tmp 53) 36 rfl _ _ _ _ rfl rfl HR.out ?_))
              go_roundw
              case rel => exact ⟨k + 1, by omega, by go_num, HE.out⟩
              case measure => simp [intOf]; omega
            · have hst : bkT q ⟨s0, s1, s2, s3, s4⟩ (k + 1) = bkT q ⟨s0, s1, s2, s3, s4⟩ k := by rw [hstep, if_neg (by rw [hbk]; simp)]
              have HS := Lib.hid hst
              clear hstep hst hbk
              go_wp2_with fail
              rw [HW6.out]
              go_wp2_with fail
              go_at_fn g
              refine (HTk.out _ HI.out.2.1).mono ?_
              rintro e w7 ⟨rfl, g7⟩
              have hz3 := hy3 _ (HI.out.2.1.trans g7)
              have hzl := World.block_lt_of_cell? _ _ hz3
              obtain ⟨zl, z0, z1, z2, z3, z4⟩ := HQ6.out.nw g7
              have G7 := Lib.hid g7
              clear x0 x1 x2 x3 x4 hlq e0 e1 e2 e3 e4 g7
              go_wp2_with fail
              go_at_call 51
              refine (HCp.out _).mono ?_
              rintro e w8 ⟨rfl, g8⟩
              have G8 := Lib.hid (G7.out.trans g8)
              clear g8 zl z0 z1 z2 z3 z4 hz3 hzl
              go_wp2
              go_roundw
              case rel => exact ⟨k + 1, by omega, by go_num, by rw [HS.out]; exact HI.out.1.nw G8.out, HI.out.2.1.trans G8.out, HI.out.2.2⟩
              case measure => simp [intOf]; omega
          · have hst : bkT q ⟨s0, s1, s2, s3, s4⟩ (k + 1) = bkT q ⟨s0, s1, s2, s3, s4⟩ k ++ [b1] := by rw [hstep, if_pos (by rw [hbk]; simp)]
            have HS := Lib.hid hst
            clear hstep hst hbk
            go_wp2_with fail
            rw [HW6.out]
            go_wp2_with fail
            go_at_fn g
            refine (HTk.out _ HI.out.2.1).mono ?_
            rintro e w8 ⟨rfl, g8⟩
            have hI8 := HI.out.1.nw g8
            obtain ⟨v', w9, hr, q1, q2, q3, ⟨g', cap', hv'⟩⟩ := IS.push w8 _ (bkT q ⟨s0, s1, s2, s3, s4⟩ k) b1 hI8 (by have := bkT_len q ⟨s0, s1, s2, s3, s4⟩ k; omega)
            have HR := Lib.hid hr
            have HN8 := Lib.hid (HI.out.2.1.trans g8)
            have HE : Hid (IS w9 v' (bkT q ⟨s0, s1, s2, s3, s4⟩ (k + 1)) ∧ Nw w5 w9 ∧ ∀ g, v'.ownBlock = some g → w5.heap.size ≤ g) := Lib.hid ⟨by rw [HS.out]; exact q1, nw_tch HN8.out q2 (fun i e => HI.out.2.2 i e), fun g e => by
              rcases q3 g e with h | h
              · exact HI.out.2.2 g h
              · have := HN8.out.sz; omega⟩
            obtain ⟨zl', z0', z1', z2', z3', z4'⟩ := HQ6.out.nw g8
            clear hr q1 q2 q3 hI8 g8 hv' x0 x1 x2 x3 x4 hlq e0 e1 e2 e3 e4
            go_wp2_with (at_builtin; (refine wpl_app (by rfl) (.tmp 50) (.tmp 53) 36 rfl _ _ _ _ rfl rfl HR.out ?_))
            go_roundw
            case rel => exact ⟨k + 1, by omega, by go_num, HE.out⟩
            case measure => simp [intOf]; omega
      · obtain rfl : k = q.length := by omega
        have HSo := Lib.hid (dSortI _ _ _ hI (Nat.le_trans (bkT_len q _ _) hl))
        have HE := Lib.hid (And.intro hN hfr)
        clear hI hN hfr
        go_wp2_with fail
        go_at_call 52
        refine HSo.out.mono ?_
        rintro e w9 ⟨rfl, hI9, hT9⟩
        have HCm := Lib.hid (dCompactI _ _ _ hI9 (by rw [List.length_mergeSort]; exact Nat.le_trans (bkT_len q _ _) hl))
        have HN9 := Lib.hid (nw_tch HE.out.1 hT9 (fun i e => HE.out.2 i e))
        clear hI9 hT9
        go_wp2_with fail
        go_at_call 53
        refine HCm.out.mono ?_
        rintro e w10 ⟨v10, rfl, hI10, _, hT10⟩
        have HZ := Lib.hid (And.intro hI10 (nw_tch HN9.out hT10 (fun i e => HE.out.2 i e)))
        clear hI10 hT10
        go_wp2
        go_ret
        exact ⟨_, rfl, HB5.out.2.1.trans HZ.out.2, by rw [← HAll.out]; exact HZ.out.1⟩
end Go.Proofs.Ytmciiobncfchlaa
end

/- The developers' package queue: what a request of a valid head is. -/
section
namespace Go.Proofs.Ytmciiobncfchlaa
open Go.RowKit
set_option linter.unusedVariables false      -- a contract need not use every name

theorem dKnownS (m : Int) (w : World) : Calls Try.prog 69 #[.int .i64 m] w fun e w' => e = .returned (.bool (knI m)) ∧ w = w' := by
  by_cases h : 0 ≤ m ∧ m < 7
  · refine (known_yes m w h.1 h.2).mono ?_
    rintro e w' ⟨rfl, rfl⟩
    exact ⟨by rw [(knI_iff m).2 h], rfl⟩
  · refine (known_no m w (by omega)).mono ?_
    rintro e w' ⟨rfl, rfl⟩
    have : knI m = false := by
      cases e : knI m with
      | false => rfl
      | true => exact absurd ((knI_iff m).1 e) h
    exact ⟨by rw [this], rfl⟩
theorem dCovers (a b : Int) (w : World) : Calls Try.prog 105 #[.int .i64 a, .int .i64 b] w fun e w' => e = .returned (.bool (cvI a b)) ∧ Nw w w' := by
  have K1 := Lib.hid (fun w => dKnownS a w)
  have K2 := Lib.hid (fun w => dKnownS b w)
  unfold cvI
  cases h1 : knI a with
  | false =>
    rw [h1] at K1
    go_enter Try.func105, Try.ntmps105
    go_wp2_with (go_at_call 69; refine (K1.out _).mono ?_; rintro e w' ⟨rfl, rfl⟩)
    go_ret
    exact ⟨rfl, Nw.refl _⟩
  | true =>
    rw [h1] at K1
    cases h2 : knI b with
    | false =>
      rw [h2] at K2
      go_enter Try.func105, Try.ntmps105
      go_wp2_with fail
      go_at_call 69
      refine (K1.out _).mono ?_
      rintro e w' ⟨rfl, rfl⟩
      go_wp2_with fail
      go_at_call 69
      refine (K2.out _).mono ?_
      rintro e w' ⟨rfl, rfl⟩
      go_wp2
      go_ret
      exact ⟨rfl, Nw.refl _⟩
    | true =>
      rw [h2] at K2
      have HS := Lib.hid (fun w => dSup a b w h1 h2)
      generalize supT a b = x at *
      obtain ⟨B, hB⟩ : ∃ B, (x == a) = B := ⟨_, rfl⟩
      rw [hB]
      clear h1 h2
      go_enter Try.func105, Try.ntmps105
      go_wp2_with fail
      go_at_call 69
      refine (K1.out _).mono ?_
      rintro e w' ⟨rfl, rfl⟩
      go_wp2_with fail
      go_at_call 69
      refine (K2.out _).mono ?_
      rintro e w' ⟨rfl, rfl⟩
      go_wp2_with fail
      go_at_call 43
      refine (HS.out _).mono ?_
      rintro e w2 ⟨rfl, g2⟩
      go_wp2
      go_ret
      exact ⟨by simp, g2⟩
set_option maxRecDepth 100000 in
set_option maxHeartbeats 2000000 in
theorem dFormed (a b m n s W : Int) (w : World) : Calls Try.prog 84 #[.agg #[.int .i64 a, .int .i64 b, .int .i64 m, .int .i64 n, .int .i64 s], .int .i64 W] w fun e w' => e = .returned (.bool (rtB W ⟨a, b, m, n, s⟩)) ∧ Nw w w' := by
  have hK1 := fun w => dKnownS m w
  have hK2 := fun w => dKnownS n w
  have hCV := fun w => dCovers m n w
  have HWa := Lib.hid (fun z => dWaits ⟨a, b, m, n, s⟩ z)
  have HHo := Lib.hid (fun z => dHolds ⟨a, b, m, n, s⟩ z)
  unfold rqV at HWa HHo
  simp only at HWa HHo
  unfold rtB
  simp only
  generalize knI m = k1 at *
  generalize knI n = k2 at *
  generalize cvI m n = cv at *
  have K1 := Lib.hid hK1
  have K2 := Lib.hid hK2
  have CV := Lib.hid hCV
  clear hK1 hK2 hCV
  by_cases h1 : a < 0
  · rw [show (!(((((decide (a < 0) || !k1) || !k2) || decide (s < 0)) || decide (W < s))) && (if 0 < s then !cv else ((m != 0) && (n == m)))) = false by simp [h1]]
    go_enter Try.func84, Try.ntmps84
    go_wp2
    go_ret
    exact ⟨rfl, (Nw.refl _).alloc _⟩
  by_cases h4 : s < 0
  · rw [show (!(((((decide (a < 0) || !k1) || !k2) || decide (s < 0)) || decide (W < s))) && (if 0 < s then !cv else ((m != 0) && (n == m)))) = false by simp [h4]]
    go_enter Try.func84, Try.ntmps84
    go_wp2
    go_ret
    exact ⟨rfl, (Nw.refl _).alloc _⟩
  by_cases h5 : W < s
  · rw [show (!(((((decide (a < 0) || !k1) || !k2) || decide (s < 0)) || decide (W < s))) && (if 0 < s then !cv else ((m != 0) && (n == m)))) = false by simp [h5]]
    go_enter Try.func84, Try.ntmps84
    go_wp2
    go_ret
    exact ⟨rfl, (Nw.refl _).alloc _⟩
  cases k1
  · rw [show (!(((((decide (a < 0) || !false) || !k2) || decide (s < 0)) || decide (W < s))) && (if 0 < s then !cv else ((m != 0) && (n == m)))) = false by simp]
    go_enter Try.func84, Try.ntmps84
    go_wp2_with fail
    go_at_call 69
    refine (K1.out _).mono ?_
    rintro e w' ⟨rfl, rfl⟩
    go_wp2
    go_ret
    exact ⟨rfl, (Nw.refl _).alloc _⟩
  cases k2
  · rw [show (!(((((decide (a < 0) || !true) || !false) || decide (s < 0)) || decide (W < s))) && (if 0 < s then !cv else ((m != 0) && (n == m)))) = false by simp]
    go_enter Try.func84, Try.ntmps84
    go_wp2_with fail
    go_at_call 69
    refine (K1.out _).mono ?_
    rintro e w' ⟨rfl, rfl⟩
    go_wp2_with fail
    go_at_call 69
    refine (K2.out _).mono ?_
    rintro e w' ⟨rfl, rfl⟩
    go_wp2
    go_ret
    exact ⟨rfl, (Nw.refl _).alloc _⟩
  by_cases h6 : 0 < s
  · rw [show (!(((((decide (a < 0) || !true) || !true) || decide (s < 0)) || decide (W < s))) && (if 0 < s then !cv else ((m != 0) && (n == m)))) = !cv by simp [h1, h4, h5, h6]]
    have d6 : decide (0 < s) = true := by simpa using h6
    have hb := RqB.made w a b m n s 41
    obtain ⟨w1, hw1⟩ : ∃ w1, w.alloc (.cells #[.int .i64 a, .int .i64 b, .int .i64 m, .int .i64 n, .int .i64 s] 41) = w1 := ⟨_, rfl⟩
    have g1 : Nw w w1 := by rw [← hw1]; exact (Nw.refl w).alloc _
    rw [hw1] at hb
    have HW1 := Lib.hid hw1
    have HB := Lib.hid (And.intro hb g1)
    obtain ⟨yl, y0, y1, y2, y3, y4⟩ := hb
    clear hw1 g1
    go_enter Try.func84, Try.ntmps84
    go_wp2_with fail
    rw [HW1.out]
    go_wp2_with fail
    go_at_call 69
    refine (K1.out _).mono ?_
    rintro e w' ⟨rfl, rfl⟩
    go_wp2_with fail
    go_at_call 69
    refine (K2.out _).mono ?_
    rintro e w' ⟨rfl, rfl⟩
    go_wp2_with fail
    go_at_call 42
    refine (HWa.out _).mono ?_
    rintro e w2 ⟨rfl, g2⟩
    have HB2 := Lib.hid (And.intro (HB.out.1.nw g2) (HB.out.2.trans g2))
    clear yl y0 y1 y2 y3 y4 g2
    obtain ⟨yl, y0, y1, y2, y3, y4⟩ := HB2.out.1
    go_wp2_with fail
    go_at_call 105
    refine (CV.out _).mono ?_
    rintro e w4 ⟨rfl, g4⟩
    go_wp2
    go_ret
    exact ⟨rfl, HB2.out.2.trans g4⟩
  · rw [show (!(((((decide (a < 0) || !true) || !true) || decide (s < 0)) || decide (W < s))) && (if 0 < s then !cv else ((m != 0) && (n == m)))) = ((m != 0) && (n == m)) by simp [h1, h4, h5, h6]]
    have d6 : decide (0 < s) = false := by simpa using h6
    obtain ⟨M, hM⟩ : ∃ M, (m != 0) = M := ⟨_, rfl⟩
    rw [hM] at HHo ⊢
    clear hM
    have hb := RqB.made w a b m n s 41
    obtain ⟨w1, hw1⟩ : ∃ w1, w.alloc (.cells #[.int .i64 a, .int .i64 b, .int .i64 m, .int .i64 n, .int .i64 s] 41) = w1 := ⟨_, rfl⟩
    have g1 : Nw w w1 := by rw [← hw1]; exact (Nw.refl w).alloc _
    rw [hw1] at hb
    have HW1 := Lib.hid hw1
    have HB := Lib.hid (And.intro hb g1)
    obtain ⟨yl, y0, y1, y2, y3, y4⟩ := hb
    clear hw1 g1
    go_enter Try.func84, Try.ntmps84
    go_wp2_with fail
    rw [HW1.out]
    go_wp2_with fail
    go_at_call 69
    refine (K1.out _).mono ?_
    rintro e w' ⟨rfl, rfl⟩
    go_wp2_with fail
    go_at_call 69
    refine (K2.out _).mono ?_
    rintro e w' ⟨rfl, rfl⟩
    go_wp2_with fail
    go_at_call 42
    refine (HWa.out _).mono ?_
    rintro e w2 ⟨rfl, g2⟩
    have HB2 := Lib.hid (And.intro (HB.out.1.nw g2) (HB.out.2.trans g2))
    clear yl y0 y1 y2 y3 y4 g2
    obtain ⟨yl, y0, y1, y2, y3, y4⟩ := HB2.out.1
    go_wp2_with fail
    go_at_call 47
    refine (HHo.out _).mono ?_
    rintro e w4 ⟨rfl, g4⟩
    have HB4 := Lib.hid (And.intro (HB2.out.1.nw g4) (HB2.out.2.trans g4))
    clear yl y0 y1 y2 y3 y4 g4
    obtain ⟨yl, y0, y1, y2, y3, y4⟩ := HB4.out.1
    cases M
    · go_wp2
      go_ret
      exact ⟨by simp, HB4.out.2⟩
    · go_wp2
      go_ret
      exact ⟨by simp, HB4.out.2⟩
end Go.Proofs.Ytmciiobncfchlaa
end

/- The developers' package queue: the functions of a request that Check hands on. -/
section
namespace Go.Proofs.Ytmciiobncfchlaa
open Go.RowKit
set_option linter.unusedVariables false      -- a contract need not use every name

theorem dValid1 (W : Int) (R : Rq) (p : Nat) (w : World) (h : w.cell? ⟨p, 3, none⟩ = some (.int .i64 W)) :
    Calls Try.prog 83 #[rqV R, .pointer (some ⟨p, 0, none⟩)] w fun e w' => e = .returned (.bool (!rtB W R)) ∧ Nw w w' := by
  obtain ⟨a, b, m, n, s⟩ := R
  have HF := Lib.hid (fun z => dFormed a b m n s W z)
  have hpl := World.block_lt_of_cell? _ _ h
  unfold rqV
  generalize rtB W ⟨a, b, m, n, s⟩ = B at *
  have hN : Nw w (w.alloc (.cells #[.int .i64 a, .int .i64 b, .int .i64 m, .int .i64 n, .int .i64 s] 41)) := (Nw.refl w).alloc _
  go_enter Try.func83, Try.ntmps83
  go_wp2_with (go_at_call 84; refine (HF.out _).mono ?_; rintro e w2 ⟨rfl, g2⟩)
  go_ret
  exact ⟨rfl, hN.trans g2⟩
theorem Tells.valid {w : World} {W : Int} {p : Nat} (h : w.cell? ⟨p, 3, none⟩ = some (.int .i64 W)) : Tells w (.func (.func 83) #[] #[.pointer (some ⟨p, 0, none⟩)]) (fun R => !rtB W R) :=
  ⟨_, _, rfl, enters_of Try.func83 (by kernel_rfl) rfl, fun R w1 g => dValid1 W R p w1 (g.kp h)⟩
/-- By where requests stand. -/
def bpI (A B : Rq) : Int := if ((A.md != 0) && (B.md != 0)) = true then 0 else toI A B
theorem dByPlace (A B : Rq) (w : World) : Calls Try.prog 87 #[rqV A, rqV B] w fun e w' => e = .returned (.int .i64 (bpI A B)) ∧ Nw w w' := by
  have HA := Lib.hid (fun z => dHolds A z)
  have HB := Lib.hid (fun z => dHolds B z)
  have HT := Lib.hid (fun z => dByTurn A B z)
  unfold bpI
  obtain ⟨x, hx⟩ : ∃ x, (A.md != 0) = x := ⟨_, rfl⟩
  obtain ⟨y, hy⟩ : ∃ y, (B.md != 0) = y := ⟨_, rfl⟩
  rw [hx] at HA ⊢
  rw [hy] at HB ⊢
  clear hx hy
  generalize toI A B = T at *
  obtain ⟨a0, a1, a2, a3, a4⟩ := A
  obtain ⟨b0, b1, b2, b3, b4⟩ := B
  unfold rqV at *
  simp only at *
  have hA := RqB.made w a0 a1 a2 a3 a4 41
  obtain ⟨w1, hw1⟩ : ∃ w1, w.alloc (.cells #[.int .i64 a0, .int .i64 a1, .int .i64 a2, .int .i64 a3, .int .i64 a4] 41) = w1 := ⟨_, rfl⟩
  have g1 : Nw w w1 := by rw [← hw1]; exact (Nw.refl w).alloc _
  have hs1 : w1.heap.size = w.heap.size + 1 := by rw [← hw1]; simp
  rw [hw1] at hA
  have hB := RqB.made w1 b0 b1 b2 b3 b4 41
  obtain ⟨w2, hw2⟩ : ∃ w2, w1.alloc (.cells #[.int .i64 b0, .int .i64 b1, .int .i64 b2, .int .i64 b3, .int .i64 b4] 41) = w2 := ⟨_, rfl⟩
  have g2 : Nw w1 w2 := by rw [← hw2]; exact (Nw.refl w1).alloc _
  rw [hw2, hs1] at hB
  have hww : (w.alloc (.cells #[.int .i64 a0, .int .i64 a1, .int .i64 a2, .int .i64 a3, .int .i64 a4] 41)).alloc (.cells #[.int .i64 b0, .int .i64 b1, .int .i64 b2, .int .i64 b3, .int .i64 b4] 41) = w2 := by rw [hw1]; exact hw2
  have HW := Lib.hid hww
  have HH := Lib.hid (And.intro (hA.nw g2) (And.intro hB (g1.trans g2)))
  obtain ⟨xl, x0, x1, x2, x3, x4⟩ := hA.nw g2
  obtain ⟨yl, y0, y1, y2, y3, y4⟩ := hB
  clear hA hw1 hw2 hww g1 g2 hs1
  go_enter Try.func87, Try.ntmps87
  go_wp2_with fail
  rw [HW.out]
  go_wp2_with fail
  go_at_call 47
  refine (HA.out _).mono ?_
  rintro e w3 ⟨rfl, g3⟩
  have H3 := Lib.hid (And.intro (HH.out.1.nw g3) (And.intro (HH.out.2.1.nw g3) (HH.out.2.2.trans g3)))
  clear xl x0 x1 x2 x3 x4 yl y0 y1 y2 y3 y4 g3
  obtain ⟨xl, x0, x1, x2, x3, x4⟩ := H3.out.1
  obtain ⟨yl, y0, y1, y2, y3, y4⟩ := H3.out.2.1
  cases x
  · go_wp2_with fail
    go_at_call 80
    refine (HT.out _).mono ?_
    rintro e w4 ⟨rfl, g4⟩
    go_wp2
    go_ret
    exact ⟨by simp, H3.out.2.2.trans g4⟩
  · go_wp2_with fail
    go_at_call 47
    refine (HB.out _).mono ?_
    rintro e w4 ⟨rfl, g4⟩
    have H4 := Lib.hid (And.intro (H3.out.1.nw g4) (And.intro (H3.out.2.1.nw g4) (H3.out.2.2.trans g4)))
    clear xl x0 x1 x2 x3 x4 yl y0 y1 y2 y3 y4 g4
    obtain ⟨xl, x0, x1, x2, x3, x4⟩ := H4.out.1
    obtain ⟨yl, y0, y1, y2, y3, y4⟩ := H4.out.2.1
    cases y
    · go_wp2_with fail
      go_at_call 80
      refine (HT.out _).mono ?_
      rintro e w5 ⟨rfl, g5⟩
      go_wp2
      go_ret
      exact ⟨by simp, H4.out.2.2.trans g5⟩
    · go_wp2
      go_ret
      exact ⟨by simp, H4.out.2.2⟩
/-- A function value that gives a number of a request. -/
def Nums (w : World) (f : Value) (p : Rq → Int) : Prop := ∃ (g : Nat) (lb : Array Value), f = .func (.func g) #[] lb ∧ (∀ args w, (callFunc g args).run Try.prog w = .ok (.enter g args) w) ∧ ∀ (R : Rq) (w1 : World), Nw w w1 → Calls Try.prog g (#[rqV R] ++ lb) w1 fun e w' => e = .returned (.int .i64 (p R)) ∧ Nw w1 w'
theorem dNumI (R : Rq) (w : World) : Calls Try.prog 108 #[rqV R] w fun e w' => e = .returned (.int .i64 R.id) ∧ Nw w w' := by
  obtain ⟨a, b, m, n, s⟩ := R
  unfold rqV
  go_enter Try.func108, Try.ntmps108
  go_wp2
  go_ret
  exact ⟨rfl, (Nw.refl _).alloc _⟩
theorem dNumT (R : Rq) (w : World) : Calls Try.prog 109 #[rqV R] w fun e w' => e = .returned (.int .i64 R.txn) ∧ Nw w w' := by
  obtain ⟨a, b, m, n, s⟩ := R
  unfold rqV
  go_enter Try.func109, Try.ntmps109
  go_wp2
  go_ret
  exact ⟨rfl, (Nw.refl _).alloc _⟩
theorem dNumS (R : Rq) (w : World) : Calls Try.prog 110 #[rqV R] w fun e w' => e = .returned (.int .i64 R.sn) ∧ Nw w w' := by
  obtain ⟨a, b, m, n, s⟩ := R
  unfold rqV
  go_enter Try.func110, Try.ntmps110
  go_wp2
  go_ret
  exact ⟨rfl, (Nw.refl _).alloc _⟩
theorem dIdle (R : Rq) (w : World) : Calls Try.prog 106 #[rqV R] w fun e w' => e = .returned (.bool (!decide (0 < R.sn))) ∧ Nw w w' := by
  have HW := Lib.hid (fun z => dWaits R z)
  obtain ⟨a, b, m, n, s⟩ := R
  unfold rqV at *
  simp only at *
  have hN : Nw w (w.alloc (.cells #[.int .i64 a, .int .i64 b, .int .i64 m, .int .i64 n, .int .i64 s] 41)) := (Nw.refl w).alloc _
  go_enter Try.func106, Try.ntmps106
  go_wp2_with (go_at_call 42; refine (HW.out _).mono ?_; rintro e w2 ⟨rfl, g2⟩)
  go_ret
  exact ⟨rfl, hN.trans g2⟩
end Go.Proofs.Ytmciiobncfchlaa
end

/- The library's IsSortedFunc at requests. -/
section
namespace Go.Proofs.Ytmciiobncfchlaa
open Go.RowKit
set_option linter.unusedVariables false      -- a contract need not use every name

/-- A function value that compares two requests. -/
def Comps (w : World) (f : Value) (c : Rq → Rq → Int) : Prop := ∃ (g : Nat) (lb : Array Value), f = .func (.func g) #[] lb ∧ (∀ args w, (callFunc g args).run Try.prog w = .ok (.enter g args) w) ∧ ∀ (A B : Rq) (w1 : World), Nw w w1 → Calls Try.prog g (#[rqV A, rqV B] ++ lb) w1 fun e w' => e = .returned (.int .i64 (c A B)) ∧ Nw w1 w'
theorem Comps.place (w : World) : Comps w (.func (.func 87) #[] #[]) bpI :=
  ⟨_, _, rfl, enters_of Try.func87 (by kernel_rfl) rfl, fun A B w1 g => dByPlace A B w1⟩
def Asc (c : Rq → Rq → Int) (q : List Rq) (k : Int) : Prop := ∀ j : Nat, k ≤ j → ∀ h : j + 1 < q.length, ¬ c q[j + 1] q[j] < 0
set_option maxRecDepth 100000 in
set_option maxHeartbeats 4000000 in
theorem dIsSorted (v f : Value) (c : Rq → Rq → Int) (q : List Rq) (w : World) (hl : q.length ≤ 1000) (h : RqAt w v q) (hf : Comps w f c) :
    Calls Try.prog 86 #[v, f] w fun e w' => ∃ b, e = .returned (.bool b) ∧ Nw w w' ∧ (b = true ↔ Asc c q 0) := by
  obtain ⟨g, lb, rfl, eg, hT⟩ := hf
  have HT := Lib.hid hT
  have HAt := Lib.hid h
  obtain ⟨a, cp, rfl, _⟩ := h
  clear hT
  have hw0 : IntKind.i64.wrap ((q.length : Int) - 1) = (q.length : Int) - 1 := by rw [IntKind.wrap_i64]; omega
  go_enter Try.func86, Try.ntmps86
  go_wp2
  go_loopw [5] (fun i wr => ∃ k : Int, -1 ≤ k ∧ k < q.length ∧ i = .int .i64 k ∧ Asc c q k ∧ Nw w wr) (fun i _ => (intOf i + 1).toNat)
  case atStart => exact ⟨(q.length : Int) - 1, by omega, by omega, by first | rfl | rw [hw0], fun j hj h => by omega, Nw.refl _⟩
  case round =>
    obtain ⟨k, hk0, hk1, rfl, hA, hG⟩ := hrel
    clear hw0
    by_cases hp : 0 < k
    · obtain ⟨m, rfl⟩ := Int.eq_ofNat_of_zero_le (show 0 ≤ k by omega)
      obtain ⟨m1, hm1⟩ : ∃ m1 : Nat, m = m1 + 1 := ⟨m - 1, by omega⟩
      have hml : m < q.length := by omega
      have hm1l : m1 < q.length := by omega
      have hmi : (m : Int) < (q.length : Int) := by omega
      have hm1i : (m1 : Int) < (q.length : Int) := by omega
      have hwm : IntKind.i64.wrap ((m : Int) - 1) = (m1 : Int) := by rw [IntKind.wrap_i64]; omega
      obtain ⟨a', c', e, ⟨e4, _⟩ | ⟨b, o, e4, hc⟩⟩ := (HAt.out.nw hG)
      · subst e4; simp at hml
      simp only [Value.slice.injEq, true_and] at e
      obtain ⟨rfl, rfl⟩ := e
      subst e4
      have hce := hc.cell m hml
      have hde := hc.cell m1 hm1l
      have hstep : ¬ c q[m] q[m1] < 0 → Asc c q m1 := fun hn j hj h => by
        by_cases e : j = m1
        · subst e; subst hm1; exact hn
        · exact hA j (by omega) h
      have hbad : c q[m] q[m1] < 0 → ¬ Asc c q 0 := fun hn h => by
        subst hm1
        exact h m1 (by omega) hml hn
      have HTk := Lib.hid (fun (z : World) (g : Nw w z) => HT.out q[m] q[m1] z g)
      have HSt := Lib.hid (And.intro hstep hbad)
      obtain ⟨x, hx⟩ : ∃ x, c q[m] q[m1] = x := ⟨_, rfl⟩
      rw [hx] at HTk HSt
      clear hx hstep hbad hA
      have HM := Lib.hid hm1
      clear hm1
      generalize q[m] = R at *
      generalize q[m1] = S at *
      obtain ⟨b0, b1, b2, b3, b4⟩ := R
      obtain ⟨f0, f1, f2, f3, f4⟩ := S
      unfold rqV at HTk
      simp only at HTk
      have e0 := fun (z : World) (hz : Nw wr z) => hz.kp (hce 0 _ rfl)
      have e1 := fun (z : World) (hz : Nw wr z) => hz.kp (hce 1 _ rfl)
      have e2 := fun (z : World) (hz : Nw wr z) => hz.kp (hce 2 _ rfl)
      have e3 := fun (z : World) (hz : Nw wr z) => hz.kp (hce 3 _ rfl)
      have e4 := fun (z : World) (hz : Nw wr z) => hz.kp (hce 4 _ rfl)
      have g0 := fun (z : World) (hz : Nw wr z) => hz.kp (hde 0 _ rfl)
      have g1 := fun (z : World) (hz : Nw wr z) => hz.kp (hde 1 _ rfl)
      have g2 := fun (z : World) (hz : Nw wr z) => hz.kp (hde 2 _ rfl)
      have g3 := fun (z : World) (hz : Nw wr z) => hz.kp (hde 3 _ rfl)
      have g4 := fun (z : World) (hz : Nw wr z) => hz.kp (hde 4 _ rfl)
      simp only [Nat.add_zero] at e0 g0
      have HG := Lib.hid hG
      clear hce hde hc hG
      have q1 := (Nw.refl wr).drew1
      obtain ⟨wc, hwc⟩ : ∃ wc, wr.drew = wc := ⟨_, rfl⟩
      have dpos : decide (0 < (m : Int)) = true := by simpa using hp
      go_wp2
      refine region_told [some true, some true, some true, some true, some true, some true, some true, some true, some true, some true, some false, none, some true] (Nw wr) (by kernel_rfl) (by kernel_rfl) (by kernel_rfl) q1 ?_
      rw [hwc] at q1 ⊢
      clear hwc
      repeat (first
        | (refine HW.off ?_)
        | (refine HW.take' ?_; (apply Exists.intro; refine ⟨Or.inl ⟨by rfl, ?_⟩, ?_⟩; (intro x hx; go_simp; first | done | with_reducible rfl)); (try simp only [Act.put, List.setIfInBounds_toArray, List.set_cons_zero, List.set_cons_succ]))
        | (refine HW.go (fun K hK => ?_); go_simp; (go_at_fn g; (with_reducible refine (HTk.out _ (HG.out.trans q1)).mono ?_); rintro e wy ⟨rfl, gy⟩; refine hK.out _ _ (q1.trans gy) ?_; intro _; replace q1 := q1.trans gy; clear hK K gy)))
      refine HW.end_ ?_
      refine NoPanic.normal ?_
      have HG2 := Lib.hid (HG.out.trans q1)
      clear e0 e1 e2 e3 e4 g0 g1 g2 g3 g4 q1
      by_cases hx : x < 0
      · have dx : decide (x < 0) = true := by simpa using hx
        have HB := Lib.hid (HSt.out.2 hx)
        go_wp2
        go_ret
        exact ⟨false, rfl, HG2.out, by simpa using HB.out⟩
      · have dx : decide (x < 0) = false := by simpa using hx
        have hx' : 0 ≤ x := Int.not_lt.1 hx
        have HB := Lib.hid (HSt.out.1 (by first | exact hx | exact hx'))
        go_wp2
        go_roundw
        case rel => exact ⟨(m1 : Int), by omega, by omega, by first | rfl | rw [hwm], HB.out, HG2.out⟩
        case measure => have := HM.out; simp [intOf]; first | omega | (rw [hwm]; omega)
    · have dpos : decide (0 < k) = false := by simpa using hp
      have HA := Lib.hid (show Asc c q 0 from fun j hj h => hA j (by omega) h)
      have HG := Lib.hid hG
      clear hA hG hp
      go_wp2
      go_ret
      exact ⟨true, rfl, HG.out, by simpa using HA.out⟩
end Go.Proofs.Ytmciiobncfchlaa
end

/- The developers' package queue: whether what all hold agrees. -/
section
namespace Go.Proofs.Ytmciiobncfchlaa
open Go.RowKit Go.Maps Go.ChangeMaps
set_option linter.unusedVariables false      -- a contract need not use every name

set_option maxHeartbeats 1000000 in
theorem dAgree1 {w : World} {g0 p b n : Nat} {t r W : Int} {v : Value} {q : List Rq} (h : Ln w g0 p t r W v b n q (cntQ q)) (hl : q.length ≤ 1000) (x : Nat) (hx : w.cell? ⟨x, 0, none⟩ = some (.pointer (some ⟨p, 0, none⟩))) (R : Rq) :
    Calls Try.prog 111 #[rqV R, .pointer (some ⟨x, 0, none⟩)] w fun e w' => e = .returned (.bool (!fitB (cntQ q) R.md R.md)) ∧ Nw w w' := by
  obtain ⟨b0, b1, b2, b3, b4⟩ := R
  unfold rqV
  simp only
  have hN : Nw w (w.alloc (.cells #[.int .i64 b0, .int .i64 b1, .int .i64 b2, .int .i64 b3, .int .i64 b4] 41)) := (Nw.refl w).alloc _
  have HF := Lib.hid (fun (z : World) (g : Nw w z) => dFitsA p b n (cntQ q) b2 b2 _ _ _ _ _ z (h.nw g).obj (h.nw g).map (fun y => by have := cntQ_bd q y; omega))
  have hxl := World.block_lt_of_cell? _ _ hx
  generalize fitB (cntQ q) b2 b2 = B at *
  clear h
  go_enter Try.func111, Try.ntmps111
  go_wp2_with (go_at_call 73; refine (HF.out _ hN).mono ?_; rintro e w2 ⟨rfl, g2⟩)
  go_ret
  exact ⟨rfl, hN.trans g2⟩
set_option maxRecDepth 100000 in
set_option maxHeartbeats 2000000 in
theorem dAgree (t r W : Int) (v : Value) (q : List Rq) (w : World) (hl : q.length ≤ 1000) (hkn : ∀ R ∈ q, knI R.md = true) (h : RqAt w v q) :
    Calls Try.prog 88 #[hdV t r v W] w fun e w' => e = .returned (.bool (!q.any fun R => !fitB (cntQ q) R.md R.md)) ∧ Nw w w' := by
  have HLi := Lib.hid (fun (w1 : World) (g : Nw w w1) => dLineOf t r W v q w1 hl hkn (h.nw g))
  obtain ⟨a, c, rfl, _⟩ := h
  unfold hdV at *
  have hx1 := allocAt w (.cells #[.int .i64 t, .int .i64 r, .slice a q.length c, .int .i64 W] 27)
  have hN : Nw w (w.alloc (.cells #[.int .i64 t, .int .i64 r, .slice a q.length c, .int .i64 W] 27)) := (Nw.refl w).alloc _
  go_enter Try.func88, Try.ntmps88
  go_wp2_with fail
  go_at_call 39
  refine (HLi.out _ hN).mono ?_
  rintro e w2 ⟨p, v1, b, n, rfl, g2, hL2, hnq⟩
  have hc3 := allocAt w2 (.cells #[.pointer (some ⟨p, 0, none⟩)] 68)
  have g3 : Nw w2 (w2.alloc (.cells #[.pointer (some ⟨p, 0, none⟩)] 68)) := (Nw.refl w2).alloc _
  obtain ⟨w3, hw3⟩ : ∃ w3, w2.alloc (.cells #[.pointer (some ⟨p, 0, none⟩)] 68) = w3 := ⟨_, rfl⟩
  rw [hw3] at hc3 g3
  have HW3 := Lib.hid hw3
  have hL3 := hL2.nw g3
  have hcl := hcell (j := 0) hc3
  have hxl := hlt hc3
  have HCo := Lib.hid (dContains v1 _ _ q w3 hl (RqOwn.rd hL3.own) ⟨111, #[.pointer (some ⟨w2.heap.size, 0, none⟩)], rfl, enters_of Try.func111 (by kernel_rfl) rfl, fun R w1 g => dAgree1 (hL3.nw g) hl w2.heap.size (g.kp hcl) R⟩)
  have p2 := hcell (j := 2) hL2.obj
  have hpl := hlt hL2.obj
  obtain ⟨a1, c1, hv1⟩ := (RqOwn.rd hL3.own).form
  subst hv1
  have HN := Lib.hid ((hN.trans g2).trans g3)
  clear hx1 hN g2 g3 hw3 hL2 hL3 hc3 hkn HLi
  clear hcl hxl
  go_wp2_with fail
  rw [HW3.out]
  go_at_call 74
  refine HCo.out.mono ?_
  rintro e w4 ⟨rfl, g4⟩
  go_wp2
  go_ret
  exact ⟨rfl, HN.out.trans g4⟩
end Go.Proofs.Ytmciiobncfchlaa
end

/- The developers' package queue: whether numbers are distinct: a map of keys. -/
section
namespace Go.Proofs.Ytmciiobncfchlaa
open Go.RowKit Go.Maps Go.ChangeMaps
set_option linter.unusedVariables false      -- a contract need not use every name

theorem lawK : Keyed Try.prog 3 := int_keyed Try.underlying3
/-- A number that an int holds. -/
def Fit (k : Int) : Prop := -9223372036854775808 ≤ k ∧ k ≤ 9223372036854775807
theorem keyK {k : Int} (h : Fit k) : keyOf Try.prog 3 (.int .i64 k) = some (.int .i64 k) := keyOf_int_mk Try.underlying3 (wfM h.1 h.2)
theorem isKeyK {k : Int} (h : Fit k) : WideAt.IsKeyLit (.int .i64 k) := lawK.key (keyK h)
/-- The map in block b has these keys. -/
def KeyS (w : World) (b n : Nat) (l : List Int) : Prop :=
  ∃ D : DataW Unit, w.ownsMap Try.prog 3 (fun _ => some (.lit (.int .i64 0), [])) b n D ∧ (∀ k, Maps.has D (.int .i64 k) = decide (k ∈ l)) ∧ Maps.size D ≤ l.length ∧ (Maps.size D = l.length ↔ l.Nodup)
theorem KeyS.kept {w w' : World} {b n : Nat} {l : List Int} {row : Option Nat} (h : KeyS w b n l) (hg : w.grownBy w' row) (hne : some b ≠ row) : KeyS w' b n l := by
  obtain ⟨D, h1, h2⟩ := h
  exact ⟨D, h1.kept hg hne, h2⟩
theorem KeyS.nw {w w' : World} {b n : Nat} {l : List Int} (h : KeyS w b n l) (g : Nw w w') : KeyS w' b n l := h.kept (g.grownBy none) (by simp)
theorem KeyS.made (w : World) : KeyS (w.alloc (.map #[] 0)) w.heap.size 0 [] :=
  ⟨_, World.ownsMap_made _ _ _ _, fun k => by simp [Maps.has], by simp [Maps.size], by simp [Maps.size]⟩
theorem nodup_snoc {l : List Int} {k : Int} : (l ++ [k]).Nodup ↔ l.Nodup ∧ k ∉ l := by
  rw [List.nodup_append]
  constructor
  · rintro ⟨h1, _, h3⟩
    exact ⟨h1, fun m => h3 k m k (by simp) rfl⟩
  · rintro ⟨h1, h2⟩
    exact ⟨h1, by simp, fun a ha b hb e => by
      rw [List.mem_singleton] at hb
      subst hb; subst e; exact h2 ha⟩
set_option maxRecDepth 100000 in
theorem KeyS.put {w : World} {b n : Nat} {l : List Int} (h : KeyS w b n l) (hn : n < 1000000) {k : Int} (hk : Fit k) :
    ∃ w', (Instr.mapUpdate 133 (.map (some b)) (.int .i64 k) (.agg #[])).run Try.prog w = .ok () w' ∧ KeyS w' b (n + 1) (l ++ [k]) ∧ w.grownBy w' (some b) := by
  obtain ⟨D, o, h2, h3, h4⟩ := h
  obtain ⟨w', hr, o', hg⟩ := o.update (t := 133) lawK Try.underlying133 (by unfold maxLen; omega) (keyK hk) (show (fun _ : Value => some ((.lit (.int .i64 0) : DataW Unit), ([] : List MemPlace))) (.agg #[]) = some (.lit (.int .i64 0), []) from rfl)
  have hsz := size_put (k := .int .i64 k) (o.tidy lawK) (.lit (.int .i64 0))
  rw [h2 k] at hsz
  refine ⟨w', hr, ⟨_, o', fun y => ?_, ?_, ?_⟩, hg⟩
  · by_cases q : y = k
    · subst q
      rw [has_put_same o.isMap (isKeyK hk)]
      simp
    · rw [has_put_other (litM_ne q), h2 y]
      simp [q]
  · rw [hsz, List.length_append, List.length_singleton]
    split <;> omega
  · rw [hsz, nodup_snoc, List.length_append, List.length_singleton]
    by_cases m : k ∈ l
    · rw [if_pos (by simpa using m)]
      exact ⟨fun e => by omega, fun e => absurd m e.2⟩
    · rw [if_neg (by simpa using m)]
      exact ⟨fun e => ⟨h4.1 (by omega), m⟩, fun e => by have := h4.2 e.1; omega⟩
theorem KeyS.len {w : World} {b n : Nat} {l : List Int} (h : KeyS w b n l) : ∃ s : Nat, (∀ ty, (Builtin.len_ #[133] ty #[.map (some b)]).run Try.prog w = .ok (.int .i64 s) w) ∧ s ≤ l.length ∧ (s = l.length ↔ l.Nodup) := by
  obtain ⟨D, o, _, h3, h4⟩ := h
  exact ⟨Maps.size D, fun ty => o.len Try.underlying133 ty, h3, h4⟩
end Go.Proofs.Ytmciiobncfchlaa
end

/- The developers' package queue: distinct. -/
section
namespace Go.Proofs.Ytmciiobncfchlaa
open Go.RowKit Go.Maps Go.ChangeMaps
set_option linter.unusedVariables false      -- a contract need not use every name

set_option maxRecDepth 100000 in
set_option maxHeartbeats 4000000 in
theorem dDistinct (v f : Value) (p : Rq → Int) (q : List Rq) (w : World) (hl : q.length ≤ 1000) (hw : ∀ R ∈ q, Fit (p R)) (h : RqAt w v q) (hf : Nums w f p) :
    Calls Try.prog 107 #[v, f] w fun e w' => ∃ b, e = .returned (.bool b) ∧ Nw w w' ∧ (b = true ↔ (q.map p).Nodup) := by
  have hmm := @run_makeMap Try.prog
  obtain ⟨g, lb, rfl, eg, hT⟩ := hf
  have HT := Lib.hid hT
  have HAt := Lib.hid h
  have HFw := Lib.hid hw
  obtain ⟨a, c, rfl, _⟩ := h
  clear hT hw
  have hK := KeyS.made w
  have hN1 : Nw w (w.alloc (.map #[] 0)) := (Nw.refl w).alloc _
  obtain ⟨w1, hw1⟩ : ∃ w1, w.alloc (.map #[] 0) = w1 := ⟨_, rfl⟩
  rw [hw1] at hK hN1
  have HW1 := Lib.hid hw1
  obtain ⟨b, hb⟩ : ∃ b, w.heap.size = b := ⟨_, rfl⟩
  rw [hb] at hK
  have HB := Lib.hid hb
  have HK := Lib.hid (And.intro hK hN1)
  clear hK hN1 hw1
  go_enter Try.func107, Try.ntmps107
  go_wp2
  rw [HW1.out]
  try rw [hb]
  clear hb HW1 hmm
  go_loopw [11] (fun i wr => ∃ k : Nat, k ≤ q.length ∧ i = .int .i64 k ∧ KeyS wr b k ((q.take k).map p) ∧ Nw w wr) (fun i _ => q.length - (intOf i).toNat)
  case atStart => exact ⟨0, Nat.zero_le _, rfl, HK.out.1, HK.out.2⟩
  case round =>
    obtain ⟨k, hk, rfl, hS, hG⟩ := hrel
    by_cases hlk : k < q.length
    · obtain ⟨a', c', e, ⟨e4, _⟩ | ⟨b', o, e4, hc⟩⟩ := (HAt.out.nw hG)
      · subst e4; simp at hlk
      simp only [Value.slice.injEq, true_and] at e
      obtain ⟨rfl, rfl⟩ := e
      subst e4
      have hki : (k : Int) < (q.length : Int) := by omega
      have hce := hc.cell k hlk
      have HX := Lib.hid (show (q.take (k + 1)).map p = (q.take k).map p ++ [p q[k]] by rw [List.take_add_one, List.getElem?_eq_getElem hlk, List.map_append]; rfl)
      have hft := HFw.out _ (List.getElem_mem hlk)
      have HTk := Lib.hid (fun (z : World) (g : Nw w z) => HT.out q[k] z g)
      generalize p q[k] = x at *
      generalize q[k] = R at *
      obtain ⟨b0, b1, b2, b3, b4⟩ := R
      unfold rqV at HTk
      simp only at HTk
      have e0 := hce 0 _ rfl
      have e1 := hce 1 _ rfl
      have e2 := hce 2 _ rfl
      have e3 := hce 3 _ rfl
      have e4 := hce 4 _ rfl
      simp only [Nat.add_zero] at e0
      have g6 : Nw wr (wr.alloc (.cells #[.int .i64 b0, .int .i64 b1, .int .i64 b2, .int .i64 b3, .int .i64 b4] 41)) := (Nw.refl wr).alloc _
      obtain ⟨w6, hw6⟩ : ∃ w6, wr.alloc (.cells #[.int .i64 b0, .int .i64 b1, .int .i64 b2, .int .i64 b3, .int .i64 b4] 41) = w6 := ⟨_, rfl⟩
      have hq6 := RqB.made wr b0 b1 b2 b3 b4 41
      rw [hw6] at g6 hq6
      obtain ⟨hlq, y0, y1, y2, y3, y4⟩ := hq6
      have HW6 := Lib.hid hw6
      have HI := Lib.hid (And.intro (hS.nw g6) (hG.trans g6))
      have HFt := Lib.hid hft
      clear hce hc hS hG g6 hw6 hft
      go_wp2_with fail
      rw [HW6.out]
      go_wp2_with fail
      go_at_fn g
      refine (HTk.out _ HI.out.2).mono ?_
      rintro e w7 ⟨rfl, g7⟩
      obtain ⟨w8, hr, hS8, hg8⟩ := (HI.out.1.nw g7).put (by omega) HFt.out
      rw [← HX.out] at hS8
      have HR := Lib.hid hr
      have HE := Lib.hid (And.intro hS8 ((HI.out.2.trans g7).gro hg8 (fun i e => by have := Option.some.inj e; have := HB.out; omega)))
      clear hr hS8 hg8 g7 e0 e1 e2 e3 e4 y0 y1 y2 y3 y4 hlq
      go_wp2_with (at_mapUpdate; refine wpl_mapUp rfl (.tmp 15) (.tmp 18) (.tmp 19) 133 rfl _ _ _ _ rfl rfl rfl HR.out ?_)
      go_roundw
      case rel => exact ⟨k + 1, by omega, by go_num, HE.out⟩
      case measure => simp [intOf]; omega
    · obtain rfl : k = q.length := by omega
      rw [List.take_of_length_le (Nat.le_refl _)] at hS
      obtain ⟨s, hlen, _, hnd⟩ := hS.len
      rw [List.length_map] at hnd
      have HG := Lib.hid (And.intro hG hnd)
      clear hS hG hnd
      by_cases e : s = q.length
      · have d : ((s : Int) == (q.length : Int)) = true := by rw [e]; simp
        have HN := Lib.hid (HG.out.2.1 e)
        clear e
        go_wp2
        go_ret
        exact ⟨true, rfl, HG.out.1, by simpa using HN.out⟩
      · have d : ((s : Int) == (q.length : Int)) = false := by simp; omega
        have HN := Lib.hid (fun h => e (HG.out.2.2 h))
        clear e
        go_wp2
        go_ret
        exact ⟨false, rfl, HG.out.1, by simpa using HN.out⟩
end Go.Proofs.Ytmciiobncfchlaa
end

/- The developers' package queue: differ. -/
section
namespace Go.Proofs.Ytmciiobncfchlaa
open Go.RowKit Go.Maps Go.ChangeMaps
set_option linter.unusedVariables false      -- a contract need not use every name

theorem Tells.idle (w : World) : Tells w (.func (.func 106) #[] #[]) (fun R => !decide (0 < R.sn)) :=
  ⟨_, _, rfl, enters_of Try.func106 (by kernel_rfl) rfl, fun R w1 g => dIdle R w1⟩
theorem Nums.ids (w : World) : Nums w (.func (.func 108) #[] #[]) (fun R => R.id) :=
  ⟨_, _, rfl, enters_of Try.func108 (by kernel_rfl) rfl, fun R w1 g => dNumI R w1⟩
theorem Nums.txns (w : World) : Nums w (.func (.func 109) #[] #[]) (fun R => R.txn) :=
  ⟨_, _, rfl, enters_of Try.func109 (by kernel_rfl) rfl, fun R w1 g => dNumT R w1⟩
theorem Nums.sns (w : World) : Nums w (.func (.func 110) #[] #[]) (fun R => R.sn) :=
  ⟨_, _, rfl, enters_of Try.func110 (by kernel_rfl) rfl, fun R w1 g => dNumS R w1⟩
/-- All the numbers of a request are such as an int holds. -/
def FitR (R : Rq) : Prop := Fit R.id ∧ Fit R.txn ∧ Fit R.sn
theorem outQ_sub (p : Rq → Bool) (q : List Rq) : ∀ R ∈ outQ p q, R ∈ q := fun R h => (List.mem_filter.1 h).1
theorem outQ_len (p : Rq → Bool) (q : List Rq) : (outQ p q).length ≤ q.length := List.length_filter_le _ _
set_option maxRecDepth 100000 in
set_option maxHeartbeats 4000000 in
theorem dDiffer (v : Value) (q : List Rq) (w : World) (hl : q.length ≤ 1000) (hw : ∀ R ∈ q, FitR R) (h : RqAt w v q) :
    Calls Try.prog 85 #[v] w fun e w' => ∃ b, e = .returned (.bool b) ∧ Nw w w' ∧ (b = true ↔ (q.map fun R => R.id).Nodup ∧ (q.map fun R => R.txn).Nodup ∧ ((outQ (fun R => !decide (0 < R.sn)) q).map fun R => R.sn).Nodup) := by
  have HCl := Lib.hid (dClone v q w hl h)
  have HI := Lib.hid (fun (z : World) (g : Nw w z) => dDistinct v _ (fun R => R.id) q z hl (fun R hR => (hw R hR).1) (h.nw g) (Nums.ids z))
  have HT := Lib.hid (fun (z : World) (g : Nw w z) => dDistinct v _ (fun R => R.txn) q z hl (fun R hR => (hw R hR).2.1) (h.nw g) (Nums.txns z))
  have HFs := Lib.hid (fun R hR => (hw R (outQ_sub (fun R => !decide (0 < R.sn)) q R hR)).2.2)
  obtain ⟨P1, hP1⟩ : ∃ P1, (q.map fun R => R.id).Nodup = P1 := ⟨_, rfl⟩
  obtain ⟨P2, hP2⟩ : ∃ P2, (q.map fun R => R.txn).Nodup = P2 := ⟨_, rfl⟩
  obtain ⟨P3, hP3⟩ : ∃ P3, ((outQ (fun R => !decide (0 < R.sn)) q).map fun R => R.sn).Nodup = P3 := ⟨_, rfl⟩
  rw [hP1] at HI ⊢
  rw [hP2] at HT ⊢
  rw [hP3]
  have HP3 := Lib.hid hP3
  clear hP1 hP2 hP3 hw
  obtain ⟨a, c, rfl, _⟩ := h
  go_enter Try.func85, Try.ntmps85
  go_wp2_with fail
  go_at_call 48
  refine HCl.out.mono ?_
  rintro e w1 ⟨v1, rfl, g1, hO⟩
  have HD := Lib.hid (dDelete (fun R => !decide (0 < R.sn)) _ w.heap.size v1 q w1 hl hO (Tells.idle w1) (fun w2 _ => Tells.idle w2))
  have HO := Lib.hid (And.intro g1 hO)
  clear g1 hO HCl
  go_wp2_with fail
  go_at_call 76
  refine HD.out.mono ?_
  rintro e w2 ⟨v2, rfl, hR2, _, _, hT2⟩
  have HN2 := Lib.hid (nw_tch HO.out.1 hT2 (fun i e => oge HO.out.2 e))
  have HS := Lib.hid (fun (z : World) (g : Nw w2 z) => dDistinct v2 _ (fun R => R.sn) (outQ (fun R => !decide (0 < R.sn)) q) z (Nat.le_trans (outQ_len _ q) hl) HFs.out (hR2.nw g) (Nums.sns z))
  rw [HP3.out] at HS
  have HI2 := Lib.hid (HI.out w2 HN2.out)
  clear hR2 hT2 HD HO HI HP3 HFs
  go_wp2_with fail
  go_at_call 107
  refine HI2.out.mono ?_
  rintro e w3 ⟨b1, rfl, g3, h1⟩
  have H3 := Lib.hid (And.intro g3 h1)
  have HT2 := Lib.hid (HT.out w3 (HN2.out.trans g3))
  clear g3 h1 HI2 HT
  cases b1
  · go_wp2
    go_ret
    exact ⟨false, rfl, HN2.out.trans H3.out.1, by have h := H3.out.2; simp at h; simp [h]⟩
  go_wp2_with fail
  go_at_call 107
  refine HT2.out.mono ?_
  rintro e w4 ⟨b2, rfl, g4, h2⟩
  have H4 := Lib.hid (And.intro g4 h2)
  have HS2 := Lib.hid (HS.out w4 (H3.out.1.trans g4))
  clear g4 h2 HT2 HS
  cases b2
  · go_wp2
    go_ret
    exact ⟨false, rfl, (HN2.out.trans H3.out.1).trans H4.out.1, by have h := H4.out.2; simp at h; simp [h]⟩
  go_wp2_with fail
  go_at_call 107
  refine HS2.out.mono ?_
  rintro e w5 ⟨b3, rfl, g5, h3⟩
  have H5 := Lib.hid (And.intro g5 h3)
  clear g5 h3 HS2
  go_wp2
  go_ret
  exact ⟨b3, by simp, ((HN2.out.trans H3.out.1).trans H4.out.1).trans H5.out.1, by have h3 := H3.out.2; have h4 := H4.out.2; have h5 := H5.out.2; simp at h3 h4; simp [h3, h4, h5]⟩
end Go.Proofs.Ytmciiobncfchlaa
end

/- Law 9: acts: how many wait and how many upgrade; the sort of at most 40 that wait; the numbers of requests. Plain. -/
section
namespace Go.Proofs.Ytmciiobncfchlaa
set_option linter.unusedVariables false

def upB (r : Rq) : Bool := (r.md != 0) && decide (0 < r.sn)
def ups (q : List Rq) : Nat := q.countP upB
def meas (q : List Rq) : Nat := q.length + ups q
theorem tC_asym {W : Int} {q : List Rq} (h : Ok W q) {x y : Int} (h1 : tC q x y < 0) : ¬ tC q y x < 0 := fun h2 => by
  have := tC_tr h x y x h1 h2
  unfold tC at this
  rw [ahead_iff] at this
  generalize rqAt q x = a at this
  by_cases za : a.md = 0 <;> simp [za] at this
theorem wpl_asc (q : List Rq) : ∀ k, (wpl q k).Pairwise (· < ·)
  | 0 => by simp [wpl]
  | k + 1 => by
    unfold wpl
    split
    · rw [List.pairwise_append]
      refine ⟨wpl_asc q k, by simp, fun a ha b hb => ?_⟩
      rw [List.mem_singleton] at hb
      obtain ⟨j, h1, h2, _⟩ := (wpl_mem q a k).1 ha
      omega
    · exact wpl_asc q k
theorem wpl_ups (q : List Rq) : ∀ k, k ≤ q.length → (wpl q k).countP (fun x => (rqAt q x).md != 0) = (q.take k).countP upB
  | 0, _ => by simp [wpl]
  | k + 1, hk => by
    have e : q.take (k + 1) = q.take k ++ [q[k]'(by omega)] := (List.take_append_getElem (by omega)).symm
    have ih := wpl_ups q k (by omega)
    rw [e, List.countP_append]
    unfold wpl
    have hr := rqAt_nat q k (by omega)
    rw [hr]
    by_cases s : 0 < (q[k]'(by omega)).sn
    · rw [if_pos s, List.countP_append, ih]
      congr 1
      simp [List.countP_cons, hr, upB, s]
    · rw [if_neg s, ih]
      simp [List.countP_cons, upB, s]
/-- Up to 40 that wait, of whom at most 20 upgrade. -/
theorem stOk_40 {W : Int} {q : List Rq} (h : Ok W q) (hl : q.length ≤ 40) (hu : ups q ≤ 20) : StOk (tC q) (wpl q q.length) := by
  by_cases h20 : (wpl q q.length).length ≤ 20
  · exact .inl h20
  refine .inr ⟨Nat.le_trans (wpl_len q _) hl, ?_⟩
  obtain ⟨T, hT⟩ : ∃ T, wpl q q.length = T := ⟨_, rfl⟩
  have hm : ∀ x, x ∈ T ↔ ∃ k : Nat, k < q.length ∧ x = k ∧ 0 < (rqAt q x).sn := fun x => by rw [← hT]; exact wpl_mem q x _
  have hn : T.Nodup := by rw [← hT]; exact wpl_nodup q _
  have ha : T.Pairwise (· < ·) := by rw [← hT]; exact wpl_asc q _
  have hc : T.countP (fun x => (rqAt q x).md != 0) ≤ 20 := by
    rw [← hT, wpl_ups q _ (Nat.le_refl _), List.take_length]
    exact hu
  rw [hT] at h20 ⊢
  have srt : ∀ S : List Int, S.Sublist T → (sortS (tC q) S).Pairwise fun x y => tC q x y < 0 ∧ ¬ tC q y x < 0 := fun S hS =>
    (sortS_sorted (tC q) (fun x => ∃ k : Nat, k < q.length ∧ x = k ∧ 0 < (rqAt q x).sn) (fun x y z _ _ _ => tC_tr h x y z) (fun x y hx hy => tC_tot h x y hx hy) S (fun x hx => (hm x).1 (hS.subset hx)) (hn.sublist hS)).imp fun h1 => ⟨h1, tC_asym h h1⟩
  rw [List.pairwise_append]
  refine ⟨srt _ (List.take_sublist _ _), srt _ (List.drop_sublist _ _), fun x hx y hy => ?_⟩
  have hx := (sortS_perm _ _).mem_iff.1 hx
  have hy := (sortS_perm _ _).mem_iff.1 hy
  have hall : ∀ x ∈ T.take 20, ∀ y ∈ T.drop 20, x < y := by
    rw [← List.take_append_drop 20 T, List.pairwise_append] at ha
    exact ha.2.2
  have hlt : ∀ x ∈ T.take 20, ∀ y ∈ T.drop 20, (rqAt q y).md ≠ 0 → (rqAt q x).md ≠ 0 := by
    intro x hx y hy hmd z
    obtain ⟨i, hi, rfl, si⟩ := (hm x).1 (List.mem_of_mem_take hx)
    obtain ⟨j, hj, rfl, sj⟩ := (hm y).1 (List.mem_of_mem_drop hy)
    have hij := hall _ hx _ hy
    rw [rqAt_nat q i hi] at z
    rw [rqAt_nat q j hj] at hmd
    exact hmd ((List.pairwise_iff_getElem.1 h.pr i j hi hj (by omega)).ord z).1
  have hyz : (rqAt q y).md = 0 := by
    by_cases z : (rqAt q y).md = 0
    · exact z
    exfalso
    rw [← List.take_append_drop 20 T, List.countP_append] at hc
    have c1 : (T.take 20).countP (fun x => (rqAt q x).md != 0) = (T.take 20).length := List.countP_eq_length.2 fun x hx => by simpa using hlt x hx y hy z
    have c2 : 0 < (T.drop 20).countP (fun x => (rqAt q x).md != 0) := List.countP_pos_iff.2 ⟨y, hy, by simpa using z⟩
    have : (T.take 20).length = 20 := by rw [List.length_take]; omega
    omega
  have hlt' : tC q x y < 0 := by
    obtain ⟨i, hi, rfl, si⟩ := (hm x).1 (List.mem_of_mem_take hx)
    obtain ⟨j, hj, rfl, sj⟩ := (hm y).1 (List.mem_of_mem_drop hy)
    have hij := hall _ hx _ hy
    rcases tC_tot h _ _ ⟨i, hi, rfl, si⟩ ⟨j, hj, rfl, sj⟩ (by omega) with g | g
    · exact g
    · exfalso
      unfold tC at g
      rw [ahead_iff] at g
      rw [rqAt_nat q i hi, rqAt_nat q j hj] at g
      rw [rqAt_nat q j hj] at hyz
      have hp := List.pairwise_iff_getElem.1 h.pr i j hi hj (by omega)
      by_cases za : q[i].md = 0
      · have := (hp.ord za).2
        simp [za, hyz] at g
        omega
      · simp [za, hyz] at g
  exact ⟨hlt', tC_asym h hlt'⟩
end Go.Proofs.Ytmciiobncfchlaa
end

/- Law 9: acts: what a call adds; the numbers of requests. Plain. -/
section
namespace Go.Proofs.Ytmciiobncfchlaa
set_option linter.unusedVariables false

theorem ups_len (q : List Rq) : ups q ≤ q.length := List.countP_le_length
theorem ups_chg {W : Int} {q : List Rq} (h : Ok W q) {r : Rq} (hr : r ∈ q) (f : Rq → Rq) : ups (chg f r.id q) ≤ ups q + 1 ∧ (upB (f r) = false → ups (chg f r.id q) ≤ ups q) := by
  obtain ⟨l, m, rfl, h1, h2⟩ := h.part hr
  rw [chg_mid f h1 h2]
  unfold ups
  simp only [List.countP_append, List.countP_cons]
  refine ⟨?_, fun e => ?_⟩
  · split <;> split <;> omega
  · have e0 : (if upB (f r) = true then 1 else 0) = 0 := by rw [e]; rfl
    rw [e0]
    split <;> omega
theorem ups_lv (id : Int) (q : List Rq) : ups (lvQ id q) ≤ ups q := List.Sublist.countP_le List.filter_sublist
theorem ups_ab {W : Int} {q : List Rq} (h : Ok W q) {r : Rq} (hr : r ∈ q) : ups (abQ r q) ≤ ups q := by
  unfold abQ
  split
  · exact ups_lv _ _
  · exact (ups_chg h hr abR).2 (by simp [upB, abR])
theorem meas_ask {W : Int} {q : List Rq} (id txn m : Int) : meas (askQ W q id txn m).2.1 ≤ meas q + 1 := by
  unfold askQ meas ups
  split
  · simp [List.countP_cons, upB]; omega
  · simp [List.countP_cons, upB]; omega
theorem meas_up {W : Int} {q : List Rq} (h : Ok W q) {r : Rq} (hr : r ∈ q) (m : Int) : meas (upQ W q r m).2.1 ≤ meas q + 1 := by
  have key : ∀ f : Rq → Rq, meas (chg f r.id q) ≤ meas q + 1 := fun f => by
    have := (ups_chg h hr f).1
    unfold meas
    rw [chg_len]; omega
  unfold upQ
  split
  · exact Nat.le_succ _
  split
  · exact key _
  · exact key _
theorem meas_act (h : Hq) (h0 : Ok h.W h.q) (k id txn m : Int) (he : (actR h k id txn m).2 = 0) : meas (actR h k id txn m).1.q ≤ meas h.q + 1 := by
  unfold actR at he ⊢
  by_cases k0 : k = 0
  · simp only [if_pos k0] at he ⊢
    unfold askR at he ⊢
    by_cases e : askE h.q id txn m = 0
    · simp only [if_pos e]
      exact meas_ask id txn m
    · simp only [if_neg e] at he
      exact absurd he e
  simp only [if_neg k0] at he ⊢
  by_cases k1 : k = 1
  · simp only [if_pos k1] at he ⊢
    unfold upR at he ⊢
    by_cases e : m = 0 ∨ knI m = false
    · simp only [if_pos e] at he; cases he
    simp only [if_neg e] at he ⊢
    cases f : fnd h.q id with
    | none => rw [f] at he; cases he
    | some r =>
      rw [f] at he
      obtain ⟨hr, _⟩ := fnd_is f
      by_cases s : 0 < r.sn
      · simp only [if_pos s] at he; cases he
      · simp only [if_neg s]
        exact meas_up h0 hr m
  simp only [if_neg k1] at he ⊢
  by_cases k2 : k = 2
  · simp only [if_pos k2] at he ⊢
    unfold lvR at he ⊢
    cases f : fnd h.q id with
    | none => rw [f] at he; cases he
    | some r =>
      have := lvQ_len id h.q
      have := ups_lv id h.q
      show (lvQ id h.q).length + ups (lvQ id h.q) ≤ h.q.length + ups h.q + 1
      omega
  simp only [if_neg k2] at he ⊢
  unfold abRes at he ⊢
  cases f : fnd h.q id with
  | none => rw [f] at he; cases he
  | some r =>
    rw [f] at he
    obtain ⟨hr, _⟩ := fnd_is f
    by_cases s : 0 < r.sn
    · simp only [if_pos s]
      have := abQ_len r h.q
      have := ups_ab h0 hr
      show (abQ r h.q).length + ups (abQ r h.q) ≤ h.q.length + ups h.q + 1
      omega
    · simp only [if_neg s] at he; cases he
theorem meas_scan {W : Int} {q : List Rq} (h : Ok W q) : meas (scanQ q).2 ≤ meas q := by
  have e := ((scan_steps h).1.form h).1
  have hl := scan_len h
  unfold meas ups
  rw [hl]
  refine Nat.add_le_add_left ?_ _
  rw [e, List.countP_map]
  refine List.countP_mono_left fun r _ hx => ?_
  simp only [Function.comp] at hx
  split at hx
  · simp [upB, grtR] at hx
  · exact hx
theorem meas_do (h : Hq) (h0 : Ok h.W h.q) (hB : h.W + 1 ≤ 4611686018427387904) (k id txn m : Int) : meas (doQ h k id txn m).q ≤ meas h.q + 1 := by
  unfold doQ
  by_cases e : (actR h k id txn m).2 = 0
  · rw [if_pos e]
    exact Nat.le_trans (meas_scan (act_ok h h0 hB k id txn m e).1) (meas_act h h0 k id txn m e)
  · rw [if_neg e]; exact Nat.le_succ _
/-- The numbers of all requests meet a condition. -/
def Nums2 (P : Int → Int → Prop) (q : List Rq) : Prop := ∀ R ∈ q, P R.id R.txn
theorem Nums2.chg {P : Int → Int → Prop} {q : List Rq} (h : Nums2 P q) (f : Rq → Rq) (id : Int) (hf : ∀ r, (f r).id = r.id ∧ (f r).txn = r.txn) : Nums2 P (chg f id q) := by
  intro R hR
  unfold Go.Proofs.Ytmciiobncfchlaa.chg at hR
  obtain ⟨x, hx, rfl⟩ := List.mem_map.1 hR
  split
  · rw [(hf x).1, (hf x).2]; exact h x hx
  · exact h x hx
theorem Nums2.lv {P : Int → Int → Prop} {q : List Rq} (h : Nums2 P q) (id : Int) : Nums2 P (lvQ id q) := fun R hR => h R (List.mem_filter.1 hR).1
theorem Nums2.act {P : Int → Int → Prop} {h : Hq} (hn : Nums2 P h.q) (k id txn m : Int) (hp : P id txn) (he : (actR h k id txn m).2 = 0) : Nums2 P (actR h k id txn m).1.q := by
  unfold actR at he ⊢
  by_cases k0 : k = 0
  · simp only [if_pos k0] at he ⊢
    unfold askR at he ⊢
    by_cases e : askE h.q id txn m = 0
    · simp only [if_pos e]
      unfold askQ
      split
      · intro R hR
        rcases List.mem_append.1 hR with hR | hR
        · exact hn R hR
        · rw [List.mem_singleton] at hR; subst hR; exact hp
      · intro R hR
        rcases List.mem_append.1 hR with hR | hR
        · exact hn R hR
        · rw [List.mem_singleton] at hR; subst hR; exact hp
    · simp only [if_neg e] at he
      exact absurd he e
  simp only [if_neg k0] at he ⊢
  by_cases k1 : k = 1
  · simp only [if_pos k1] at he ⊢
    unfold upR at he ⊢
    by_cases e : m = 0 ∨ knI m = false
    · simp only [if_pos e] at he; cases he
    simp only [if_neg e] at he ⊢
    cases f : fnd h.q id with
    | none => rw [f] at he; cases he
    | some r =>
      rw [f] at he
      by_cases s : 0 < r.sn
      · simp only [if_pos s] at he; cases he
      · simp only [if_neg s]
        unfold upQ
        split
        · exact hn
        split
        · exact hn.chg _ _ fun r => ⟨rfl, rfl⟩
        · exact hn.chg _ _ fun r => ⟨rfl, rfl⟩
  simp only [if_neg k1] at he ⊢
  by_cases k2 : k = 2
  · simp only [if_pos k2] at he ⊢
    unfold lvR at he ⊢
    cases f : fnd h.q id with
    | none => rw [f] at he; cases he
    | some r => exact hn.lv id
  simp only [if_neg k2] at he ⊢
  unfold abRes at he ⊢
  cases f : fnd h.q id with
  | none => rw [f] at he; cases he
  | some r =>
    rw [f] at he
    by_cases s : 0 < r.sn
    · simp only [if_pos s]
      unfold abQ
      split
      · exact hn.lv _
      · exact hn.chg _ _ fun r => ⟨rfl, rfl⟩
    · simp only [if_neg s] at he; cases he
theorem Nums2.scan {P : Int → Int → Prop} {W : Int} {q : List Rq} (h : Ok W q) (hn : Nums2 P q) : Nums2 P (scanQ q).2 := by
  rw [((scan_steps h).1.form h).1]
  intro R hR
  obtain ⟨x, hx, rfl⟩ := List.mem_map.1 hR
  split
  · exact hn x hx
  · exact hn x hx
theorem Nums2.do_ {P : Int → Int → Prop} {h : Hq} (h0 : Ok h.W h.q) (hB : h.W + 1 ≤ 4611686018427387904) (hn : Nums2 P h.q) (k id txn m : Int) (hp : P id txn) : Nums2 P (doQ h k id txn m).q := by
  unfold doQ
  by_cases e : (actR h k id txn m).2 = 0
  · rw [if_pos e]
    exact Nums2.scan (act_ok h h0 hB k id txn m e).1 (hn.act k id txn m hp e)
  · rw [if_neg e]; exact hn
theorem fitR_of {W : Int} {q : List Rq} (h : Ok W q) (hn : Nums2 (fun a b => Fit a ∧ Fit b) q) : ∀ R ∈ q, FitR R := by
  intro R hR
  obtain ⟨h1, h2⟩ := hn R hR
  have h3 := (h.rt R hR).s0
  have h4 := (h.rt R hR).sW
  have h5 := h.wB
  exact ⟨h1, h2, by unfold Fit; omega⟩
/-- What holds of a head after k calls. -/
structure HAct (k : Nat) (h : Hq) : Prop where
  inv : HInv h
  t : h.t = 0
  r : h.r = -1
  W : h.W ≤ k
  ms : meas h.q ≤ k
  num : Nums2 (fun a b => Fit a ∧ Fit b) h.q
theorem HAct.nil : HAct 0 ⟨0, -1, 0, []⟩ := ⟨inv_nil _ _, rfl, rfl, Int.le_refl _, by simp [meas, ups], fun R hR => by cases hR⟩
theorem HAct.step {k : Nat} {h : Hq} (a : HAct k h) (hk : k < 40) (kd id txn m : Int) (hid : Fit id) (htx : Fit txn) : HAct (k + 1) (doQ h kd id txn m) := by
  have hB : h.W + 1 ≤ 4611686018427387904 := by have := a.W; omega
  obtain ⟨b1, b2, b3, _, b5, _⟩ := do_inv h a.inv hB kd id txn m
  refine ⟨b1, b2.trans a.t, b3.trans a.r, by have := a.W; omega, Nat.le_trans (meas_do h a.inv.ok hB kd id txn m) (by have := a.ms; omega), a.num.do_ a.inv.ok hB kd id txn m ⟨hid, htx⟩⟩
theorem HAct.len {k : Nat} {h : Hq} (a : HAct k h) : h.q.length ≤ k := by have := a.ms; unfold meas at this; omega
/-- A head whose measure is small can be scanned. -/
theorem stOk_ms {W : Int} {q : List Rq} (h : Ok W q) (hm : meas q ≤ 40) : StOk (tC q) (wpl q q.length) := by
  have := ups_len q
  unfold meas at hm
  exact stOk_40 h (by omega) (by omega)
end Go.Proofs.Ytmciiobncfchlaa
end

/- The developers' package queue: Hand. -/
section
namespace Go.Proofs.Ytmciiobncfchlaa
open Go.RowKit
set_option linter.unusedVariables false      -- a contract need not use every name

theorem hn_plc {W : Int} {q : List Rq} {id x : Int} {k : Nat} (h : Ok W q) (hk : k < q.length) (hf : fnd q id = some q[k]) :
    (q.any fun o => !(o.id == id) && o.txn == x) = ((plc (fun R => R.txn == x) q != -1) && (plc (fun R => R.txn == x) q != (k : Int))) := by
  rcases plc_form (fun R => R.txn == x) q with ⟨h1, h2⟩ | ⟨m, h1, hm, h3, h4⟩
  · rw [h1]
    rw [hn_none hk hf (fun m hm _ e => by have := h2 _ (List.getElem_mem hm); simp [e] at this)]
    rfl
  · rw [h1]
    have e1 : ((m : Int) != -1) = true := by rw [bne_iff_ne]; omega
    rw [e1, Bool.true_and]
    have h3' : q[m].txn = x := by simpa using h3
    by_cases e : m = k
    · subst e
      have : ((m : Int) != (m : Int)) = false := by simp
      rw [this]
      refine hn_none hk hf (fun j hj ne ej => ?_)
      have e5 : q[j] = q[m] := h.injT _ (List.getElem_mem hj) _ (List.getElem_mem hk) (by rw [ej, h3'])
      have e6 := id_ne h hj hk ne
      exact e6 (by rw [e5])
    · have : ((m : Int) != (k : Int)) = true := by rw [bne_iff_ne]; omega
      rw [this]
      exact hn_hit h hk hf hm e h3'
set_option maxRecDepth 100000 in
set_option maxHeartbeats 4000000 in
theorem dHand (t r W id x : Int) (v : Value) (q : List Rq) (w : World) (hl : q.length ≤ 1000) (hok : Ok W q) (h : RqAt w v q) :
    Calls Try.prog 14 #[hdV t r v W, .int .i64 id, .int .i64 x] w (HD1 (hnR ⟨t, r, W, q⟩ id x) w) := by
  have HOk := Lib.hid hok
  clear hok
  obtain ⟨X, hX⟩ : ∃ X, hnR ⟨t, r, W, q⟩ id x = X := ⟨_, rfl⟩
  rw [hX]
  unfold HD1
  have HCl := Lib.hid (fun (w1 : World) (g : Nw w w1) => dClone v q w1 hl (h.nw g))
  obtain ⟨px, hpx⟩ : ∃ px, plc (fun R => R.id == id) q = px := ⟨_, rfl⟩
  have hFi := fun (w1 : World) (g : Nw w w1) (f : Value) (hf : Tells w1 f (fun R => R.id == id)) => dFind t r W v f _ q w1 hl (h.nw g) hf
  rw [hpx] at hFi
  obtain ⟨py, hpy⟩ : ∃ py, plc (fun R => R.txn == x) q = py := ⟨_, rfl⟩
  have hFt := fun (w1 : World) (g : Nw w w1) (f : Value) (hf : Tells w1 f (fun R => R.txn == x)) => dFind t r W v f _ q w1 hl (h.nw g) hf
  rw [hpy] at hFt
  have HAt := Lib.hid h
  obtain ⟨a, c, rfl, _⟩ := h
  unfold hdV at hFi hFt ⊢
  have HFi := Lib.hid hFi
  have HFt := Lib.hid hFt
  clear hFi hFt
  have HWi := Lib.hid (dWithID id)
  have HTx := Lib.hid (dOfTxn x)
  obtain ⟨hx1, hx2, hx3, hx4⟩ := two_boxes w (.cells #[.int .i64 t, .int .i64 r, .slice a q.length c, .int .i64 W] 27) (.cells #[.int .i64 0, .int .i64 0, .slice none 0 0, .int .i64 0] 27)
  obtain ⟨w1, hw1⟩ : ∃ w1, (w.alloc (.cells #[.int .i64 t, .int .i64 r, .slice a q.length c, .int .i64 W] 27)).alloc (.cells #[.int .i64 0, .int .i64 0, .slice none 0 0, .int .i64 0] 27) = w1 := ⟨_, rfl⟩
  rw [hw1] at hx1 hx2 hx3
  have HB1 := Lib.hid (And.intro (And.intro hx1 hx2) hx3)
  have s0 : ∀ z, Nw w1 z → z.cell? ⟨w.heap.size, 0, none⟩ = some (.int .i64 t) := fun z hz => hz.kp (hcell (j := 0) hx1)
  have s1 : ∀ z, Nw w1 z → z.cell? ⟨w.heap.size, 1, none⟩ = some (.int .i64 r) := fun z hz => hz.kp (hcell (j := 1) hx1)
  have s2 : ∀ z, Nw w1 z → z.cell? ⟨w.heap.size, 2, none⟩ = some (.slice a q.length c) := fun z hz => hz.kp (hcell (j := 2) hx1)
  have s3 : ∀ z, Nw w1 z → z.cell? ⟨w.heap.size, 3, none⟩ = some (.int .i64 W) := fun z hz => hz.kp (hcell (j := 3) hx1)
  clear hx1 hx2 hx3 hx4
  have HW1 := Lib.hid hw1
  clear hw1
  have q1 := (Nw.refl w1).drew1
  obtain ⟨wc, hwc⟩ : ∃ wc, w1.drew = wc := ⟨_, rfl⟩
  go_enter Try.func14, Try.ntmps14
  go_wp2
  rw [HW1.out]
  have hB : Nw w1 w1 := Nw.refl w1
  have HT : ∀ (z : World), Nw w1 z → Nw w z := fun z hz => HB1.out.2.trans hz
  clear q1 hwc
  go_region_held3 (fun y => Nw w1 y) (first | assumption | exact Nw.drew1 (by assumption) | exact Nw.trans (by assumption) (by assumption)) (first | (go_at_call 37; (with_reducible refine (HWi.out _).mono ?_); rintro e wy ⟨pa, rfl, hg, hbx⟩; replace hbx := Tells.withID hbx) | (go_at_call 38; (with_reducible refine (HTx.out _).mono ?_); rintro e wy ⟨pa, rfl, hg, hbx⟩; replace hbx := Tells.ofTxn hbx) | (go_at_call 36; (with_reducible refine (HFi.out _ (HT _ (by assumption)) _ hbx).mono ?_); rintro e wy ⟨rfl, hg⟩; clear hbx) | (go_at_call 36; (with_reducible refine (HFt.out _ (HT _ (by assumption)) _ hbx).mono ?_); rintro e wy ⟨rfl, hg⟩; clear hbx))

  rename_i q1
  have HN := Lib.hid (HB1.out.2.trans q1)
  have hp1 := q1.at' HB1.out.1.1
  have hq1 := q1.at' HB1.out.1.2
  have c0 := hcell (j := 0) hp1
  have c1 := hcell (j := 1) hp1
  have c2 := hcell (j := 2) hp1
  have c3 := hcell (j := 3) hp1
  have hpl := hlt hp1
  rcases at_plc q id with ⟨e1, hf⟩ | ⟨k, e1, hk, hf⟩
  · obtain rfl := hpx.symm.trans e1
    have hR := hX.symm.trans (show hnR ⟨t, r, W, q⟩ id x = (noH, 5) by unfold hnR; rw [hf])
    subst hR
    have d0 := hcell (j := 0) hq1
    have d1 := hcell (j := 1) hq1
    have d2 := hcell (j := 2) hq1
    have d3 := hcell (j := 3) hq1
    have fz := fun k => hfz (j := k) hq1
    have hsl2 := hlt hq1
    clear hpx hpy hX e1 hf s0 s1 s2 s3 HB1 HFi HFt HWi HTx HAt HW1 q1 hp1 hq1 HCl
    go_wp2
    exact bodyPost_ret (v := .tuple #[.agg #[.int .i64 0, .int .i64 0, .slice none 0 0, .int .i64 0], .int .i64 5]) (by simp only [results, Try.results14]; simp [go_sem, *]) rfl ⟨_, rfl, fill_nw HN.out (Nat.le_succ _) _ _ _ _, Rd.nil _, Nat.le_refl _, Fresh.nil _ _⟩
  · obtain rfl := hpx.symm.trans e1
    have dk : ((k : Int) == -1) = false := by simp
    have hpl2 := hn_plc (x := x) HOk.out hk hf
    rw [hpy] at hpl2
    have hX1 : (q.any fun o => !(o.id == id) && o.txn == x) = true → X = (noH, 4) := fun s => hX.symm.trans (by unfold hnR; rw [hf]; exact if_pos s)
    have hX2 : ¬ (q.any fun o => !(o.id == id) && o.txn == x) = true → 0 < q[k].sn → X = (noH, 7) := fun s m => hX.symm.trans (by unfold hnR; rw [hf]; simp only [if_neg s]; exact if_pos m)
    have hX3 : ¬ (q.any fun o => !(o.id == id) && o.txn == x) = true → ¬ 0 < q[k].sn → X = (⟨t, r, W, q.set k ⟨q[k].id, x, q[k].md, q[k].wt, q[k].sn⟩⟩, 0) := fun s m => hX.symm.trans (by unfold hnR; rw [hf]; simp only [if_neg s]; rw [if_neg m, hn_at HOk.out hk hf])
    rw [hpl2] at hX1 hX2 hX3
    obtain ⟨bx, hbx⟩ : ∃ bx, (py != -1) = bx := ⟨_, rfl⟩
    obtain ⟨by2, hby2⟩ : ∃ by2, (py != (k : Int)) = by2 := ⟨_, rfl⟩
    rw [hbx, hby2] at hX1 hX2 hX3
    by_cases hy : (bx && by2) = true
    · have hR := hX1 hy
      subst hR
      rw [Bool.and_eq_true] at hy
      obtain ⟨rfl, rfl⟩ := hy
      have d0 := hcell (j := 0) hq1
      have d1 := hcell (j := 1) hq1
      have d2 := hcell (j := 2) hq1
      have d3 := hcell (j := 3) hq1
      have fz := fun k => hfz (j := k) hq1
      have hsl2 := hlt hq1
      clear hpx hpy hX e1 hf s0 s1 s2 s3 HB1 HFi HFt HWi HTx HAt HW1 q1 hp1 hq1 HCl hX1 hX2 hX3 hpl2
      go_wp2
      exact bodyPost_ret (v := .tuple #[.agg #[.int .i64 0, .int .i64 0, .slice none 0 0, .int .i64 0], .int .i64 4]) (by simp only [results, Try.results14]; simp [go_sem, *]) rfl ⟨_, rfl, fill_nw HN.out (Nat.le_succ _) _ _ _ _, Rd.nil _, Nat.le_refl _, Fresh.nil _ _⟩
    rcases HAt.out with ⟨a', c', e3, ⟨e4, _⟩ | ⟨b, o, e4, hc⟩⟩
    · subst e4; simp at hk
    simp only [Value.slice.injEq, true_and] at e3
    obtain ⟨rfl, rfl⟩ := e3
    subst e4
    have hki : (k : Int) < (q.length : Int) := by omega
    have hce := (hc.nw HN.out).cell k hk
    have HCe := Lib.hid (fun (z : World) (g : Nw w z) => (hc.nw g).cell k hk)
    have HWa := Lib.hid (fun z => dWaits q[k] z)
    have HHo := Lib.hid (fun z => dHolds q[k] z)
    have HRow := Lib.hid (fun (z : World) (g0 g cap : Nat) (j : Nat) (hj : j < 5) (u : Value) (new : Rq) (e : (rqrow q[k]).set j u = rqrow new) (h : RqOwn z g0 (.slice (some ⟨g, 0, none⟩) q.length cap) q) => own_upd h rfl k hk j hj u new e)
    have HRow2 := Lib.hid (fun (z : World) (g0 g cap : Nat) (X : Rq) (j : Nat) (hj : j < 5) (u : Value) (new : Rq) (e : (rqrow X).set j u = rqrow new) (h : RqOwn z g0 (.slice (some ⟨g, 0, none⟩) q.length cap) (q.set k X)) => own_upd h (by rw [List.length_set]) k (by rw [List.length_set]; exact hk) j hj u new (by rw [List.getElem_set_self]; exact e))
    simp only [List.set_set] at HRow2
    have HCo := Lib.hid (fun (z : World) (g0 g cap : Nat) (h : RqOwn z g0 (.slice (some ⟨g, 0, none⟩) q.length cap) q) => own_cell h rfl k hk)
    generalize q[k] = R at *
    obtain ⟨b0, b1, b2, b3, b4⟩ := R
    unfold rqV at HWa HHo
    have m0 := hce 0 _ rfl
    have m1 := hce 1 _ rfl
    have m2 := hce 2 _ rfl
    have m3 := hce 3 _ rfl
    have m4 := hce 4 _ rfl
    simp only [Nat.add_zero] at m0
    clear hce
    have HX2 := Lib.hid (hX2 hy)
    have HX3 := Lib.hid (hX3 hy)
    have HY := Lib.hid hy
    have HP := Lib.hid (And.intro hp1 hq1)
    clear hX1 hX2 hX3 hpl2 hpx hpy hX e1 hf s0 s1 s2 s3 HB1 HFi HFt HWi HTx HW1 q1 hc HOk HHo hy
    cases bx <;> cases by2 <;> first
     | (exfalso; exact absurd rfl HY.out)
     | skip
    all_goals
      clear HY
      go_wp2_with fail
      go_at_call 42
      refine (HWa.out _).mono ?_
      rintro e w2 ⟨rfl, g2⟩
      have hp2 := g2.at' HP.out.1
      have hq2 := g2.at' HP.out.2
      have HN2 := Lib.hid (HN.out.trans g2)
      clear c0 c1 c2 c3 hpl hp1 hq1
      have c0 := hcell (j := 0) hp2
      have c1 := hcell (j := 1) hp2
      have c2 := hcell (j := 2) hp2
      have c3 := hcell (j := 3) hp2
      have hpl := hlt hp2
      clear m0 m1 m2 m3 m4 g2 HWa HP
      by_cases hs : 0 < b4
      · have ds : decide (0 < b4) = true := by simpa using hs
        have hR := HX2.out hs
        subst hR
        have d0 := hcell (j := 0) hq2
        have d1 := hcell (j := 1) hq2
        have d2 := hcell (j := 2) hq2
        have d3 := hcell (j := 3) hq2
        have fz := fun k => hfz (j := k) hq2
        have hsl2 := hlt hq2
        clear hs HX2 HX3 HCe HRow HRow2 HCo HCl HAt HN hp2 hq2
        go_wp2
        exact bodyPost_ret (v := .tuple #[.agg #[.int .i64 0, .int .i64 0, .slice none 0 0, .int .i64 0], .int .i64 7]) (by simp only [results, Try.results14]; simp [go_sem, *]) rfl ⟨_, rfl, fill_nw HN2.out (Nat.le_succ _) _ _ _ _, Rd.nil _, Nat.le_refl _, Fresh.nil _ _⟩
      have ds : decide (0 < b4) = false := by simpa using hs
      have hR := HX3.out (by first | exact hs | exact Int.not_lt.1 hs)
      subst hR
      have HQ := Lib.hid (And.intro hp2 hq2)
      have HCl2 := Lib.hid (HCl.out _ HN2.out)
      clear hs HX2 HX3 HCe HCl HAt hp2 hq2
      go_wp2_with fail
      go_at_call 48
      refine HCl2.out.mono ?_
      rintro e w4 ⟨v4, rfl, g4, hO⟩
      obtain ⟨g, cap, rfl, hg0, hgl, _⟩ := RqOwn.at hO hk
      have hne : ¬ g = w.heap.size := by have := hlt HQ.out.1; omega
      have hne' : ¬ w.heap.size = g := fun e => hne e.symm
      have hn2 : ¬ g = w.heap.size + 1 := by have := hlt HQ.out.2; omega
      have hn2' : ¬ w.heap.size + 1 = g := fun e => hn2 e.symm
      have hp4 := g4.at' HQ.out.1
      have hq4 := g4.at' HQ.out.2
      have HB := Lib.hid (And.intro (hlt HQ.out.1) (hlt HQ.out.2))
      have hO1 := own_st hO (p := ⟨w.heap.size, 2, none⟩) (by exact HB.out.1) (.slice (some ⟨g, 0, none⟩) q.length cap)
      have hO2 := HRow.out _ _ _ _ 1 (by decide) (.int .i64 x) ⟨b0, x, b2, b3, b4⟩ rfl hO1
      have hO4 := fill_own hO2 (rb := w.heap.size + 1) HB.out.2 (.int .i64 t) (.int .i64 r) (.slice (some ⟨g, 0, none⟩) q.length cap) (.int .i64 W)
      have HO4 := Lib.hid hO4
      have HN4 := Lib.hid (HN2.out.trans g4)
      have HG := Lib.hid (And.intro hg0 HN2.out.sz)
      have hoc := HCo.out _ _ _ _ hO
      have c0 := hcell (j := 0) hp4
      have c1 := hcell (j := 1) hp4
      have c2 := hcell (j := 2) hp4
      have c3 := hcell (j := 3) hp4
      have hpl := hlt hp4
      have fp := fun k => hfz (j := k) hp4
      have fg := fun k => own_frz hO rfl k
      have m1 := hoc 1 _ rfl
      have d0 := hcell (j := 0) hq4
      have d1 := hcell (j := 1) hq4
      have d2 := hcell (j := 2) hq4
      have d3 := hcell (j := 3) hq4
      have fz := fun k => hfz (j := k) hq4
      have hsl2 := hlt hq4
      clear hq4 hp4 hO hO1 hO2 hO4 hoc g4 HCl2 HN HRow HRow2 HCo hg0
      go_wp2
      exact bodyPost_ret (v := .tuple #[.agg #[.int .i64 t, .int .i64 r, .slice (some ⟨g, 0, none⟩) q.length cap, .int .i64 W], .int .i64 0]) (by simp only [results, Try.results14]; simp [go_sem, *]) rfl ⟨_, rfl, fill_nw ((HN4.out.st (Nat.le_refl _) _).st (by show w.heap.size ≤ g; have := HG.out; omega) _) (Nat.le_succ _) _ _ _ _, RqOwn.rd HO4.out, HO4.out.cap, HO4.out.fresh HG.out.2⟩
end Go.Proofs.Ytmciiobncfchlaa
end
