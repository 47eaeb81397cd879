/- Texts merged: QcB, QvV -/
import Derived.Test.YtmciiobncfchlaaGreatQueueCallsB10

/- The document's own Blockers. -/
section
namespace Go.Proofs.YtmciiobncfchlaaGreat
open Go.RowKit
set_option linter.unusedVariables false

def bkF (r : Rq) (o : Rq) : Bool := !(o.id == r.id) && blk r o
def bkA (r : Rq) (q : List Rq) (k : Nat) : List Int := ((q.take k).filter (bkF r)).foldl (fun l o => putL o.txn l) []
theorem bkA_len (r : Rq) (q : List Rq) (k : Nat) : (bkA r q k).length ≤ q.length := by
  have h : ∀ (l : List Rq) (s : List Int), (l.foldl (fun l o => putL o.txn l) s).length ≤ s.length + l.length := by
    intro l
    induction l with
    | nil => intro s; simp
    | cons x l ih =>
      intro s
      rw [List.foldl_cons]
      refine Nat.le_trans (ih _) ?_
      have : ∀ (n : Int) (s : List Int), (putL n s).length ≤ s.length + 1 := by
        intro n s
        induction s with
        | nil => simp [putL]
        | cons y s ih2 =>
          unfold putL
          split
          · simp; omega
          · split <;> simp
      have := this x.txn s
      simp; omega
  have h1 := h ((q.take k).filter (bkF r)) []
  have h2 := List.length_filter_le (bkF r) (q.take k)
  have h3 : (q.take k).length ≤ q.length := by simp; omega
  unfold bkA
  simp at h1; omega
theorem bkA_step (r : Rq) (q : List Rq) (k : Nat) (hk : k < q.length) : bkA r q (k + 1) = if bkF r q[k] = true then putL q[k].txn (bkA r q k) else bkA r q k := by
  unfold bkA
  rw [List.take_add_one, List.getElem?_eq_getElem hk, List.filter_append, List.foldl_append]
  by_cases h : bkF r q[k] = true
  · rw [if_pos h]; simp [h]
  · rw [if_neg h]; simp [h]
theorem bkA_all (r : Rq) (q : List Rq) : bkA r q q.length = blkL q r := by
  unfold bkA blkL bkF
  rw [List.take_length]
theorem IS.sl {w : World} {v : Value} {l : List Int} (h : IS w v l) : ∃ ao cap, v = .slice ao l.length cap := by
  obtain ⟨ao, cap, e, _⟩ := h.box
  exact ⟨ao, cap, e⟩
set_option maxRecDepth 100000 in
set_option maxHeartbeats 32000000 in
theorem r9blockers (t r W id : Int) (v : Value) (q : List Rq) (w : World) (hl : q.length ≤ 900) (hok : Ok W q) (h : RqAt w v q) :
    Calls Tryz.prog 29 #[hdV t r v W, .int .i64 id] w fun e w' => ∃ v', e = .returned v' ∧ Nw w w' ∧ IS w' v' (blkR q id) := by
  have HOk := Lib.hid hok
  clear hok
  obtain ⟨X, hX⟩ : ∃ X, blkR q id = X := ⟨_, rfl⟩
  rw [hX]
  have HXx := Lib.hid hX
  clear hX
  have HAt := Lib.hid (fun (w1 : World) (g : Nw w w1) => r9at t r W id v q w1 (by omega) (h.nw g))
  have HH := Lib.hid h
  obtain ⟨a, c, rfl⟩ := h.form
  unfold hdV at HAt ⊢
  obtain ⟨n, hn⟩ : ∃ n, q.length = n := ⟨_, rfl⟩
  rw [hn] at HAt HH hl ⊢
  have HNn := Lib.hid hn
  clear hn h
  have hp := allocAt w (.cells #[.int .i64 t, .int .i64 r, .slice a n c, .int .i64 W] 26)
  obtain ⟨w0, hw0⟩ : ∃ x, w.alloc (.cells #[.int .i64 t, .int .i64 r, .slice a n c, .int .i64 W] 26) = x := ⟨_, rfl⟩
  have hN0 : Nw w w0 := by rw [← hw0]; exact (Nw.refl _).alloc _
  rw [hw0] at hp
  obtain ⟨p, hpp⟩ : ∃ x, w.heap.size = x := ⟨_, rfl⟩
  rw [hpp] at hp
  have HE := Lib.hid (And.intro hw0 hpp)
  have H0 := Lib.hid (And.intro hp hN0)
  have c0 := hcell (j := 0) hp
  have c1 := hcell (j := 1) hp
  have c2 := hcell (j := 2) hp
  have c3 := hcell (j := 3) hp
  have cl := hlt hp
  clear hw0 hpp hp hN0
  go_enter Tryz.func29, Tryz.ntmps29
  go_wp2_with fail
  rw [HE.out.1, HE.out.2]
  try go_wp2_with fail
  go_at_call 53
  refine (HAt.out _ H0.out.2).mono ?_
  rintro e w1 ⟨i, rfl, g1, hi⟩
  have H1 := Lib.hid (And.intro (g1.at' H0.out.1) (H0.out.2.trans g1))
  clear c0 c1 c2 c3 cl g1 H0 HE HAt
  rcases hi with ⟨rfl, hf⟩ | ⟨k, rfl, hk, hf⟩
  · have HR := Lib.hid (HXx.out.symm.trans (show blkR q id = [] by unfold blkR; rw [hf]))
    clear hf HXx
    go_wp2
    go_ret
    exact ⟨_, rfl, H1.out.2, by rw [HR.out]; exact IS.nil _⟩
  have hkn : k < n := by rw [← HNn.out]; exact hk
  have hki : (k : Int) < (n : Int) := by omega
  obtain ⟨ax, cx, ex, hx⟩ := HH.out.nw H1.out.2
  simp only [Value.slice.injEq] at ex
  obtain ⟨rfl, -, rfl⟩ := ex
  obtain ⟨hq0, _⟩ | ⟨rb, ro, rfl, hrc⟩ := hx
  · rw [hq0] at hk; simp at hk
  have hce := hrc.cell k hk
  have HRc := Lib.hid hrc
  have HR0 := Lib.hid (HXx.out.symm.trans (show blkR q id = if 0 < q[k].sn then blkL q q[k] else [] by unfold blkR; rw [hf]))
  have HNe := Lib.hid (show ∀ m (hm : m < q.length), m ≠ k → (q[m].id == q[k].id) = false from fun m hm ne => by have := id_ne HOk.out hm hk ne; simpa using this)
  obtain ⟨R, hR⟩ : ∃ R, q[k] = R := ⟨_, rfl⟩
  simp only [hR] at hce HR0 HNe
  have HRk := Lib.hid (show ∃ h : k < q.length, q[k] = R from ⟨hk, hR⟩)
  have m0 := hce 0 _ rfl
  have m1 := hce 1 _ rfl
  have m2 := hce 2 _ rfl
  have m3 := hce 3 _ rfl
  have m4 := hce 4 _ rfl
  simp only [Nat.add_zero] at m0
  have hrl := hrc.lt
  obtain ⟨r0, r1, r2, r3, r4⟩ := R
  have c2 := hcell (j := 2) H1.out.1
  have cl := hlt H1.out.1
  have HWt := Lib.hid (r9waits r0 r1 r2 r3 r4)
  have dk : decide ((k : Int) < 0) = false := by rw [decide_eq_false_iff_not]; omega
  clear hce hrc hR hf hk HXx
  by_cases hs : 0 < r4
  rotate_left
  · have ds : decide (0 < r4) = false := decide_eq_false hs
    rw [ds] at HWt
    have HR := Lib.hid (HR0.out.trans (if_neg hs))
    clear hs HR0 HNe
    go_wp2_with fail
    go_at_call 34
    refine (HWt.out _).mono ?_
    rintro e w2 ⟨rfl, g2⟩
    go_wp2
    go_ret
    exact ⟨_, rfl, H1.out.2.trans g2, by rw [HR.out]; exact IS.nil _⟩
  have ds : decide (0 < r4) = true := decide_eq_true hs
  rw [ds] at HWt
  have HR := Lib.hid (HR0.out.trans (if_pos hs))
  clear hs HR0
  go_wp2_with fail
  go_at_call 34
  refine (HWt.out _).mono ?_
  rintro e w2 ⟨rfl, g2⟩
  have hb2 := g2.at' H1.out.1
  have HRc2 := Lib.hid (HRc.out.nw g2)
  have hc2 := HRc2.out.cell
  have m0 := g2.kp m0
  have m1 := g2.kp m1
  have m2 := g2.kp m2
  have m3 := g2.kp m3
  have m4 := g2.kp m4
  have hrl := HRc2.out.lt
  have c2 := hcell (j := 2) hb2
  have cl := hlt hb2
  have HN2 := Lib.hid (H1.out.2.trans g2)
  have hb3 := allocAt w2 (.cells #[.int .i64 r0, .int .i64 r1, .int .i64 r2, .int .i64 r3, .int .i64 r4] 42)
  obtain ⟨w3, hw3⟩ : ∃ x, w2.alloc (.cells #[.int .i64 r0, .int .i64 r1, .int .i64 r2, .int .i64 r3, .int .i64 r4] 42) = x := ⟨_, rfl⟩
  have g3 : Nw w2 w3 := by rw [← hw3]; exact (Nw.refl _).alloc _
  rw [hw3] at hb3
  obtain ⟨B, hB⟩ : ∃ x, w2.heap.size = x := ⟨_, rfl⟩
  rw [hB] at hb3
  have HE := Lib.hid (And.intro hw3 hB)
  have H3 := Lib.hid (And.intro (g3.at' hb2) (And.intro hb3 (And.intro (HRc2.out.nw g3) (HN2.out.trans g3))))
  clear hb2 hc2 hw3 hB hb3 g3 g2 HRc HRc2 HN2 HWt H1
  go_wp2
  rw [HE.out.1, HE.out.2]
  clear HE m0 m1 m2 m3 m4 hrl c2 cl
  have HAcc := Lib.hid (bkA_len ⟨r0, r1, r2, r3, r4⟩ q)
  have HSt := Lib.hid (bkA_step ⟨r0, r1, r2, r3, r4⟩ q)
  have HAl := Lib.hid (bkA_all ⟨r0, r1, r2, r3, r4⟩ q)
  obtain ⟨Ac, hAc⟩ : ∃ f, bkA ⟨r0, r1, r2, r3, r4⟩ q = f := ⟨_, rfl⟩
  rw [hAc] at HAcc HSt HAl
  have HA0 := Lib.hid (show Ac 0 = [] by rw [← hAc]; rfl)
  clear hAc
  go_loopw [7, 8] (fun u i wr => ∃ m : Nat, i = .int .i64 m ∧ m ≤ n ∧ IS wr u (Ac m) ∧ Nw w3 wr) (fun _ i _ => n - (intOf i).toNat)
  case atStart => exact ⟨0, rfl, Nat.zero_le _, by rw [HA0.out]; exact IS.nil _, Nw.refl _⟩
  case round =>
    obtain ⟨m, rfl, hm, hI, hG⟩ := hrel
    obtain ⟨ua, uc, rfl⟩ := hI.sl
    obtain ⟨un, hun⟩ : ∃ x, (Ac m).length = x := ⟨_, rfl⟩
    rw [hun] at hI
    have HI := Lib.hid (And.intro hI hun)
    have HG := Lib.hid hG
    rw [hun]
    clear hI hun
    have hbh := hG.at' H3.out.1
    have c2 := hcell (j := 2) hbh
    have cl := hlt hbh
    by_cases hmn : m < n
    rotate_left
    · have dm : decide ((m : Int) < (n : Int)) = false := by rw [decide_eq_false_iff_not]; omega
      have dm' : decide (m < n) = false := by rw [decide_eq_false_iff_not]; omega
      have HM := Lib.hid (show m = n by omega)
      clear hbh hG hm hmn
      go_wp2
      go_ret
      exact ⟨_, rfl, H3.out.2.2.2.trans HG.out, by rw [HR.out, ← HAl.out, HNn.out, ← HM.out]; exact HI.out.1⟩
    have dm : decide ((m : Int) < (n : Int)) = true := by rw [decide_eq_true_iff]; omega
    have hmi : (m : Int) < (n : Int) := by omega
    have hmq : m < q.length := by rw [HNn.out]; exact hmn
    have hce := (H3.out.2.2.1.nw hG).cell m hmq
    have hrl := (H3.out.2.2.1.nw hG).lt
    have hst := HSt.out m hmq
    have hid := HNe.out m hmq
    have hidk := HRk.out
    obtain ⟨O, hO⟩ : ∃ O, q[m] = O := ⟨_, rfl⟩
    rw [hO] at hst hce hid
    have m0 := hce 0 _ rfl
    have m1 := hce 1 _ rfl
    have m2 := hce 2 _ rfl
    have m3 := hce 3 _ rfl
    have m4 := hce 4 _ rfl
    simp only [Nat.add_zero] at m0
    obtain ⟨o0, o1, o2, o3, o4⟩ := O
    by_cases hkm : m = k
    · have hnx : Ac (m + 1) = Ac m := by
        rw [hst, if_neg]
        subst hkm
        obtain ⟨h1, h2⟩ := hidk
        rw [hO] at h2
        unfold bkF
        rw [h2]; simp
      have HX := Lib.hid hnx
      subst hkm
      have dk2 : ((m : Int) == (m : Int)) = true := by simp
      clear hst hid hidk hO hnx hce hbh hG hmq
      go_wp2
      go_roundw
      case rel => exact ⟨m + 1, by go_num, by omega, by rw [HX.out]; exact HI.out.1.nw ((Nw.refl _).alloc _), HG.out.alloc _⟩
      case measure => simp [intOf]; omega
    have dk2 : ((m : Int) == (k : Int)) = false := by simp; omega
    have hid' := hid hkm
    have hst' : Ac (m + 1) = if blk ⟨r0, r1, r2, r3, r4⟩ ⟨o0, o1, o2, o3, o4⟩ = true then putL o1 (Ac m) else Ac m := by
      rw [hst]
      unfold bkF
      rw [hid']; rfl
    have HSt' := Lib.hid hst'
    have HO1 := Lib.hid (r9holds o0 o1 o2 o3 o4)
    have HO2 := Lib.hid (r9waits o0 o1 o2 o3 o4)
    have HR1 := Lib.hid (r9holds r0 r1 r2 r3 r4)
    have HCp := Lib.hid (r1comp o2 r3)
    obtain ⟨w4, hw4⟩ : ∃ x, wr.alloc (.cells #[.int .i64 o0, .int .i64 o1, .int .i64 o2, .int .i64 o3, .int .i64 o4] 42) = x := ⟨_, rfl⟩
    have hb4 := allocAt wr (.cells #[.int .i64 o0, .int .i64 o1, .int .i64 o2, .int .i64 o3, .int .i64 o4] 42)
    have g4 : Nw wr w4 := by rw [← hw4]; exact (Nw.refl _).alloc _
    rw [hw4] at hb4
    obtain ⟨B4, hB4⟩ : ∃ x, wr.heap.size = x := ⟨_, rfl⟩
    rw [hB4] at hb4
    have HE := Lib.hid (And.intro hw4 hB4)
    have hbr := (hG.trans g4).at' H3.out.2.1
    have HG4 := Lib.hid (And.intro (hG.trans g4) (HI.out.1.nw g4))
    have HPu := Lib.hid (fun (y : World) (hy : Nw w4 y) => r9put o1 (.slice ua un uc) (Ac m) y (by have := HAcc.out m; have := HNn.out; omega) (HG4.out.2.nw hy))
    have s0 : ∀ y, Nw w4 y → y.cell? ⟨B4, 0, none⟩ = some (.int .i64 o0) := fun y hy => hy.kp (hcell (j := 0) hb4)
    have s1 : ∀ y, Nw w4 y → y.cell? ⟨B4, 1, none⟩ = some (.int .i64 o1) := fun y hy => hy.kp (hcell (j := 1) hb4)
    have s2 : ∀ y, Nw w4 y → y.cell? ⟨B4, 2, none⟩ = some (.int .i64 o2) := fun y hy => hy.kp (hcell (j := 2) hb4)
    have s3 : ∀ y, Nw w4 y → y.cell? ⟨B4, 3, none⟩ = some (.int .i64 o3) := fun y hy => hy.kp (hcell (j := 3) hb4)
    have s4 : ∀ y, Nw w4 y → y.cell? ⟨B4, 4, none⟩ = some (.int .i64 o4) := fun y hy => hy.kp (hcell (j := 4) hb4)
    have t0 : ∀ y, Nw w4 y → y.cell? ⟨B, 0, none⟩ = some (.int .i64 r0) := fun y hy => hy.kp (hcell (j := 0) hbr)
    have t1 : ∀ y, Nw w4 y → y.cell? ⟨B, 1, none⟩ = some (.int .i64 r1) := fun y hy => hy.kp (hcell (j := 1) hbr)
    have t2 : ∀ y, Nw w4 y → y.cell? ⟨B, 2, none⟩ = some (.int .i64 r2) := fun y hy => hy.kp (hcell (j := 2) hbr)
    have t3 : ∀ y, Nw w4 y → y.cell? ⟨B, 3, none⟩ = some (.int .i64 r3) := fun y hy => hy.kp (hcell (j := 3) hbr)
    have t4 : ∀ y, Nw w4 y → y.cell? ⟨B, 4, none⟩ = some (.int .i64 r4) := fun y hy => hy.kp (hcell (j := 4) hbr)
    have HMn := Lib.hid hmn
    clear hst hst' hid hid' hidk hO hce hbh hG hmq hbr hb4 g4 hw4 hB4 hkm hmn hm
    go_wp2_with fail
    rw [HE.out.1, HE.out.2]
    clear c2 cl m0 m1 m2 m3 m4 hrl HE
    have hN : Nw w4 w4 := Nw.refl _
    obtain ⟨A, hA⟩ : ∃ x, (o2 != 0) = x := ⟨_, rfl⟩
    obtain ⟨C, hC⟩ : ∃ x, cpI o2 r3 = x := ⟨_, rfl⟩
    obtain ⟨S, hS⟩ : ∃ x, decide (0 < o4) = x := ⟨_, rfl⟩
    obtain ⟨M, hM⟩ : ∃ x, (r2 != 0) = x := ⟨_, rfl⟩
    obtain ⟨D, hD⟩ : ∃ x, decide (o4 < r4) = x := ⟨_, rfl⟩
    have HBk := Lib.hid (show blk ⟨r0, r1, r2, r3, r4⟩ ⟨o0, o1, o2, o3, o4⟩ = ((A && !C) || (A && S && (!M || D)) || (!M && !A && D)) by
      unfold blk
      simp only [hA, hC, hS, hD]
      rw [show (r2 == 0) = !M by rw [← hM]; simp [bne], show (o2 == 0) = !A by rw [← hA]; simp [bne]])
    rw [hA] at HO1
    rw [hS] at HO2
    rw [hM] at HR1
    rw [hC] at HCp
    clear hA hS hM hC
    cases A
    case false =>
      cases M
      case false =>
        cases D
        case false =>
          go_wp2_with (first | (go_at_call 35; (first | (with_reducible refine (HO1.out _).mono ?_) | (with_reducible refine (HR1.out _).mono ?_)); rintro e y ⟨rfl, g⟩; replace hN := hN.trans g; clear g) | (go_at_call 34; (with_reducible refine (HO2.out _).mono ?_); rintro e y ⟨rfl, g⟩; replace hN := hN.trans g; clear g) | (go_at_call 36; (with_reducible refine (HCp.out _).mono ?_); rintro e y ⟨rfl, g⟩; replace hN := hN.trans g; clear g) | (go_at_call 65; (with_reducible refine (HPu.out _ hN).mono ?_); rintro e y ⟨pv, rfl, g, hP⟩; have HP := Lib.hid hP; clear hP; replace hN := hN.trans g; clear g))
          have HNy := Lib.hid hN
          clear hN
          go_roundw
          case rel => exact ⟨m + 1, by go_num, HMn.out, by rw [HSt'.out, if_neg (by rw [HBk.out]; simp)]; exact HG4.out.2.nw HNy.out, HG4.out.1.trans HNy.out⟩
          case measure => have := HMn.out; simp [intOf]; omega
        case true =>
          go_wp2_with (first | (go_at_call 35; (first | (with_reducible refine (HO1.out _).mono ?_) | (with_reducible refine (HR1.out _).mono ?_)); rintro e y ⟨rfl, g⟩; replace hN := hN.trans g; clear g) | (go_at_call 34; (with_reducible refine (HO2.out _).mono ?_); rintro e y ⟨rfl, g⟩; replace hN := hN.trans g; clear g) | (go_at_call 36; (with_reducible refine (HCp.out _).mono ?_); rintro e y ⟨rfl, g⟩; replace hN := hN.trans g; clear g) | (go_at_call 65; (with_reducible refine (HPu.out _ hN).mono ?_); rintro e y ⟨pv, rfl, g, hP⟩; have HP := Lib.hid hP; clear hP; replace hN := hN.trans g; clear g))
          have HNy := Lib.hid hN
          clear hN
          go_roundw
          case rel => exact ⟨m + 1, by go_num, HMn.out, by rw [HSt'.out, if_pos (by rw [HBk.out]; simp)]; exact HP.out, HG4.out.1.trans HNy.out⟩
          case measure => have := HMn.out; simp [intOf]; omega
      case true =>
        go_wp2_with (first | (go_at_call 35; (first | (with_reducible refine (HO1.out _).mono ?_) | (with_reducible refine (HR1.out _).mono ?_)); rintro e y ⟨rfl, g⟩; replace hN := hN.trans g; clear g) | (go_at_call 34; (with_reducible refine (HO2.out _).mono ?_); rintro e y ⟨rfl, g⟩; replace hN := hN.trans g; clear g) | (go_at_call 36; (with_reducible refine (HCp.out _).mono ?_); rintro e y ⟨rfl, g⟩; replace hN := hN.trans g; clear g) | (go_at_call 65; (with_reducible refine (HPu.out _ hN).mono ?_); rintro e y ⟨pv, rfl, g, hP⟩; have HP := Lib.hid hP; clear hP; replace hN := hN.trans g; clear g))
        have HNy := Lib.hid hN
        clear hN
        go_roundw
        case rel => exact ⟨m + 1, by go_num, HMn.out, by rw [HSt'.out, if_neg (by rw [HBk.out]; simp)]; exact HG4.out.2.nw HNy.out, HG4.out.1.trans HNy.out⟩
        case measure => have := HMn.out; simp [intOf]; omega
    case true =>
      cases C
      case false =>
        cases S
        case false =>
          cases M
          case false =>
            go_wp2_with (first | (go_at_call 35; (first | (with_reducible refine (HO1.out _).mono ?_) | (with_reducible refine (HR1.out _).mono ?_)); rintro e y ⟨rfl, g⟩; replace hN := hN.trans g; clear g) | (go_at_call 34; (with_reducible refine (HO2.out _).mono ?_); rintro e y ⟨rfl, g⟩; replace hN := hN.trans g; clear g) | (go_at_call 36; (with_reducible refine (HCp.out _).mono ?_); rintro e y ⟨rfl, g⟩; replace hN := hN.trans g; clear g) | (go_at_call 65; (with_reducible refine (HPu.out _ hN).mono ?_); rintro e y ⟨pv, rfl, g, hP⟩; have HP := Lib.hid hP; clear hP; replace hN := hN.trans g; clear g))
            have HNy := Lib.hid hN
            clear hN
            go_roundw
            case rel => exact ⟨m + 1, by go_num, HMn.out, by rw [HSt'.out, if_pos (by rw [HBk.out]; simp)]; exact HP.out, HG4.out.1.trans HNy.out⟩
            case measure => have := HMn.out; simp [intOf]; omega
          case true =>
            go_wp2_with (first | (go_at_call 35; (first | (with_reducible refine (HO1.out _).mono ?_) | (with_reducible refine (HR1.out _).mono ?_)); rintro e y ⟨rfl, g⟩; replace hN := hN.trans g; clear g) | (go_at_call 34; (with_reducible refine (HO2.out _).mono ?_); rintro e y ⟨rfl, g⟩; replace hN := hN.trans g; clear g) | (go_at_call 36; (with_reducible refine (HCp.out _).mono ?_); rintro e y ⟨rfl, g⟩; replace hN := hN.trans g; clear g) | (go_at_call 65; (with_reducible refine (HPu.out _ hN).mono ?_); rintro e y ⟨pv, rfl, g, hP⟩; have HP := Lib.hid hP; clear hP; replace hN := hN.trans g; clear g))
            have HNy := Lib.hid hN
            clear hN
            go_roundw
            case rel => exact ⟨m + 1, by go_num, HMn.out, by rw [HSt'.out, if_pos (by rw [HBk.out]; simp)]; exact HP.out, HG4.out.1.trans HNy.out⟩
            case measure => have := HMn.out; simp [intOf]; omega
        case true =>
          cases M
          case false =>
            go_wp2_with (first | (go_at_call 35; (first | (with_reducible refine (HO1.out _).mono ?_) | (with_reducible refine (HR1.out _).mono ?_)); rintro e y ⟨rfl, g⟩; replace hN := hN.trans g; clear g) | (go_at_call 34; (with_reducible refine (HO2.out _).mono ?_); rintro e y ⟨rfl, g⟩; replace hN := hN.trans g; clear g) | (go_at_call 36; (with_reducible refine (HCp.out _).mono ?_); rintro e y ⟨rfl, g⟩; replace hN := hN.trans g; clear g) | (go_at_call 65; (with_reducible refine (HPu.out _ hN).mono ?_); rintro e y ⟨pv, rfl, g, hP⟩; have HP := Lib.hid hP; clear hP; replace hN := hN.trans g; clear g))
            have HNy := Lib.hid hN
            clear hN
            go_roundw
            case rel => exact ⟨m + 1, by go_num, HMn.out, by rw [HSt'.out, if_pos (by rw [HBk.out]; simp)]; exact HP.out, HG4.out.1.trans HNy.out⟩
            case measure => have := HMn.out; simp [intOf]; omega
          case true =>
            cases D
            case false =>
              go_wp2_with (first | (go_at_call 35; (first | (with_reducible refine (HO1.out _).mono ?_) | (with_reducible refine (HR1.out _).mono ?_)); rintro e y ⟨rfl, g⟩; replace hN := hN.trans g; clear g) | (go_at_call 34; (with_reducible refine (HO2.out _).mono ?_); rintro e y ⟨rfl, g⟩; replace hN := hN.trans g; clear g) | (go_at_call 36; (with_reducible refine (HCp.out _).mono ?_); rintro e y ⟨rfl, g⟩; replace hN := hN.trans g; clear g) | (go_at_call 65; (with_reducible refine (HPu.out _ hN).mono ?_); rintro e y ⟨pv, rfl, g, hP⟩; have HP := Lib.hid hP; clear hP; replace hN := hN.trans g; clear g))
              have HNy := Lib.hid hN
              clear hN
              go_roundw
              case rel => exact ⟨m + 1, by go_num, HMn.out, by rw [HSt'.out, if_pos (by rw [HBk.out]; simp)]; exact HP.out, HG4.out.1.trans HNy.out⟩
              case measure => have := HMn.out; simp [intOf]; omega
            case true =>
              go_wp2_with (first | (go_at_call 35; (first | (with_reducible refine (HO1.out _).mono ?_) | (with_reducible refine (HR1.out _).mono ?_)); rintro e y ⟨rfl, g⟩; replace hN := hN.trans g; clear g) | (go_at_call 34; (with_reducible refine (HO2.out _).mono ?_); rintro e y ⟨rfl, g⟩; replace hN := hN.trans g; clear g) | (go_at_call 36; (with_reducible refine (HCp.out _).mono ?_); rintro e y ⟨rfl, g⟩; replace hN := hN.trans g; clear g) | (go_at_call 65; (with_reducible refine (HPu.out _ hN).mono ?_); rintro e y ⟨pv, rfl, g, hP⟩; have HP := Lib.hid hP; clear hP; replace hN := hN.trans g; clear g))
              have HNy := Lib.hid hN
              clear hN
              go_roundw
              case rel => exact ⟨m + 1, by go_num, HMn.out, by rw [HSt'.out, if_pos (by rw [HBk.out]; simp)]; exact HP.out, HG4.out.1.trans HNy.out⟩
              case measure => have := HMn.out; simp [intOf]; omega
      case true =>
        cases S
        case false =>
          cases M
          case false =>
            go_wp2_with (first | (go_at_call 35; (first | (with_reducible refine (HO1.out _).mono ?_) | (with_reducible refine (HR1.out _).mono ?_)); rintro e y ⟨rfl, g⟩; replace hN := hN.trans g; clear g) | (go_at_call 34; (with_reducible refine (HO2.out _).mono ?_); rintro e y ⟨rfl, g⟩; replace hN := hN.trans g; clear g) | (go_at_call 36; (with_reducible refine (HCp.out _).mono ?_); rintro e y ⟨rfl, g⟩; replace hN := hN.trans g; clear g) | (go_at_call 65; (with_reducible refine (HPu.out _ hN).mono ?_); rintro e y ⟨pv, rfl, g, hP⟩; have HP := Lib.hid hP; clear hP; replace hN := hN.trans g; clear g))
            have HNy := Lib.hid hN
            clear hN
            go_roundw
            case rel => exact ⟨m + 1, by go_num, HMn.out, by rw [HSt'.out, if_neg (by rw [HBk.out]; simp)]; exact HG4.out.2.nw HNy.out, HG4.out.1.trans HNy.out⟩
            case measure => have := HMn.out; simp [intOf]; omega
          case true =>
            go_wp2_with (first | (go_at_call 35; (first | (with_reducible refine (HO1.out _).mono ?_) | (with_reducible refine (HR1.out _).mono ?_)); rintro e y ⟨rfl, g⟩; replace hN := hN.trans g; clear g) | (go_at_call 34; (with_reducible refine (HO2.out _).mono ?_); rintro e y ⟨rfl, g⟩; replace hN := hN.trans g; clear g) | (go_at_call 36; (with_reducible refine (HCp.out _).mono ?_); rintro e y ⟨rfl, g⟩; replace hN := hN.trans g; clear g) | (go_at_call 65; (with_reducible refine (HPu.out _ hN).mono ?_); rintro e y ⟨pv, rfl, g, hP⟩; have HP := Lib.hid hP; clear hP; replace hN := hN.trans g; clear g))
            have HNy := Lib.hid hN
            clear hN
            go_roundw
            case rel => exact ⟨m + 1, by go_num, HMn.out, by rw [HSt'.out, if_neg (by rw [HBk.out]; simp)]; exact HG4.out.2.nw HNy.out, HG4.out.1.trans HNy.out⟩
            case measure => have := HMn.out; simp [intOf]; omega
        case true =>
          cases M
          case false =>
            go_wp2_with (first | (go_at_call 35; (first | (with_reducible refine (HO1.out _).mono ?_) | (with_reducible refine (HR1.out _).mono ?_)); rintro e y ⟨rfl, g⟩; replace hN := hN.trans g; clear g) | (go_at_call 34; (with_reducible refine (HO2.out _).mono ?_); rintro e y ⟨rfl, g⟩; replace hN := hN.trans g; clear g) | (go_at_call 36; (with_reducible refine (HCp.out _).mono ?_); rintro e y ⟨rfl, g⟩; replace hN := hN.trans g; clear g) | (go_at_call 65; (with_reducible refine (HPu.out _ hN).mono ?_); rintro e y ⟨pv, rfl, g, hP⟩; have HP := Lib.hid hP; clear hP; replace hN := hN.trans g; clear g))
            have HNy := Lib.hid hN
            clear hN
            go_roundw
            case rel => exact ⟨m + 1, by go_num, HMn.out, by rw [HSt'.out, if_pos (by rw [HBk.out]; simp)]; exact HP.out, HG4.out.1.trans HNy.out⟩
            case measure => have := HMn.out; simp [intOf]; omega
          case true =>
            cases D
            case false =>
              go_wp2_with (first | (go_at_call 35; (first | (with_reducible refine (HO1.out _).mono ?_) | (with_reducible refine (HR1.out _).mono ?_)); rintro e y ⟨rfl, g⟩; replace hN := hN.trans g; clear g) | (go_at_call 34; (with_reducible refine (HO2.out _).mono ?_); rintro e y ⟨rfl, g⟩; replace hN := hN.trans g; clear g) | (go_at_call 36; (with_reducible refine (HCp.out _).mono ?_); rintro e y ⟨rfl, g⟩; replace hN := hN.trans g; clear g) | (go_at_call 65; (with_reducible refine (HPu.out _ hN).mono ?_); rintro e y ⟨pv, rfl, g, hP⟩; have HP := Lib.hid hP; clear hP; replace hN := hN.trans g; clear g))
              have HNy := Lib.hid hN
              clear hN
              go_roundw
              case rel => exact ⟨m + 1, by go_num, HMn.out, by rw [HSt'.out, if_neg (by rw [HBk.out]; simp)]; exact HG4.out.2.nw HNy.out, HG4.out.1.trans HNy.out⟩
              case measure => have := HMn.out; simp [intOf]; omega
            case true =>
              go_wp2_with (first | (go_at_call 35; (first | (with_reducible refine (HO1.out _).mono ?_) | (with_reducible refine (HR1.out _).mono ?_)); rintro e y ⟨rfl, g⟩; replace hN := hN.trans g; clear g) | (go_at_call 34; (with_reducible refine (HO2.out _).mono ?_); rintro e y ⟨rfl, g⟩; replace hN := hN.trans g; clear g) | (go_at_call 36; (with_reducible refine (HCp.out _).mono ?_); rintro e y ⟨rfl, g⟩; replace hN := hN.trans g; clear g) | (go_at_call 65; (with_reducible refine (HPu.out _ hN).mono ?_); rintro e y ⟨pv, rfl, g, hP⟩; have HP := Lib.hid hP; clear hP; replace hN := hN.trans g; clear g))
              have HNy := Lib.hid hN
              clear hN
              go_roundw
              case rel => exact ⟨m + 1, by go_num, HMn.out, by rw [HSt'.out, if_pos (by rw [HBk.out]; simp)]; exact HP.out, HG4.out.1.trans HNy.out⟩
              case measure => have := HMn.out; simp [intOf]; omega
end Go.Proofs.YtmciiobncfchlaaGreat
end

/- The developers' package queue: Abandon, Hand. -/
section
namespace Go.Proofs.YtmciiobncfchlaaGreat
open Go.RowKit
set_option linter.unusedVariables false      -- a contract need not use every name

set_option maxRecDepth 100000 in
set_option maxHeartbeats 4000000 in
theorem dAbandon (t r W id : Int) (v : Value) (q : List Rq) (w : World) (hl : q.length ≤ 1000) (hok : Ok W q) (h : RqAt w v q) :
    Calls Tryz.prog 17 #[hdV t r v W, .int .i64 id] w (HD1 (abRes ⟨t, r, W, q⟩ id) w) := by
  have HOk := Lib.hid hok
  clear hok
  obtain ⟨X, hX⟩ : ∃ X, abRes ⟨t, r, W, q⟩ id = X := ⟨_, rfl⟩
  rw [hX]
  unfold HD1
  have HCl := Lib.hid (fun (w1 : World) (g : Nw w w1) => dClone v q w1 hl (h.nw g))
  have HWo := Lib.hid (fun (w1 : World) (g : Nw w w1) => dWithout t r W id v q w1 hl (h.nw g))
  unfold hdV at HWo
  obtain ⟨px, hpx⟩ : ∃ px, plc (fun R => R.id == id) q = px := ⟨_, rfl⟩
  have hFi := fun (w1 : World) (g : Nw w w1) (f : Value) (hf : Tells w1 f (fun R => R.id == id)) => dFind t r W v f _ q w1 hl (h.nw g) hf
  rw [hpx] at hFi
  have HAt := Lib.hid h
  obtain ⟨a, c, rfl, _⟩ := h
  unfold hdV at hFi ⊢
  have HFi := Lib.hid hFi
  clear hFi
  have HWi := Lib.hid (dWithID id)
  obtain ⟨hx1, hx2, hx3, hx4⟩ := two_boxes w (.cells #[.int .i64 t, .int .i64 r, .slice a q.length c, .int .i64 W] 26) (.cells #[.int .i64 0, .int .i64 0, .slice none 0 0, .int .i64 0] 26)
  obtain ⟨w1, hw1⟩ : ∃ w1, (w.alloc (.cells #[.int .i64 t, .int .i64 r, .slice a q.length c, .int .i64 W] 26)).alloc (.cells #[.int .i64 0, .int .i64 0, .slice none 0 0, .int .i64 0] 26) = w1 := ⟨_, rfl⟩
  rw [hw1] at hx1 hx2 hx3
  have HB1 := Lib.hid (And.intro (And.intro hx1 hx2) hx3)
  have s0 : ∀ z, Nw w1 z → z.cell? ⟨w.heap.size, 0, none⟩ = some (.int .i64 t) := fun z hz => hz.kp (hcell (j := 0) hx1)
  have s1 : ∀ z, Nw w1 z → z.cell? ⟨w.heap.size, 1, none⟩ = some (.int .i64 r) := fun z hz => hz.kp (hcell (j := 1) hx1)
  have s2 : ∀ z, Nw w1 z → z.cell? ⟨w.heap.size, 2, none⟩ = some (.slice a q.length c) := fun z hz => hz.kp (hcell (j := 2) hx1)
  have s3 : ∀ z, Nw w1 z → z.cell? ⟨w.heap.size, 3, none⟩ = some (.int .i64 W) := fun z hz => hz.kp (hcell (j := 3) hx1)
  clear hx1 hx2 hx3 hx4
  have HW1 := Lib.hid hw1
  clear hw1
  have q1 := (Nw.refl w1).drew1
  obtain ⟨wc, hwc⟩ : ∃ wc, w1.drew = wc := ⟨_, rfl⟩
  go_enter Tryz.func17, Tryz.ntmps17
  go_wp2
  rw [HW1.out]
  refine region_told [some true, some true, some false, none, some false, none, some true] (Nw w1) (by kernel_rfl) (by kernel_rfl) (by kernel_rfl) q1 ?_
  rw [hwc] at q1 ⊢
  clear hwc
  repeat (first
    | (refine HW.off ?_)
    | (refine HW.take' ?_; (first | (refine ⟨undef, Or.inr ⟨by rfl, rfl⟩, ?_⟩) | (apply Exists.intro; refine ⟨Or.inl ⟨by rfl, ?_⟩, ?_⟩; (intro x hx; go_simp; first | done | with_reducible rfl))); (try simp only [Act.put, List.setIfInBounds_toArray, List.set_cons_zero, List.set_cons_succ]))
    | (refine HW.go (fun K hK => ?_); go_simp; (first
      | (go_at_call 40; (with_reducible refine (HWi.out _).mono ?_); rintro e wy ⟨pa, rfl, g2, hbx⟩; refine hK.out _ _ (q1.trans g2) ?_; intro _; replace q1 := q1.trans g2; clear hK K g2; replace hbx := Tells.withID hbx)
      | (go_at_call 39; (with_reducible refine (HFi.out _ (HB1.out.2.trans q1) _ hbx).mono ?_); rintro e wy ⟨rfl, g2⟩; refine hK.out _ _ (q1.trans g2) ?_; intro _; replace q1 := q1.trans g2; clear hK K g2 hbx)
      | (refine hK.out _ _ q1 ?_; intro _; clear hK K))))
  refine HW.end_ ?_
  refine NoPanic.normal ?_
  have HN := Lib.hid (HB1.out.2.trans q1)
  have hp1 := q1.at' HB1.out.1.1
  have hq1 := q1.at' HB1.out.1.2
  have c0 := hcell (j := 0) hp1
  have c1 := hcell (j := 1) hp1
  have c2 := hcell (j := 2) hp1
  have c3 := hcell (j := 3) hp1
  have hpl := hlt hp1
  rcases at_plc q id with ⟨e1, hf⟩ | ⟨k, e1, hk, hf⟩
  · obtain rfl := hpx.symm.trans e1
    have hR := hX.symm.trans (show abRes ⟨t, r, W, q⟩ id = (noH, 5) by unfold abRes; rw [hf])
    subst hR
    have d0 := hcell (j := 0) hq1
    have d1 := hcell (j := 1) hq1
    have d2 := hcell (j := 2) hq1
    have d3 := hcell (j := 3) hq1
    have fz := fun k => hfz (j := k) hq1
    have hsl2 := hlt hq1
    clear hpx hX e1 hf s0 s1 s2 s3 HB1 HFi HWi HAt HW1 q1 hp1 hq1 HWo HCl
    go_wp2
    exact bodyPost_ret (v := .tuple #[.agg #[.int .i64 0, .int .i64 0, .slice none 0 0, .int .i64 0], .int .i64 5]) (by simp only [results, Tryz.results17]; simp [go_sem, *]) rfl ⟨_, rfl, fill_nw HN.out (Nat.le_succ _) _ _ _ _, Rd.nil _, Nat.le_refl _, Fresh.nil _ _⟩
  · obtain rfl := hpx.symm.trans e1
    have dk : ((k : Int) == -1) = false := by simp
    have hX1 : ¬ 0 < q[k].sn → X = (noH, 7) := fun s => hX.symm.trans (by unfold abRes; rw [hf]; exact if_neg s)
    have hX2 : 0 < q[k].sn → q[k].md = 0 → X = (⟨t, r, W, lvQ id q⟩, 0) := fun s m => hX.symm.trans (by unfold abRes; rw [hf]; simp only [if_pos s]; unfold abQ; rw [if_pos m, (fnd_is hf).2])
    have hX3 : 0 < q[k].sn → q[k].md ≠ 0 → X = (⟨t, r, W, q.set k ⟨q[k].id, q[k].txn, q[k].md, q[k].md, 0⟩⟩, 0) := fun s m => hX.symm.trans (by unfold abRes; rw [hf]; simp only [if_pos s]; rw [ab_at HOk.out hk m]; rfl)
    rcases HAt.out with ⟨a', c', e3, ⟨e4, _⟩ | ⟨b, o, e4, hc⟩⟩
    · subst e4; simp at hk
    simp only [Value.slice.injEq, true_and] at e3
    obtain ⟨rfl, rfl⟩ := e3
    subst e4
    have hki : (k : Int) < (q.length : Int) := by omega
    have hce := (hc.nw HN.out).cell k hk
    have HCe := Lib.hid (fun (z : World) (g : Nw w z) => (hc.nw g).cell k hk)
    have HWa := Lib.hid (fun z => dWaits q[k] z)
    have HHo := Lib.hid (fun z => dHolds q[k] z)
    have HRow := Lib.hid (fun (z : World) (g0 g cap : Nat) (j : Nat) (hj : j < 5) (u : Value) (new : Rq) (e : (rqrow q[k]).set j u = rqrow new) (h : RqOwn z g0 (.slice (some ⟨g, 0, none⟩) q.length cap) q) => own_upd h rfl k hk j hj u new e)
    have HRow2 := Lib.hid (fun (z : World) (g0 g cap : Nat) (X : Rq) (j : Nat) (hj : j < 5) (u : Value) (new : Rq) (e : (rqrow X).set j u = rqrow new) (h : RqOwn z g0 (.slice (some ⟨g, 0, none⟩) q.length cap) (q.set k X)) => own_upd h (by rw [List.length_set]) k (by rw [List.length_set]; exact hk) j hj u new (by rw [List.getElem_set_self]; exact e))
    simp only [List.set_set] at HRow2
    have HCo := Lib.hid (fun (z : World) (g0 g cap : Nat) (h : RqOwn z g0 (.slice (some ⟨g, 0, none⟩) q.length cap) q) => own_cell h rfl k hk)
    clear hpx hX e1 hf s0 s1 s2 s3 HB1 HFi HWi HW1 q1 hc HOk
    generalize q[k] = R at *
    obtain ⟨b0, b1, b2, b3, b4⟩ := R
    unfold rqV at HWa HHo
    have m0 := hce 0 _ rfl
    have m1 := hce 1 _ rfl
    have m2 := hce 2 _ rfl
    have m3 := hce 3 _ rfl
    have m4 := hce 4 _ rfl
    simp only [Nat.add_zero] at m0
    clear hce
    have HX1 := Lib.hid hX1
    have HX2 := Lib.hid hX2
    have HX3 := Lib.hid hX3
    clear hX1 hX2 hX3
    go_wp2_with fail
    go_at_call 51
    refine (HWa.out _).mono ?_
    rintro e w2 ⟨rfl, g2⟩
    have hp2 := g2.at' hp1
    have hq2 := g2.at' hq1
    have HN2 := Lib.hid (HN.out.trans g2)
    clear c0 c1 c2 c3 hpl
    have c0 := hcell (j := 0) hp2
    have c1 := hcell (j := 1) hp2
    have c2 := hcell (j := 2) hp2
    have c3 := hcell (j := 3) hp2
    have hpl := hlt hp2
    clear m0 m1 m2 m3 m4
    have hce := HCe.out _ HN2.out
    have m0 := hce 0 _ rfl
    have m1 := hce 1 _ rfl
    have m2 := hce 2 _ rfl
    have m3 := hce 3 _ rfl
    have m4 := hce 4 _ rfl
    simp only [Nat.add_zero] at m0
    clear hce
    clear g2 HWa hp1 hq1
    by_cases hs : 0 < b4
    rotate_left
    · have ds : decide (0 < b4) = false := by simpa using hs
      have hR := HX1.out (by first | exact hs | exact Int.not_lt.1 hs)
      subst hR
      have d0 := hcell (j := 0) hq2
      have d1 := hcell (j := 1) hq2
      have d2 := hcell (j := 2) hq2
      have d3 := hcell (j := 3) hq2
      have fz := fun k => hfz (j := k) hq2
      have hsl2 := hlt hq2
      clear hs HX1 HX2 HX3 HCe HHo HRow HRow2 HCo HCl HWo HAt HN hp2 hq2
      go_wp2
      exact bodyPost_ret (v := .tuple #[.agg #[.int .i64 0, .int .i64 0, .slice none 0 0, .int .i64 0], .int .i64 7]) (by simp only [results, Tryz.results17]; simp [go_sem, *]) rfl ⟨_, rfl, fill_nw HN2.out (Nat.le_succ _) _ _ _ _, Rd.nil _, Nat.le_refl _, Fresh.nil _ _⟩
    have ds : decide (0 < b4) = true := by simpa using hs
    go_wp2_with fail
    go_at_call 57
    refine (HHo.out _).mono ?_
    rintro e w3 ⟨rfl, g3⟩
    have hp3 := g3.at' hp2
    have hq3 := g3.at' hq2
    have HN3 := Lib.hid (HN2.out.trans g3)
    clear c0 c1 c2 c3 hpl
    have c0 := hcell (j := 0) hp3
    have c1 := hcell (j := 1) hp3
    have c2 := hcell (j := 2) hp3
    have c3 := hcell (j := 3) hp3
    have hpl := hlt hp3
    clear m0 m1 m2 m3 m4
    have hce := HCe.out _ HN3.out
    have m0 := hce 0 _ rfl
    have m1 := hce 1 _ rfl
    have m2 := hce 2 _ rfl
    have m3 := hce 3 _ rfl
    have m4 := hce 4 _ rfl
    simp only [Nat.add_zero] at m0
    clear hce
    clear g3 HHo hp2 hq2
    by_cases hm : b2 = 0
    · have dm : (b2 != 0) = false := by simpa using hm
      have hR := HX2.out hs hm
      subst hR
      rw [dm]
      have HQ := Lib.hid hq3
      have HWo2 := Lib.hid (HWo.out _ HN3.out)
      clear dm hs hm ds HX1 HX2 HX3 HCe HRow HRow2 HCo HCl HWo HAt hp3 hq3
      go_wp2_with fail
      go_at_call 55
      refine HWo2.out.mono ?_
      rintro e w4 ⟨v2, rfl, g4, hR, hcap, hfr⟩
      have hs := Lib.hid (hlt HQ.out)
      have hq4 := g4.at' HQ.out
      have HR := Lib.hid (And.intro hR (And.intro hcap hfr))
      have HN4 := Lib.hid (HN3.out.trans g4)
      obtain ⟨a2, k2, hv2⟩ := hR.form
      obtain ⟨n2, hn2⟩ : ∃ n, (lvQ id q).length = n := ⟨_, rfl⟩
      rw [hn2] at hv2
      subst hv2
      have d0 := hcell (j := 0) hq4
      have d1 := hcell (j := 1) hq4
      have d2 := hcell (j := 2) hq4
      have d3 := hcell (j := 3) hq4
      have fz := fun k => hfz (j := k) hq4
      have hsl2 := hlt hq4
      clear hq4 hR hcap hfr g4 hn2 HQ HWo2 HN HN2 c0 c1 c2 c3 hpl m0 m1 m2 m3 m4
      go_wp2
      exact bodyPost_ret (v := .tuple #[.agg #[.int .i64 t, .int .i64 r, .slice a2 n2 k2, .int .i64 W], .int .i64 0]) (by simp only [results, Tryz.results17]; simp [go_sem, *]) rfl ⟨_, rfl, fill_nw HN4.out (Nat.le_succ _) _ _ _ _, rd_fill HR.out.1 HR.out.2.2 hs.out _ _ _ _, HR.out.2.1, HR.out.2.2.old HN3.out⟩
    · have dm : (b2 != 0) = true := by simpa using hm
      have hR := HX3.out hs hm
      subst hR
      rw [dm]
      have HQ := Lib.hid (And.intro hp3 hq3)
      have HCl2 := Lib.hid (HCl.out _ HN3.out)
      clear dm hs hm ds HX1 HX2 HX3 HCe HCl HWo HAt hp3 hq3
      go_wp2_with fail
      go_at_call 58
      refine HCl2.out.mono ?_
      rintro e w4 ⟨v4, rfl, g4, hO⟩
      obtain ⟨g, cap, rfl, hg0, hgl, _⟩ := RqOwn.at hO hk
      have hne : ¬ g = w.heap.size := by have := hlt HQ.out.1; omega
      have hne' : ¬ w.heap.size = g := fun e => hne e.symm
      have hn2 : ¬ g = w.heap.size + 1 := by have := hlt HQ.out.2; omega
      have hn2' : ¬ w.heap.size + 1 = g := fun e => hn2 e.symm
      have hp4 := g4.at' HQ.out.1
      have hq4 := g4.at' HQ.out.2
      have HB := Lib.hid (And.intro (hlt HQ.out.1) (hlt HQ.out.2))
      have hO1 := own_st hO (p := ⟨w.heap.size, 2, none⟩) (by exact HB.out.1) (.slice (some ⟨g, 0, none⟩) q.length cap)
      have hO2 := HRow.out _ _ _ _ 3 (by decide) (.int .i64 b2) ⟨b0, b1, b2, b2, b4⟩ rfl hO1
      have hO3 := HRow2.out _ _ _ _ ⟨b0, b1, b2, b2, b4⟩ 4 (by decide) (.int .i64 0) ⟨b0, b1, b2, b2, 0⟩ rfl hO2
      have hO4 := fill_own hO3 (rb := w.heap.size + 1) HB.out.2 (.int .i64 t) (.int .i64 r) (.slice (some ⟨g, 0, none⟩) q.length cap) (.int .i64 W)
      have HO4 := Lib.hid hO4
      have HN4 := Lib.hid (HN3.out.trans g4)
      have HG := Lib.hid (And.intro hg0 HN3.out.sz)
      have hoc := HCo.out _ _ _ _ hO
      clear c0 c1 c2 c3 hpl m0 m1 m2 m3 m4
      have c0 := hcell (j := 0) hp4
      have c1 := hcell (j := 1) hp4
      have c2 := hcell (j := 2) hp4
      have c3 := hcell (j := 3) hp4
      have hpl := hlt hp4
      have fp := fun k => hfz (j := k) hp4
      have fg := fun k => own_frz hO rfl k
      have m2 := hoc 2 _ rfl
      have m3 := hoc 3 _ rfl
      have m4 := hoc 4 _ rfl
      have d0 := hcell (j := 0) hq4
      have d1 := hcell (j := 1) hq4
      have d2 := hcell (j := 2) hq4
      have d3 := hcell (j := 3) hq4
      have fz := fun k => hfz (j := k) hq4
      have hsl2 := hlt hq4
      clear hq4 hp4 hO hO1 hO2 hO3 hO4 hoc g4 HCl2 HN HN2 HRow HRow2 HCo hg0
      go_wp2
      exact bodyPost_ret (v := .tuple #[.agg #[.int .i64 t, .int .i64 r, .slice (some ⟨g, 0, none⟩) q.length cap, .int .i64 W], .int .i64 0]) (by simp only [results, Tryz.results17]; simp [go_sem, *]) rfl ⟨_, rfl, fill_nw (((HN4.out.st (Nat.le_refl _) _).st (by show w.heap.size ≤ g; have := HG.out; omega) _).st (by show w.heap.size ≤ g; have := HG.out; omega) _) (Nat.le_succ _) _ _ _ _, RqOwn.rd HO4.out, HO4.out.cap, HO4.out.fresh HG.out.2⟩
end Go.Proofs.YtmciiobncfchlaaGreat
end
