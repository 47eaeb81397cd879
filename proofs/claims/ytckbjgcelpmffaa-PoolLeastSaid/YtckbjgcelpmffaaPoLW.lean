
/- PoolLeast: the walk. -/
import Derived.Test.YtckbjgcelpmffaaPoT
namespace Go.Proofs.Ytckbjgcelpmffaa.poolLeast
open Go.RowKit
set_option linter.unusedVariables false

/-- The pool, and the law's own row of truths beside it. -/
structure PM (w W : World) (p : Nat) (L : List Bool) (F : Nat → Prop) (h : Nat) (M : List Bool) : Prop where
  a : PAcc w W p L F
  hb : w.heap.size ≤ h
  hl : h < W.heap.size
  hF : ¬ F h
  hc : ∀ i, i < M.length → W.cell? ⟨h, i, none⟩ = some (.bool (M.getD i false)) ∧ W.frozen? ⟨h, i, none⟩ = false
theorem PM.to {w W W' : World} {p h : Nat} {L L' M : List Bool} {F : Nat → Prop} (q : PM w W p L F h M) {F' : Nat → Prop} (k : PAcc w W' p L' F') (hF : ∀ k, F' k → F k ∨ W.heap.size ≤ k) (t : Tch F W W') : PM w W' p L' F' h M :=
  ⟨k, q.hb, Nat.lt_of_lt_of_le q.hl t.size, fun e => (hF h e).elim q.hF (fun r => by have := q.hl; omega), fun i hi => ⟨(t.cell q.hl q.hF).trans (q.hc i hi).1, (t.froz q.hl q.hF).trans (q.hc i hi).2⟩⟩
theorem PM.put {w W : World} {p h : Nat} {L M : List Bool} {F : Nat → Prop} (q : PM w W p L F h M) {i : Nat} (b : Bool) (hi : i < M.length) : PM w (W.setCell ⟨h, i, none⟩ (.bool b)) p L F h (M.set i b) := by
  have t := setCell_at W ⟨h, i, none⟩ (.bool b)
  refine ⟨⟨q.a.po.tch t (fun k e r => q.hF (by simp at r; rw [← r]; exact e)), q.a.new, nw_tch q.a.nw t (fun i e => by simp at e; rw [e]; exact q.hb)⟩, q.hb, by simpa using q.hl, q.hF, fun j hj => ?_⟩
  rw [List.length_set] at hj
  refine ⟨?_, by rw [World.frozen?_setCell]; exact (q.hc j hj).2⟩
  by_cases e : i = j
  · subst e
    rw [getD_at (by simpa using hj), List.getElem_set_self]
    exact World.cell?_setCell_same _ _ _ (q.hc _ hj).1
  · rw [getD_at (by simpa using hj), List.getElem_set_ne e, ← getD_at hj]
    exact (World.cell?_setCell_other _ _ _ _ (fun r => e (congrArg Addr.off r))).trans (q.hc j hj).1
def Keeps (w W : World) (p h N K : Nat) : Prop := ∃ F L, PM w W p L F h L ∧ L.length = N ∧ liv L = K
theorem liv_take_up {L : List Bool} (h : fre L < L.length) : liv (tkL L) = liv L + 1 := by
  have a := liv_set L (fre L) h true
  rw [fre_free L h] at a
  simp at a
  unfold tkL
  rw [if_pos h]
  omega
set_option maxRecDepth 100000 in
set_option maxHeartbeats 8000000 in
theorem walk (m : Int) (a1 : Option Addr) (len1 cap1 : Nat) (z1 : List Int) (w : World) (w1 : IsNum w a1 len1 cap1 z1) (h0 : len1 ≤ 80) :
    Calls Try.prog 5 #[.int .i64 m, .slice a1 len1 cap1] w fun e w' => e = .returned (.bool true) ∧ Nw w w' := by
  have k0 : ¬ (80 : Int) < (len1 : Int) := by omega
  have R0 := Lib.hid w1
  clear w1
  go_enter Try.func5, Try.ntmps5
  go_wp2_with fail
  refine (lives_ok _).mono ?_
  rintro e wl ⟨rfl, g0⟩
  have G0 := Lib.hid g0
  clear g0
  go_wp2_with fail
  refine (pick_any m 40 _ (by omega) (by omega)).mono ?_
  rintro e wq ⟨rfl, rfl⟩
  obtain ⟨N, hN, hNb⟩ := mod_in m 40 (by omega)
  have hN'' : m % 40 = (N : Int) := hN
  rw [hN'']
  clear hN hN''
  go_wp2_with fail
  refine (pacc_new w wl G0.out N N rfl (by omega)).mono ?_
  rintro e wa ⟨p, Fa, rfl, ha, _, _⟩
  have HA := Lib.hid ha
  have km := fun w => mk_bools w N (by omega)
  clear ha k0 G0
  go_wp2
  clear km
  have H0 := Lib.hid (show Keeps w (wa.alloc (.cells (Array.replicate N (.bool false)) 4)) p wa.heap.size N 0 from
    ⟨_, _, ⟨HA.out.step ((Nw.refl _).alloc _), HA.out.nw.sz, by simp, fun e => by have := HA.out.po.own _ e; omega, fun i hi => by
      rw [List.length_replicate] at hi
      have e : (List.replicate N false).getD i false = false := by simp [List.getD, hi]
      rw [e]
      constructor <;> simp [go_sem, hi]⟩, by simp, by simp [liv]⟩)
  obtain ⟨h, hh⟩ : ∃ h, wa.heap.size = h := ⟨_, rfl⟩
  obtain ⟨wb, hwb⟩ : ∃ wb, wa.alloc (.cells (Array.replicate N (.bool false)) 4) = wb := ⟨_, rfl⟩
  rw [hh, hwb] at H0
  rw [hh, hwb]
  clear hh hwb HA
  go_loopw [8, 9, 10] (fun vl vp vi wr => ∃ k K P : Nat, vi = .int .i64 k ∧ k ≤ len1 ∧ vl = .int .i64 K ∧ vp = .int .i64 P ∧ K ≤ P ∧ P ≤ N ∧ Hid (Keeps w wr p h N K)) (fun _ _ vi _ => len1 - (intOf vi).toNat)
  case atStart => exact ⟨0, 0, 0, rfl, Nat.zero_le _, rfl, rfl, Nat.le_refl _, Nat.zero_le _, H0⟩
  case round =>
    clear H0
    obtain ⟨k, K, P, rfl, hk, rfl, rfl, hKP, hPN, HK⟩ := hrel
    obtain ⟨F, L, hP, hL, hLK⟩ := HK.out
    generalize wr = w4 at *
    by_cases hlt : k < len1
    · obtain ⟨b, ob, rfl, hml, hbl, hcs, hwf⟩ := R0.out.at (by omega)
      have hki : (k : Int) < (len1 : Int) := by omega
      have c0 := (hP.a.nw.cell hbl).trans (hcs k hlt)
      have H := Lib.hid hP
      have HL := Lib.hid (And.intro hL hLK)
      clear hcs hwf hP HK
      generalize z1.getD k 0 = x at *
      by_cases hx : x < 0
      · by_cases hf : fre L < L.length
        · have hfl := fre_liv L
          have hKlt : K < N := by
            have := liv_full (L := L)
            have := liv_le L
            omega
          have hKN : ((K : Int) == (N : Int)) = false := by simp; omega
          have HX := Lib.hid hf
          have HT := Lib.hid (show tkR L = ((fre L : Int), 0) from if_pos hf)
          obtain ⟨n, hn⟩ : ∃ n, fre L = n := ⟨_, rfl⟩
          have HN := Lib.hid hn
          rw [hn] at hfl HT
          have hnK : n ≤ K := by omega
          clear hf hn hL hLK hfl
          go_wp2_with fail
          refine (pacc_take H.out.a n 0 _ HT.out rfl).mono ?_
          rintro e w5 ⟨rfl, F5, p5, f5, t5⟩
          have H5 := Lib.hid (H.out.to p5 f5 t5)
          have hlen : n < L.length := by rw [← HN.out]; exact HX.out
          have hLN := HL.out.1
          have c1 := (H5.out.hc n hlen).1
          have f1 := (H5.out.hc n hlen).2
          rw [getD_at hlen, show L[n] = false from by have := fre_free L HX.out; simp only [HN.out] at this; exact this] at c1
          have hnN : (n : Int) < (N : Int) := by omega
          have hz := H5.out.hl
          have HB := Lib.hid (show ∀ j, j < n → w5.cell? ⟨h, j, none⟩ = some (.bool true) from fun j hj => by
            have := (H5.out.hc j (by omega)).1
            rwa [getD_at (show j < L.length by omega), fre_below L j (by omega) (by rw [HN.out]; exact hj)] at this)
          have HK5 := Lib.hid (show Keeps w (w5.setCell ⟨h, n, none⟩ (.bool true)) p h N (K + 1) from
            ⟨F5, tkL L, by
              have q := H5.out.put (i := n) true hlen
              have e : tkL L = L.set n true := by unfold tkL; rw [if_pos HX.out, HN.out]
              rw [← e] at q
              exact q, by rw [tkL_len]; exact HL.out.1, by rw [liv_take_up HX.out, HL.out.2]⟩)
          clear p5 f5 t5 H HX HT HL hlen hLN
          have hwK : IntKind.i64.wrap ((K : Int) + 1) = (K : Int) + 1 := by rw [IntKind.wrap_i64] <;> omega
          go_wp2
          all_goals
            go_loopw [13] (fun vk wr => ∃ j : Nat, vk = .int .i64 j ∧ j ≤ n ∧ w5 = wr) (fun vk _ => n - (intOf vk).toNat)
            case atStart => exact ⟨0, rfl, Nat.zero_le _, rfl⟩
            case round =>
              obtain ⟨j, rfl, hj, rfl⟩ := hrel
              by_cases hjn : j < n
              · have cj := HB.out j hjn
                have hjni : (j : Int) < (n : Int) := by omega
                have hjN : (j : Int) < (N : Int) := by omega
                go_wp2
                go_roundw
                case rel => exact ⟨j + 1, by go_num, by omega, trivial⟩
                case measure => simp [intOf]; omega
              · obtain rfl : j = n := by omega
                go_wp2
                go_roundw
                case rel =>
                  first
                    | exact ⟨k + 1, K + 1, P, by go_num, by omega, by go_num, rfl, by omega, by omega, HK5⟩
                    | exact ⟨k + 1, K + 1, K + 1, by go_num, by omega, by go_num, by go_num, by omega, by omega, HK5⟩
                case measure => simp [intOf]; omega
        · have hKN : K = N := by
            have := liv_full (L := L)
            have := fre_le L
            omega
          subst hKN
          have HF := Lib.hid hf
          clear hf hL hLK
          go_wp2_with fail
          refine (pacc_full H.out.a HF.out).mono ?_
          rintro e w5 ⟨rfl, rfl⟩
          clear HF
          go_wp2
          go_roundw
          case rel => exact ⟨k + 1, K, P, by go_num, by omega, rfl, rfl, hKP, hPN, Lib.hid ⟨_, _, H.out, HL.out.1, HL.out.2⟩⟩
          case measure => simp [intOf]; omega
      · cases hb : hsL L x with
        | true =>
          obtain ⟨j, rfl, hj, hjt⟩ := hsL_at hb
          have HG := Lib.hid (And.intro (show gvR L (j : Int) = 0 by simp [gvR, hb]) (gvL_nat L j (by rw [getD_at hj]; exact hjt)))
          have hv := liv_set L j hj false
          rw [hjt] at hv
          simp only [if_true, Bool.false_eq_true, if_false] at hv
          have HV := Lib.hid (And.intro hv (And.intro hj hjt))
          have hK1 : 1 ≤ K := by omega
          have hjN : (j : Int) < (N : Int) := by omega
          clear hb hv hL hLK
          go_wp2_with fail
          refine (pacc_give H.out.a j 0 _ HG.out.1 HG.out.2).mono ?_
          rintro e w5 ⟨rfl, F5, p5, f5, t5⟩
          have H5 := Lib.hid (H.out.to p5 f5 t5)
          have c0' := (H5.out.a.nw.cell hbl).trans ((H.out.a.nw.cell hbl).symm.trans c0)
          have c1 := (H5.out.hc j HV.out.2.1).1
          have f1 := (H5.out.hc j HV.out.2.1).2
          rw [getD_at HV.out.2.1, HV.out.2.2] at c1
          have hz := H5.out.hl
          have HK5 := Lib.hid (show Keeps w (w5.setCell ⟨h, j, none⟩ (.bool false)) p h N (K - 1) from
            ⟨F5, L.set j false, H5.out.put (i := j) false HV.out.2.1, by rw [List.length_set]; exact HL.out.1, by have := HV.out.1; have := HL.out.2; omega⟩)
          have hwK : IntKind.i64.wrap ((K : Int) - 1) = ((K - 1 : Nat) : Int) := by rw [IntKind.wrap_i64] <;> omega
          clear p5 f5 t5 H HG HV HL hj hjt H5
          go_wp2
          go_roundw
          case rel => exact ⟨k + 1, K - 1, P, by go_num, by omega, by go_num, rfl, by omega, hPN, HK5⟩
          case measure => simp [intOf]; omega
        | false =>
          have HG := Lib.hid (And.intro (show gvR L x = 5 by simp [gvR, hb]) (gvL_bad hb))
          have HX := Lib.hid hb
          clear hb hL hLK
          go_wp2_with fail
          refine (pacc_give H.out.a x 5 _ HG.out.1 HG.out.2).mono ?_
          rintro e w5 ⟨rfl, F5, p5, f5, t5⟩
          have H5 := Lib.hid (H.out.to p5 f5 t5)
          have c0' := (H5.out.a.nw.cell hbl).trans ((H.out.a.nw.cell hbl).symm.trans c0)
          have hz := H5.out.hl
          have HK5 := Lib.hid (show Keeps w w5 p h N K from ⟨F5, L, H5.out, HL.out.1, HL.out.2⟩)
          by_cases hxN : x < (N : Int)
          · obtain ⟨j, rfl⟩ := Int.eq_ofNat_of_zero_le (show 0 ≤ x by omega)
            have hjL : j < L.length := by rw [HL.out.1]; omega
            have c1 := (H5.out.hc j hjL).1
            have e1 := HX.out
            rw [hsL_nat hjL] at e1
            rw [getD_at hjL, e1] at c1
            clear p5 f5 t5 H HG HX HL H5 hjL e1
            go_wp2
            go_roundw
            case rel => exact ⟨k + 1, K, P, by go_num, by omega, rfl, rfl, hKP, hPN, HK5⟩
            case measure => simp [intOf]; omega
          · clear p5 f5 t5 H HG HX HL H5
            go_wp2
            go_roundw
            case rel => exact ⟨k + 1, K, P, by go_num, by omega, rfl, rfl, hKP, hPN, HK5⟩
            case measure => simp [intOf]; omega
    · obtain rfl : k = len1 := by omega
      have H := Lib.hid hP.a
      have HL := Lib.hid hLK
      clear hP HK hL hLK
      go_wp2_with fail
      refine (pacc_live H.out K HL.out).mono ?_
      rintro e w5 ⟨rfl, g5⟩
      have G5 := Lib.hid (H.out.nw.trans g5)
      clear g5 H
      go_wp2
      go_ret
      exact ⟨rfl, G5.out⟩

set_option maxRecDepth 100000 in
theorem law_any (m : Int) (a1 : Option Addr) (len1 cap1 : Nat) (z1 : List Int) (w : World) (wn : (Lit.int .i64 m).wf = true) (w1 : IsNum w a1 len1 cap1 z1) :
    Calls Try.prog 5 #[.int .i64 m, .slice a1 len1 cap1] w fun e w' => e = .returned (.bool true) ∧ Nw w w' := by
  by_cases h : len1 ≤ 80
  · exact walk m a1 len1 cap1 z1 w w1 h
  · have k0 : (80 : Int) < (len1 : Int) := by omega
    clear w1
    go_enter Try.func5, Try.ntmps5
    go_wp2_with fail
    refine (lives_ok _).mono ?_
    rintro e w0 ⟨rfl, g0⟩
    have G0 := Lib.hid g0
    clear g0
    go_wp2
    go_ret
    exact ⟨rfl, G0.out⟩
end Go.Proofs.Ytckbjgcelpmffaa.poolLeast
