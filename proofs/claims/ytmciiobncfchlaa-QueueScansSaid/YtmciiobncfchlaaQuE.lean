
/- The document's own queue: upgrading. -/
import Derived.Test.YtmciiobncfchlaaQuD
import Derived.Test.YtmciiobncfchlaaQuT
import Derived.Test.YtmciiobncfchlaaOrdP
namespace Go.Proofs.Ytmciiobncfchlaa
open Go.RowKit
set_option linter.unusedVariables false      -- a contract need not use every name

/-- Of the first k: the place of the one that upgrades with the least Since. -/
def UpT (q : List Rq) (k : Nat) (i : Int) : Prop := (i = -1 ∧ ∀ a ∈ q.take k, ¬ isUp a) ∨ ∃ m : Nat, i = m ∧ m < k ∧ ∃ h : m < q.length, isUp q[m] ∧ ∀ a ∈ q.take k, isUp a → q[m].sn ≤ a.sn
theorem UpT.no {q : List Rq} {k : Nat} {i : Int} (h : UpT q k i) (hk : k < q.length) (hn : ¬ isUp q[k]) : UpT q (k + 1) i := by
  rcases h with ⟨rfl, h⟩ | ⟨m, rfl, hm, hml, hu, h⟩
  · refine .inl ⟨rfl, fun a ha => ?_⟩
    rcases take_mem hk ha with q1 | rfl
    · exact h a q1
    · exact hn
  · refine .inr ⟨m, rfl, by omega, hml, hu, fun a ha => ?_⟩
    rcases take_mem hk ha with q1 | rfl
    · exact h a q1
    · exact fun e => absurd e hn
theorem UpT.yes {q : List Rq} {k : Nat} {i : Int} (h : UpT q k i) (hk : k < q.length) (hu : isUp q[k]) (hl : ∀ m : Nat, i = m → ∀ h : m < q.length, q[k].sn ≤ q[m].sn) : UpT q (k + 1) k := by
  refine .inr ⟨k, rfl, by omega, hk, hu, fun a ha hau => ?_⟩
  rcases take_mem hk ha with q1 | rfl
  · rcases h with ⟨_, h⟩ | ⟨m, e, hm, hml, _, h⟩
    · exact absurd hau (h a q1)
    · exact Int.le_trans (hl m e hml) (h a q1 hau)
  · exact Int.le_refl _
theorem UpT.keep {q : List Rq} {k m : Nat} (h : UpT q k m) (hk : k < q.length) (hml : m < q.length) (hl : q[m].sn ≤ q[k].sn) : UpT q (k + 1) m := by
  rcases h with ⟨e, h⟩ | ⟨m', e, hm, hml', hu, h⟩
  · omega
  · obtain rfl : m = m' := by omega
    refine .inr ⟨m, rfl, by omega, hml, hu, fun a ha hau => ?_⟩
    rcases take_mem hk ha with q1 | rfl
    · exact h a q1 hau
    · exact hl
def Hs (S : World → Prop) (x : World) : Prop := S x

set_option maxRecDepth 100000 in
set_option maxHeartbeats 8000000 in
theorem r9upgrading (t r W : Int) (v : Value) (q : List Rq) (w : World) (hl : q.length ≤ 1000) (h : RqAt w v q) :
    Calls Try.prog 63 #[hdV t r v W] w fun e w' => ∃ i, e = .returned (.int .i64 i) ∧ Nw w w' ∧ UpT q q.length i := by
  unfold hdV
  obtain ⟨a, c, rfl, ⟨rfl, _⟩ | ⟨b, o, rfl, hc⟩⟩ := h
  · go_enter Try.func63, Try.ntmps63
    go_wp2
    refine wp_loop_rounds 1 ?_
    repeat (rw [rounds_succ]; go_wp2)
    go_ret
    exact ⟨-1, rfl, (Nw.refl _).alloc _, .inl ⟨rfl, by simp⟩⟩
  · have HC := Lib.hid hc
    clear hc
    go_enter Try.func63, Try.ntmps63
    go_wp2
    have hB := HBox.made w t r (.slice (some ⟨b, o, none⟩) q.length c) W 27
    have hN : Nw w (w.alloc (.cells #[.int .i64 t, .int .i64 r, .slice (some ⟨b, o, none⟩) q.length c, .int .i64 W] 27)) := (Nw.refl w).alloc _
    obtain ⟨p, hp⟩ : ∃ p, w.heap.size = p := ⟨_, rfl⟩
    rw [hp] at hB
    rw [hp]
    clear hp
    generalize w.alloc (.cells #[.int .i64 t, .int .i64 r, .slice (some ⟨b, o, none⟩) q.length c, .int .i64 W] 27) = z at *
    have HZ := Lib.hid (And.intro hB hN)
    have HR := Lib.hid (HC.out.nw hN)
    clear hB hN HC
    go_loopw [3, 4] (fun u i wr => ∃ (k : Nat) (j : Int), k ≤ q.length ∧ i = .int .i64 k ∧ u = .int .i64 j ∧ UpT q k j ∧ Nw z wr) (fun _ i _ => q.length - (intOf i).toNat)
    case atStart => exact ⟨0, -1, Nat.zero_le _, rfl, rfl, .inl ⟨rfl, by simp⟩, Nw.refl _⟩
    case round =>
      obtain ⟨k, j, hk, rfl, rfl, hf, hG⟩ := hrel
      have hb := HZ.out.1.nw hG
      have h0 := hb.c0
      have h1 := hb.c1
      have h2 := hb.c2
      have h3 := hb.c3
      have hpl := hb.lt
      clear hb
      by_cases hlt : k < q.length
      · have hRw := HR.out.nw hG
        have hce := hRw.cell k hlt
        have HNo := Lib.hid (fun e => hf.no hlt e)
        have HYes := Lib.hid (fun e1 e2 => hf.yes hlt e1 e2)
        have HKeep := Lib.hid (show ∀ m : Nat, j = m → ∀ h : m < q.length, q[m].sn ≤ q[k].sn → UpT q (k + 1) j from fun m e h l => by subst e; exact UpT.keep hf hlt h l)
        have HF := Lib.hid hf
        generalize q[k] = R at *
        obtain ⟨b0, b1, b2, b3, b4⟩ := R
        have e0 := hce 0 _ rfl
        have e1 := hce 1 _ rfl
        have e2 := hce 2 _ rfl
        have e3 := hce 3 _ rfl
        have e4 := hce 4 _ rfl
        simp only [Nat.add_zero] at e0
        have HG := Lib.hid hG
        have HRw := Lib.hid hRw
        have hbl := hRw.lt
        clear hce hf hG hRw
        go_wp2_with fail
        have hal := allocAt wr (.cells #[.int .i64 b0, .int .i64 b1, .int .i64 b2, .int .i64 b3, .int .i64 b4] 41)
        have hNa : Nw wr (wr.alloc (.cells #[.int .i64 b0, .int .i64 b1, .int .i64 b2, .int .i64 b3, .int .i64 b4] 41)) := (Nw.refl wr).alloc _
        obtain ⟨pb, hpb⟩ : ∃ pb, wr.heap.size = pb := ⟨_, rfl⟩
        rw [hpb] at hal
        rw [hpb]
        generalize wr.alloc (.cells #[.int .i64 b0, .int .i64 b1, .int .i64 b2, .int .i64 b3, .int .i64 b4] 41) = y at *
        have HGy := Lib.hid (HG.out.trans hNa)
        have HRy := Lib.hid (HRw.out.nw hNa)
        replace h0 := hNa.kp h0
        replace h1 := hNa.kp h1
        replace h2 := hNa.kp h2
        replace h3 := hNa.kp h3
        clear e0 e1 e2 e3 e4 hNa hpb HG HRw hbl hpl
        clear wr
        obtain ⟨S, hSe⟩ : ∃ S, S = Nw y := ⟨_, rfl⟩
        have hS0 : Hs S y.drew := by subst hSe; exact (Nw.refl _).dr
        have f0 : ∀ x, Hs S x → x.cell? ⟨pb, 0, none⟩ = some (.int .i64 b0) := fun x h => by subst hSe; exact Nw.kp h (hcell hal)
        have f1 : ∀ x, Hs S x → x.cell? ⟨pb, 1, none⟩ = some (.int .i64 b1) := fun x h => by subst hSe; exact Nw.kp h (hcell hal)
        have f2 : ∀ x, Hs S x → x.cell? ⟨pb, 2, none⟩ = some (.int .i64 b2) := fun x h => by subst hSe; exact Nw.kp h (hcell hal)
        have f3 : ∀ x, Hs S x → x.cell? ⟨pb, 3, none⟩ = some (.int .i64 b3) := fun x h => by subst hSe; exact Nw.kp h (hcell hal)
        have f4 : ∀ x, Hs S x → x.cell? ⟨pb, 4, none⟩ = some (.int .i64 b4) := fun x h => by subst hSe; exact Nw.kp h (hcell hal)
        have p0 : ∀ x, Hs S x → x.cell? ⟨p, 0, none⟩ = some (.int .i64 t) := fun x h => by subst hSe; exact Nw.kp h h0
        have p1 : ∀ x, Hs S x → x.cell? ⟨p, 1, none⟩ = some (.int .i64 r) := fun x h => by subst hSe; exact Nw.kp h h1
        have p2 : ∀ x, Hs S x → x.cell? ⟨p, 2, none⟩ = some (.slice (some ⟨b, o, none⟩) q.length c) := fun x h => by subst hSe; exact Nw.kp h h2
        have p3 : ∀ x, Hs S x → x.cell? ⟨p, 3, none⟩ = some (.int .i64 W) := fun x h => by subst hSe; exact Nw.kp h h3
        have HN := Lib.hid (show ∀ a b, Hs S a → Nw a b → Hs S b from fun a b h g => by subst hSe; exact Nw.trans h g)
        have HV := Lib.hid (show ∀ a, Hs S a → Nw y a from fun a h => by subst hSe; exact h)
        have HQ := Lib.hid (show ∀ m : Nat, ∀ hm : m < q.length, ∀ x, Hs S x → x.cell? ⟨b, o + m * 5 + 4, none⟩ = some (.int .i64 q[m].sn) from fun m hm x h => by subst hSe; exact (HRy.out.nw h).cell m hm 4 _ rfl)
        clear hSe h0 h1 h2 h3 hal HRy
        by_cases hmd : b2 = 0
        · have d1 : (b2 != 0) = false := by simpa using hmd
          have HU := Lib.hid (HNo.out (fun e => e.1 hmd))
          have HH := Lib.hid (fun w => r9holds b0 b1 b2 b3 b4 w)
          rw [d1] at HH
          clear HNo HYes HKeep hmd HQ HF
          refine region_plan (.take (.off (.go1 (.take (.take (.off (.go1 (.take (.take (.take (.take (.take (.take (.take (.take (.take (.take (.take (.take (.take (.take (.take (.take .fin))))))))))))))))))))))) (Hs S) (by kernel_rfl) (by kernel_rfl) (by kernel_rfl) hS0 ?_
          iterate 1 (refine HP.take' ?_; (first | (refine ⟨undef, Or.inr ⟨by rfl, rfl⟩, ?_⟩) | (apply Exists.intro; refine ⟨Or.inl ⟨by rfl, ?_⟩, ?_⟩; (intro x hx'; go_simp; first | done | with_reducible rfl))); (try simp only [Act.put, List.setIfInBounds_toArray, List.set_cons_zero, List.set_cons_succ]))
          refine HP.off ?_
          refine HP.go1 (fun KK hKK => ?_)
          go_simp
          refine (HH.out _).mono ?_
          rintro e y1 ⟨rfl, g⟩
          have hS1 := HN.out _ _ hS0 g
          refine hKK.out _ _ hS1 ?_
          intro _
          clear hKK KK g
          (try simp only [Act.put, List.setIfInBounds_toArray, List.set_cons_zero, List.set_cons_succ])
          iterate 2 (refine HP.take' ?_; (first | (refine ⟨undef, Or.inr ⟨by rfl, rfl⟩, ?_⟩) | (apply Exists.intro; refine ⟨Or.inl ⟨by rfl, ?_⟩, ?_⟩; (intro x hx'; go_simp; first | done | with_reducible rfl))); (try simp only [Act.put, List.setIfInBounds_toArray, List.set_cons_zero, List.set_cons_succ]))
          refine HP.off ?_
          refine HP.go1 (fun KK hKK => ?_)
          go_simp
          have hS2 := hS1
          refine hKK.out _ _ hS2 ?_
          intro _
          clear hKK KK
          (try simp only [Act.put, List.setIfInBounds_toArray, List.set_cons_zero, List.set_cons_succ])
          iterate 16 (refine HP.take' ?_; (first | (refine ⟨undef, Or.inr ⟨by rfl, rfl⟩, ?_⟩) | (apply Exists.intro; refine ⟨Or.inl ⟨by rfl, ?_⟩, ?_⟩; (intro x hx'; go_simp; first | done | with_reducible rfl))); (try simp only [Act.put, List.setIfInBounds_toArray, List.set_cons_zero, List.set_cons_succ]))
          refine HP.end_ ?_
          refine NoPanic.normal ?_
          have hZ := HGy.out.trans (HV.out _ hS2)
          clear hS0 hS1 hS2 f0 f1 f2 f3 f4 p0 p1 p2 p3 HN HV
          go_wp2
          go_roundw
          case rel => exact ⟨k + 1, _, by omega, by go_num, rfl, HU.out, hZ⟩
          case measure => simp [intOf]; omega
        · have d1 : (b2 != 0) = true := by simpa using hmd
          have HH := Lib.hid (fun w => r9holds b0 b1 b2 b3 b4 w)
          rw [d1] at HH
          have HWt := Lib.hid (fun w => r9waits b0 b1 b2 b3 b4 w)
          by_cases hsn : 0 < b4
          · have d2 : decide (0 < b4) = true := by simpa using hsn
            rw [d2] at HWt
            have hY := HYes.out ⟨hmd, hsn⟩
            rcases HF.out with ⟨hj, _⟩ | ⟨m, hj, _, hm, _, _⟩
            · subst hj
              have HU := Lib.hid (hY (fun m e => by omega))
              clear HNo HYes HKeep hmd hsn HQ HF hY
              refine region_plan (.take (.off (.go1 (.take (.take (.off (.go1 (.take (.take (.take (.take (.take (.take (.take (.take (.take (.take (.take (.take (.take (.take (.take (.take .fin))))))))))))))))))))))) (Hs S) (by kernel_rfl) (by kernel_rfl) (by kernel_rfl) hS0 ?_
              iterate 1 (refine HP.take' ?_; (first | (refine ⟨undef, Or.inr ⟨by rfl, rfl⟩, ?_⟩) | (apply Exists.intro; refine ⟨Or.inl ⟨by rfl, ?_⟩, ?_⟩; (intro x hx'; go_simp; first | done | with_reducible rfl))); (try simp only [Act.put, List.setIfInBounds_toArray, List.set_cons_zero, List.set_cons_succ]))
              refine HP.off ?_
              refine HP.go1 (fun KK hKK => ?_)
              go_simp
              refine (HH.out _).mono ?_
              rintro e y1 ⟨rfl, g⟩
              have hS1 := HN.out _ _ hS0 g
              refine hKK.out _ _ hS1 ?_
              intro _
              clear hKK KK g
              (try simp only [Act.put, List.setIfInBounds_toArray, List.set_cons_zero, List.set_cons_succ])
              iterate 2 (refine HP.take' ?_; (first | (refine ⟨undef, Or.inr ⟨by rfl, rfl⟩, ?_⟩) | (apply Exists.intro; refine ⟨Or.inl ⟨by rfl, ?_⟩, ?_⟩; (intro x hx'; go_simp; first | done | with_reducible rfl))); (try simp only [Act.put, List.setIfInBounds_toArray, List.set_cons_zero, List.set_cons_succ]))
              refine HP.off ?_
              refine HP.go1 (fun KK hKK => ?_)
              go_simp
              refine (HWt.out _).mono ?_
              rintro e y2 ⟨rfl, g⟩
              have hS2 := HN.out _ _ hS1 g
              refine hKK.out _ _ hS2 ?_
              intro _
              clear hKK KK g
              (try simp only [Act.put, List.setIfInBounds_toArray, List.set_cons_zero, List.set_cons_succ])
              iterate 16 (refine HP.take' ?_; (first | (refine ⟨undef, Or.inr ⟨by rfl, rfl⟩, ?_⟩) | (apply Exists.intro; refine ⟨Or.inl ⟨by rfl, ?_⟩, ?_⟩; (intro x hx'; go_simp; first | done | with_reducible rfl))); (try simp only [Act.put, List.setIfInBounds_toArray, List.set_cons_zero, List.set_cons_succ]))
              refine HP.end_ ?_
              refine NoPanic.normal ?_
              have hZ := HGy.out.trans (HV.out _ hS2)
              clear hS0 hS1 hS2 f0 f1 f2 f3 f4 p0 p1 p2 p3 HN HV
              go_wp2
              go_roundw
              case rel => exact ⟨k + 1, _, by omega, by go_num, rfl, HU.out, hZ⟩
              case measure => simp [intOf]; omega
            · have d3 : decide ((m : Int) < 0) = false := by simp
              have c4 := HQ.out m hm
              have hK := HKeep.out m hj hm
              have hY2 : b4 ≤ q[m].sn → UpT q (k + 1) k := fun h => hY (fun m' e h' => by
                obtain rfl : m = m' := by omega
                exact h)
              subst hj
              generalize q[m].sn = s at *
              have hmi : (m : Int) < (q.length : Int) := by omega
              by_cases hs : b4 < s
              · have d4 : decide (b4 < s) = true := by simpa using hs
                have HU := Lib.hid (hY2 (Int.le_of_lt hs))
                clear HNo HYes HKeep hmd hsn HQ HF hY hK hY2 hs
                refine region_plan (.take (.off (.go1 (.take (.take (.off (.go1 (.take (.take (.take (.take (.take (.take (.take (.take (.take (.take (.take (.take (.take (.take (.take (.take .fin))))))))))))))))))))))) (Hs S) (by kernel_rfl) (by kernel_rfl) (by kernel_rfl) hS0 ?_
                iterate 1 (refine HP.take' ?_; (first | (refine ⟨undef, Or.inr ⟨by rfl, rfl⟩, ?_⟩) | (apply Exists.intro; refine ⟨Or.inl ⟨by rfl, ?_⟩, ?_⟩; (intro x hx'; go_simp; first | done | with_reducible rfl))); (try simp only [Act.put, List.setIfInBounds_toArray, List.set_cons_zero, List.set_cons_succ]))
                refine HP.off ?_
                refine HP.go1 (fun KK hKK => ?_)
                go_simp
                refine (HH.out _).mono ?_
                rintro e y1 ⟨rfl, g⟩
                have hS1 := HN.out _ _ hS0 g
                refine hKK.out _ _ hS1 ?_
                intro _
                clear hKK KK g
                (try simp only [Act.put, List.setIfInBounds_toArray, List.set_cons_zero, List.set_cons_succ])
                iterate 2 (refine HP.take' ?_; (first | (refine ⟨undef, Or.inr ⟨by rfl, rfl⟩, ?_⟩) | (apply Exists.intro; refine ⟨Or.inl ⟨by rfl, ?_⟩, ?_⟩; (intro x hx'; go_simp; first | done | with_reducible rfl))); (try simp only [Act.put, List.setIfInBounds_toArray, List.set_cons_zero, List.set_cons_succ]))
                refine HP.off ?_
                refine HP.go1 (fun KK hKK => ?_)
                go_simp
                refine (HWt.out _).mono ?_
                rintro e y2 ⟨rfl, g⟩
                have hS2 := HN.out _ _ hS1 g
                refine hKK.out _ _ hS2 ?_
                intro _
                clear hKK KK g
                (try simp only [Act.put, List.setIfInBounds_toArray, List.set_cons_zero, List.set_cons_succ])
                iterate 16 (refine HP.take' ?_; (first | (refine ⟨undef, Or.inr ⟨by rfl, rfl⟩, ?_⟩) | (apply Exists.intro; refine ⟨Or.inl ⟨by rfl, ?_⟩, ?_⟩; (intro x hx'; go_simp; first | done | with_reducible rfl))); (try simp only [Act.put, List.setIfInBounds_toArray, List.set_cons_zero, List.set_cons_succ]))
                refine HP.end_ ?_
                refine NoPanic.normal ?_
                have hZ := HGy.out.trans (HV.out _ hS2)
                clear hS0 hS1 hS2 f0 f1 f2 f3 f4 p0 p1 p2 p3 HN HV c4
                go_wp2
                go_roundw
                case rel => exact ⟨k + 1, _, by omega, by go_num, rfl, HU.out, hZ⟩
                case measure => simp [intOf]; omega
              · have d4 : decide (b4 < s) = false := by simpa using hs
                have HU := Lib.hid (hK (Int.not_lt.1 hs))
                clear HNo HYes HKeep hmd hsn HQ HF hY hK hY2 hs
                refine region_plan (.take (.off (.go1 (.take (.take (.off (.go1 (.take (.take (.take (.take (.take (.take (.take (.take (.take (.take (.take (.take (.take (.take (.take (.take .fin))))))))))))))))))))))) (Hs S) (by kernel_rfl) (by kernel_rfl) (by kernel_rfl) hS0 ?_
                iterate 1 (refine HP.take' ?_; (first | (refine ⟨undef, Or.inr ⟨by rfl, rfl⟩, ?_⟩) | (apply Exists.intro; refine ⟨Or.inl ⟨by rfl, ?_⟩, ?_⟩; (intro x hx'; go_simp; first | done | with_reducible rfl))); (try simp only [Act.put, List.setIfInBounds_toArray, List.set_cons_zero, List.set_cons_succ]))
                refine HP.off ?_
                refine HP.go1 (fun KK hKK => ?_)
                go_simp
                refine (HH.out _).mono ?_
                rintro e y1 ⟨rfl, g⟩
                have hS1 := HN.out _ _ hS0 g
                refine hKK.out _ _ hS1 ?_
                intro _
                clear hKK KK g
                (try simp only [Act.put, List.setIfInBounds_toArray, List.set_cons_zero, List.set_cons_succ])
                iterate 2 (refine HP.take' ?_; (first | (refine ⟨undef, Or.inr ⟨by rfl, rfl⟩, ?_⟩) | (apply Exists.intro; refine ⟨Or.inl ⟨by rfl, ?_⟩, ?_⟩; (intro x hx'; go_simp; first | done | with_reducible rfl))); (try simp only [Act.put, List.setIfInBounds_toArray, List.set_cons_zero, List.set_cons_succ]))
                refine HP.off ?_
                refine HP.go1 (fun KK hKK => ?_)
                go_simp
                refine (HWt.out _).mono ?_
                rintro e y2 ⟨rfl, g⟩
                have hS2 := HN.out _ _ hS1 g
                refine hKK.out _ _ hS2 ?_
                intro _
                clear hKK KK g
                (try simp only [Act.put, List.setIfInBounds_toArray, List.set_cons_zero, List.set_cons_succ])
                iterate 16 (refine HP.take' ?_; (first | (refine ⟨undef, Or.inr ⟨by rfl, rfl⟩, ?_⟩) | (apply Exists.intro; refine ⟨Or.inl ⟨by rfl, ?_⟩, ?_⟩; (intro x hx'; go_simp; first | done | with_reducible rfl))); (try simp only [Act.put, List.setIfInBounds_toArray, List.set_cons_zero, List.set_cons_succ]))
                refine HP.end_ ?_
                refine NoPanic.normal ?_
                have hZ := HGy.out.trans (HV.out _ hS2)
                clear hS0 hS1 hS2 f0 f1 f2 f3 f4 p0 p1 p2 p3 HN HV c4
                go_wp2
                go_roundw
                case rel => exact ⟨k + 1, _, by omega, by go_num, rfl, HU.out, hZ⟩
                case measure => simp [intOf]; omega
          · have d2 : decide (0 < b4) = false := by simpa using hsn
            rw [d2] at HWt
            have HU := Lib.hid (HNo.out (fun e => hsn e.2))
            clear HNo HYes HKeep hmd hsn HQ HF
            refine region_plan (.take (.off (.go1 (.take (.take (.off (.go1 (.take (.take (.take (.take (.take (.take (.take (.take (.take (.take (.take (.take (.take (.take (.take (.take .fin))))))))))))))))))))))) (Hs S) (by kernel_rfl) (by kernel_rfl) (by kernel_rfl) hS0 ?_
            iterate 1 (refine HP.take' ?_; (first | (refine ⟨undef, Or.inr ⟨by rfl, rfl⟩, ?_⟩) | (apply Exists.intro; refine ⟨Or.inl ⟨by rfl, ?_⟩, ?_⟩; (intro x hx'; go_simp; first | done | with_reducible rfl))); (try simp only [Act.put, List.setIfInBounds_toArray, List.set_cons_zero, List.set_cons_succ]))
            refine HP.off ?_
            refine HP.go1 (fun KK hKK => ?_)
            go_simp
            refine (HH.out _).mono ?_
            rintro e y1 ⟨rfl, g⟩
            have hS1 := HN.out _ _ hS0 g
            refine hKK.out _ _ hS1 ?_
            intro _
            clear hKK KK g
            (try simp only [Act.put, List.setIfInBounds_toArray, List.set_cons_zero, List.set_cons_succ])
            iterate 2 (refine HP.take' ?_; (first | (refine ⟨undef, Or.inr ⟨by rfl, rfl⟩, ?_⟩) | (apply Exists.intro; refine ⟨Or.inl ⟨by rfl, ?_⟩, ?_⟩; (intro x hx'; go_simp; first | done | with_reducible rfl))); (try simp only [Act.put, List.setIfInBounds_toArray, List.set_cons_zero, List.set_cons_succ]))
            refine HP.off ?_
            refine HP.go1 (fun KK hKK => ?_)
            go_simp
            refine (HWt.out _).mono ?_
            rintro e y2 ⟨rfl, g⟩
            have hS2 := HN.out _ _ hS1 g
            refine hKK.out _ _ hS2 ?_
            intro _
            clear hKK KK g
            (try simp only [Act.put, List.setIfInBounds_toArray, List.set_cons_zero, List.set_cons_succ])
            iterate 16 (refine HP.take' ?_; (first | (refine ⟨undef, Or.inr ⟨by rfl, rfl⟩, ?_⟩) | (apply Exists.intro; refine ⟨Or.inl ⟨by rfl, ?_⟩, ?_⟩; (intro x hx'; go_simp; first | done | with_reducible rfl))); (try simp only [Act.put, List.setIfInBounds_toArray, List.set_cons_zero, List.set_cons_succ]))
            refine HP.end_ ?_
            refine NoPanic.normal ?_
            have hZ := HGy.out.trans (HV.out _ hS2)
            clear hS0 hS1 hS2 f0 f1 f2 f3 f4 p0 p1 p2 p3 HN HV
            go_wp2
            go_roundw
            case rel => exact ⟨k + 1, _, by omega, by go_num, rfl, HU.out, hZ⟩
            case measure => simp [intOf]; omega
      · obtain rfl : k = q.length := by omega
        have HG := Lib.hid hG
        have HF := Lib.hid hf
        clear hf hG
        go_wp2
        go_ret
        exact ⟨j, rfl, HZ.out.2.trans HG.out, HF.out⟩

end Go.Proofs.Ytmciiobncfchlaa
