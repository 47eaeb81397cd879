/- Texts merged: QuD, QuE, QuF, QuG, QuI, QuJ -/
import Derived.Test.YtodnlelnpidliaaGreatBucketHoldsB11
import Derived.StillTailTactics

/- The document's own queue: at, waiting, fits. -/
section
namespace Go.Proofs.YtodnlelnpidliaaGreat
open Go.RowKit
set_option linter.unusedVariables false      -- a contract need not use every name

/-- The place of a request. -/
def AtIs (q : List Rq) (id i : Int) : Prop := (i = -1 ∧ fnd q id = none) ∨ ∃ k : Nat, i = k ∧ ∃ h : k < q.length, fnd q id = some q[k]
/-- The place of the first one that waits without holding. -/
def WaIs (q : List Rq) (i : Int) : Prop := (i = -1 ∧ ∀ a ∈ q, a.md ≠ 0) ∨ ∃ k : Nat, i = k ∧ ∃ h : k < q.length, q[k].md = 0 ∧ ∀ a ∈ q.take k, a.md ≠ 0
theorem take_mem {α : Type} {l : List α} {k : Nat} (hk : k < l.length) {x : α} (hx : x ∈ l.take (k + 1)) : x ∈ l.take k ∨ x = l[k] := by
  rw [List.take_add_one, List.getElem?_eq_getElem hk] at hx
  rcases List.mem_append.1 hx with h | h
  · exact .inl h
  · simp at h; exact .inr h
set_option maxRecDepth 100000 in
set_option maxHeartbeats 2000000 in
theorem r9waiting (t r W : Int) (v : Value) (q : List Rq) (w : World) (hl : q.length ≤ 1000) (h : RqAt w v q) :
    Calls Tryz.prog 59 #[hdV t r v W] w fun e w' => ∃ i, e = .returned (.int .i64 i) ∧ Nw w w' ∧ WaIs q i := by
  unfold hdV
  obtain ⟨a, c, rfl, ⟨rfl, _⟩ | ⟨b, o, rfl, hc⟩⟩ := h
  · go_enter Tryz.func59, Tryz.ntmps59
    go_wp2
    refine wp_loop_rounds 1 ?_
    repeat (rw [rounds_succ]; go_wp2)
    go_ret
    exact ⟨-1, rfl, (Nw.refl _).alloc _, .inl ⟨rfl, by simp⟩⟩
  · have HC := Lib.hid hc
    clear hc
    go_enter Tryz.func59, Tryz.ntmps59
    go_wp2
    have hB := HBox.made w t r (.slice (some ⟨b, o, none⟩) q.length c) W 56
    have hN : Nw w (w.alloc (.cells #[.int .i64 t, .int .i64 r, .slice (some ⟨b, o, none⟩) q.length c, .int .i64 W] 56)) := (Nw.refl w).alloc _
    obtain ⟨p, hp⟩ : ∃ p, w.heap.size = p := ⟨_, rfl⟩
    rw [hp] at hB
    rw [hp]
    clear hp
    generalize w.alloc (.cells #[.int .i64 t, .int .i64 r, .slice (some ⟨b, o, none⟩) q.length c, .int .i64 W] 56) = z at *
    have HZ := Lib.hid (And.intro hB hN)
    have HR := Lib.hid (HC.out.nw hN)
    clear hB hN HC
    go_loopw [3] (fun i wr => ∃ k : Nat, k ≤ q.length ∧ i = .int .i64 k ∧ (∀ a ∈ q.take k, a.md ≠ 0) ∧ Nw z wr) (fun i _ => q.length - (intOf i).toNat)
    case atStart => exact ⟨0, Nat.zero_le _, rfl, by simp, Nw.refl _⟩
    case round =>
      obtain ⟨k, hk, rfl, hf, hG⟩ := hrel
      have hb := HZ.out.1.nw hG
      have h0 := hb.c0
      have h1 := hb.c1
      have h2 := hb.c2
      have h3 := hb.c3
      clear hb
      by_cases hlt : k < q.length
      · have hce := (HR.out.nw hG).cell k hlt
        have HA2 := Lib.hid (show q[k].md = 0 → WaIs q (k : Int) from fun e => .inr ⟨k, rfl, hlt, e, hf⟩)
        have HS := Lib.hid (show q[k].md ≠ 0 → ∀ a ∈ q.take (k + 1), a.md ≠ 0 from fun e a ha => by
          rcases take_mem hlt ha with h | rfl
          · exact hf a h
          · exact e)
        generalize q[k] = R at *
        obtain ⟨b0, b1, b2, b3, b4⟩ := R
        have e0 := hce 0 _ rfl
        have e1 := hce 1 _ rfl
        have e2 := hce 2 _ rfl
        have e3 := hce 3 _ rfl
        have e4 := hce 4 _ rfl
        simp only [Nat.add_zero] at e0
        have HG := Lib.hid hG
        clear hce hf hG
        go_wp2_with fail
        refine (r9holds _ _ _ _ _ _).mono ?_
        rintro e w2 ⟨rfl, g2⟩
        have HG3 := Lib.hid (HG.out.trans g2)
        have n0 := g2.kp h0
        have n1 := g2.kp h1
        have n2 := g2.kp h2
        have n3 := g2.kp h3
        clear h0 h1 h2 h3 e0 e1 e2 e3 e4 g2 HG
        by_cases he : b2 = 0
        · have d : (b2 != 0) = false := by simpa using he
          have HR2 := Lib.hid (HA2.out he)
          clear he HA2 HS
          go_wp2
          go_ret
          exact ⟨_, rfl, HZ.out.2.trans HG3.out, HR2.out⟩
        · have d : (b2 != 0) = true := by simpa using he
          have HS2 := Lib.hid (HS.out he)
          clear he HS HA2
          go_wp2
          go_roundw
          case rel => exact ⟨k + 1, by omega, by go_num, HS2.out, HG3.out⟩
          case measure => simp [intOf]; omega
      · obtain rfl : k = q.length := by omega
        rw [List.take_length] at hf
        have HF := Lib.hid hf
        have HG := Lib.hid hG
        clear hf hG
        go_wp2
        go_ret
        exact ⟨-1, rfl, HZ.out.2.trans HG.out, .inl ⟨rfl, HF.out⟩⟩
/-- Is a mode compatible with all that hold, but the one at a place? -/
def fitI (q : List Rq) (m but : Int) : Prop := ∀ k (h : k < q.length), (k : Int) ≠ but → q[k].md ≠ 0 → cpI q[k].md m = true
set_option maxRecDepth 100000 in
set_option maxHeartbeats 4000000 in
theorem r9fits (t r W m but : Int) (v : Value) (q : List Rq) (w : World) (hl : q.length ≤ 1000) (h : RqAt w v q) :
    Calls Tryz.prog 60 #[hdV t r v W, .int .i64 m, .int .i64 but] w fun e w' => ∃ f, e = .returned (.bool f) ∧ Nw w w' ∧ (f = true ↔ fitI q m but) := by
  unfold hdV
  obtain ⟨a, c, rfl, ⟨rfl, _⟩ | ⟨b, o, rfl, hc⟩⟩ := h
  · go_enter Tryz.func60, Tryz.ntmps60
    go_wp2
    refine wp_loop_rounds 1 ?_
    repeat (rw [rounds_succ]; go_wp2)
    go_ret
    exact ⟨true, rfl, (Nw.refl _).alloc _, by simp [fitI]⟩
  · have HC := Lib.hid hc
    clear hc
    go_enter Tryz.func60, Tryz.ntmps60
    go_wp2
    have hB := HBox.made w t r (.slice (some ⟨b, o, none⟩) q.length c) W 56
    have hN : Nw w (w.alloc (.cells #[.int .i64 t, .int .i64 r, .slice (some ⟨b, o, none⟩) q.length c, .int .i64 W] 56)) := (Nw.refl w).alloc _
    obtain ⟨p, hp⟩ : ∃ p, w.heap.size = p := ⟨_, rfl⟩
    rw [hp] at hB
    rw [hp]
    clear hp
    generalize w.alloc (.cells #[.int .i64 t, .int .i64 r, .slice (some ⟨b, o, none⟩) q.length c, .int .i64 W] 56) = z at *
    have HZ := Lib.hid (And.intro hB hN)
    have HR := Lib.hid (HC.out.nw hN)
    clear hB hN HC
    go_loopw [7] (fun i wr => ∃ k : Nat, k ≤ q.length ∧ i = .int .i64 k ∧ (∀ j (h : j < q.length), j < k → (j : Int) ≠ but → q[j].md ≠ 0 → cpI q[j].md m = true) ∧ Nw z wr) (fun i _ => q.length - (intOf i).toNat)
    case atStart => exact ⟨0, Nat.zero_le _, rfl, fun j _ h => absurd h (Nat.not_lt_zero _), Nw.refl _⟩
    case round =>
      obtain ⟨k, hk, rfl, hf, hG⟩ := hrel
      have hb := HZ.out.1.nw hG
      have h0 := hb.c0
      have h1 := hb.c1
      have h2 := hb.c2
      have h3 := hb.c3
      clear hb
      by_cases hlt : k < q.length
      · have hRw := HR.out.nw hG
        have hce := hRw.cell k hlt
        have HA2 := Lib.hid (show (k : Int) ≠ but → q[k].md ≠ 0 → cpI q[k].md m = false → ¬ fitI q m but from fun e1 e2 e3 h => by
          have := h k hlt e1 e2
          rw [e3] at this; cases this)
        have HS := Lib.hid (show ((k : Int) ≠ but → q[k].md ≠ 0 → cpI q[k].md m = true) → ∀ j (h : j < q.length), j < k + 1 → (j : Int) ≠ but → q[j].md ≠ 0 → cpI q[j].md m = true from fun e j hj hjk => by
          rcases Nat.lt_or_ge j k with g | g
          · exact hf j hj g
          · obtain rfl : j = k := by omega
            exact e)
        have hCP := fun w => r1comp q[k].md m w
        generalize q[k] = R at *
        obtain ⟨b0, b1, b2, b3, b4⟩ := R
        have e0 := hce 0 _ rfl
        have e1 := hce 1 _ rfl
        have e2 := hce 2 _ rfl
        have e3 := hce 3 _ rfl
        have e4 := hce 4 _ rfl
        simp only [Nat.add_zero] at e0
        have HG := Lib.hid hG
        simp only at hCP
        obtain ⟨x, hx⟩ : ∃ x, cpI b2 m = x := ⟨_, rfl⟩
        simp only at HA2 HS
        have CP := Lib.hid hCP
        clear hce hf hG hCP hRw
        by_cases hbu : (k : Int) = but
        · have d : ((k : Int) != but) = false := by simpa using hbu
          have HS2 := Lib.hid (HS.out (fun e => absurd hbu e))
          clear hbu HS HA2 CP hx
          go_wp2
          go_roundw
          case rel => exact ⟨k + 1, by omega, by go_num, HS2.out, HG.out⟩
          case measure => simp [intOf]; omega
        · have d : ((k : Int) != but) = true := by simpa using hbu
          by_cases he : b2 = 0
          · have d2 : (b2 != 0) = false := by simpa using he
            have HS2 := Lib.hid (HS.out (fun _ e => absurd he e))
            clear hbu he HS HA2 CP hx
            go_wp2_with fail
            refine (r9holds _ _ _ _ _ _).mono ?_
            rintro e w2 ⟨rfl, g2⟩
            have HG3 := Lib.hid (HG.out.trans g2)
            have n0 := g2.kp h0
            have n1 := g2.kp h1
            have n2 := g2.kp h2
            have n3 := g2.kp h3
            clear h0 h1 h2 h3 e0 e1 e2 e3 e4 g2 HG
            go_wp2
            go_roundw
            case rel => exact ⟨k + 1, by omega, by go_num, HS2.out, HG3.out⟩
            case measure => simp [intOf]; omega
          · have d2 : (b2 != 0) = true := by simpa using he
            have HA3 := Lib.hid (HA2.out hbu he)
            have HS3 := Lib.hid (show cpI b2 m = true → _ from fun c => HS.out (fun _ _ => c))
            clear hbu he HS HA2
            go_wp2_with fail
            refine (r9holds _ _ _ _ _ _).mono ?_
            rintro e w2 ⟨rfl, g2⟩
            replace h0 := g2.kp h0
            replace h1 := g2.kp h1
            replace h2 := g2.kp h2
            replace h3 := g2.kp h3
            replace e0 := g2.kp e0
            replace e1 := g2.kp e1
            replace e2 := g2.kp e2
            replace e3 := g2.kp e3
            replace e4 := g2.kp e4
            have HG3 := Lib.hid (HG.out.trans g2)
            clear g2 HG
            go_wp2_with fail
            refine (CP.out _).mono ?_
            rintro e w3 ⟨rfl, g3⟩
            have HG4 := Lib.hid (HG3.out.trans g3)
            have n0 := g3.kp h0
            have n1 := g3.kp h1
            have n2 := g3.kp h2
            have n3 := g3.kp h3
            clear h0 h1 h2 h3 e0 e1 e2 e3 e4 g3 HG3 CP
            cases x
            · have HA4 := Lib.hid (HA3.out hx)
              clear HA3 HS3
              go_wp2
              go_ret
              exact ⟨false, rfl, HZ.out.2.trans HG4.out, by simpa using HA4.out⟩
            · have HS4 := Lib.hid (HS3.out hx)
              clear HA3 HS3
              go_wp2
              go_roundw
              case rel => exact ⟨k + 1, by omega, by go_num, HS4.out, HG4.out⟩
              case measure => simp [intOf]; omega
      · obtain rfl : k = q.length := by omega
        have HF := Lib.hid (show fitI q m but from fun k hk => hf k hk hk)
        have HG := Lib.hid hG
        clear hf hG
        go_wp2
        go_ret
        exact ⟨true, rfl, HZ.out.2.trans HG.out, by simpa using HF.out⟩
end Go.Proofs.YtodnlelnpidliaaGreat
end

/- The document's own queue: upgrading. -/
section
namespace Go.Proofs.YtodnlelnpidliaaGreat
open Go.RowKit
set_option linter.unusedVariables false      -- a contract need not use every name

/-- Of the first k: the place of the one that upgrades with the least Since. -/
def UpT (q : List Rq) (k : Nat) (i : Int) : Prop := (i = -1 ∧ ∀ a ∈ q.take k, ¬ isUp a) ∨ ∃ m : Nat, i = m ∧ m < k ∧ ∃ h : m < q.length, isUp q[m] ∧ ∀ a ∈ q.take k, isUp a → q[m].sn ≤ a.sn
theorem UpT.no {q : List Rq} {k : Nat} {i : Int} (h : UpT q k i) (hk : k < q.length) (hn : ¬ isUp q[k]) : UpT q (k + 1) i := by
  rcases h with ⟨rfl, h⟩ | ⟨m, rfl, hm, hml, hu, h⟩
  · refine .inl ⟨rfl, fun a ha => ?_⟩
    rcases take_mem hk ha with q1 | rfl
    · exact h a q1
    · exact hn
  · refine .inr ⟨m, rfl, by omega, hml, hu, fun a ha => ?_⟩
    rcases take_mem hk ha with q1 | rfl
    · exact h a q1
    · exact fun e => absurd e hn
theorem UpT.yes {q : List Rq} {k : Nat} {i : Int} (h : UpT q k i) (hk : k < q.length) (hu : isUp q[k]) (hl : ∀ m : Nat, i = m → ∀ h : m < q.length, q[k].sn ≤ q[m].sn) : UpT q (k + 1) k := by
  refine .inr ⟨k, rfl, by omega, hk, hu, fun a ha hau => ?_⟩
  rcases take_mem hk ha with q1 | rfl
  · rcases h with ⟨_, h⟩ | ⟨m, e, hm, hml, _, h⟩
    · exact absurd hau (h a q1)
    · exact Int.le_trans (hl m e hml) (h a q1 hau)
  · exact Int.le_refl _
theorem UpT.keep {q : List Rq} {k m : Nat} (h : UpT q k m) (hk : k < q.length) (hml : m < q.length) (hl : q[m].sn ≤ q[k].sn) : UpT q (k + 1) m := by
  rcases h with ⟨e, h⟩ | ⟨m', e, hm, hml', hu, h⟩
  · omega
  · obtain rfl : m = m' := by omega
    refine .inr ⟨m, rfl, by omega, hml, hu, fun a ha hau => ?_⟩
    rcases take_mem hk ha with q1 | rfl
    · exact h a q1 hau
    · exact hl
def Hs (S : World → Prop) (x : World) : Prop := S x

set_option maxRecDepth 100000 in
set_option maxHeartbeats 8000000 in
theorem r9upgrading (t r W : Int) (v : Value) (q : List Rq) (w : World) (hl : q.length ≤ 1000) (h : RqAt w v q) :
    Calls Tryz.prog 58 #[hdV t r v W] w fun e w' => ∃ i, e = .returned (.int .i64 i) ∧ Nw w w' ∧ UpT q q.length i := by
  unfold hdV
  obtain ⟨a, c, rfl, ⟨rfl, _⟩ | ⟨b, o, rfl, hc⟩⟩ := h
  · go_enter Tryz.func58, Tryz.ntmps58
    go_wp2
    refine wp_loop_rounds 1 ?_
    repeat (rw [rounds_succ]; go_wp2)
    go_ret
    exact ⟨-1, rfl, (Nw.refl _).alloc _, .inl ⟨rfl, by simp⟩⟩
  · have HC := Lib.hid hc
    clear hc
    go_enter Tryz.func58, Tryz.ntmps58
    go_wp2
    have hB := HBox.made w t r (.slice (some ⟨b, o, none⟩) q.length c) W 56
    have hN : Nw w (w.alloc (.cells #[.int .i64 t, .int .i64 r, .slice (some ⟨b, o, none⟩) q.length c, .int .i64 W] 56)) := (Nw.refl w).alloc _
    obtain ⟨p, hp⟩ : ∃ p, w.heap.size = p := ⟨_, rfl⟩
    rw [hp] at hB
    rw [hp]
    clear hp
    generalize w.alloc (.cells #[.int .i64 t, .int .i64 r, .slice (some ⟨b, o, none⟩) q.length c, .int .i64 W] 56) = z at *
    have HZ := Lib.hid (And.intro hB hN)
    have HR := Lib.hid (HC.out.nw hN)
    clear hB hN HC
    go_loopw [3, 4] (fun u i wr => ∃ (k : Nat) (j : Int), k ≤ q.length ∧ i = .int .i64 k ∧ u = .int .i64 j ∧ UpT q k j ∧ Nw z wr) (fun _ i _ => q.length - (intOf i).toNat)
    case atStart => exact ⟨0, -1, Nat.zero_le _, rfl, rfl, .inl ⟨rfl, by simp⟩, Nw.refl _⟩
    case round =>
      obtain ⟨k, j, hk, rfl, rfl, hf, hG⟩ := hrel
      have hb := HZ.out.1.nw hG
      have h0 := hb.c0
      have h1 := hb.c1
      have h2 := hb.c2
      have h3 := hb.c3
      have hpl := hb.lt
      clear hb
      by_cases hlt : k < q.length
      · have hRw := HR.out.nw hG
        have hce := hRw.cell k hlt
        have HNo := Lib.hid (fun e => hf.no hlt e)
        have HYes := Lib.hid (fun e1 e2 => hf.yes hlt e1 e2)
        have HKeep := Lib.hid (show ∀ m : Nat, j = m → ∀ h : m < q.length, q[m].sn ≤ q[k].sn → UpT q (k + 1) j from fun m e h l => by subst e; exact UpT.keep hf hlt h l)
        have HF := Lib.hid hf
        generalize q[k] = R at *
        obtain ⟨b0, b1, b2, b3, b4⟩ := R
        have e0 := hce 0 _ rfl
        have e1 := hce 1 _ rfl
        have e2 := hce 2 _ rfl
        have e3 := hce 3 _ rfl
        have e4 := hce 4 _ rfl
        simp only [Nat.add_zero] at e0
        have HG := Lib.hid hG
        have HRw := Lib.hid hRw
        have hbl := hRw.lt
        clear hce hf hG hRw
        go_wp2_with fail
        have hal := allocAt wr (.cells #[.int .i64 b0, .int .i64 b1, .int .i64 b2, .int .i64 b3, .int .i64 b4] 47)
        have hNa : Nw wr (wr.alloc (.cells #[.int .i64 b0, .int .i64 b1, .int .i64 b2, .int .i64 b3, .int .i64 b4] 47)) := (Nw.refl wr).alloc _
        obtain ⟨pb, hpb⟩ : ∃ pb, wr.heap.size = pb := ⟨_, rfl⟩
        rw [hpb] at hal
        rw [hpb]
        generalize wr.alloc (.cells #[.int .i64 b0, .int .i64 b1, .int .i64 b2, .int .i64 b3, .int .i64 b4] 47) = y at *
        have HGy := Lib.hid (HG.out.trans hNa)
        have HRy := Lib.hid (HRw.out.nw hNa)
        replace h0 := hNa.kp h0
        replace h1 := hNa.kp h1
        replace h2 := hNa.kp h2
        replace h3 := hNa.kp h3
        clear e0 e1 e2 e3 e4 hNa hpb HG HRw hbl hpl
        clear wr
        obtain ⟨S, hSe⟩ : ∃ S, S = Nw y := ⟨_, rfl⟩
        have hS0 : Hs S y.drew := by subst hSe; exact (Nw.refl _).dr
        have f0 : ∀ x, Hs S x → x.cell? ⟨pb, 0, none⟩ = some (.int .i64 b0) := fun x h => by subst hSe; exact Nw.kp h (hcell hal)
        have f1 : ∀ x, Hs S x → x.cell? ⟨pb, 1, none⟩ = some (.int .i64 b1) := fun x h => by subst hSe; exact Nw.kp h (hcell hal)
        have f2 : ∀ x, Hs S x → x.cell? ⟨pb, 2, none⟩ = some (.int .i64 b2) := fun x h => by subst hSe; exact Nw.kp h (hcell hal)
        have f3 : ∀ x, Hs S x → x.cell? ⟨pb, 3, none⟩ = some (.int .i64 b3) := fun x h => by subst hSe; exact Nw.kp h (hcell hal)
        have f4 : ∀ x, Hs S x → x.cell? ⟨pb, 4, none⟩ = some (.int .i64 b4) := fun x h => by subst hSe; exact Nw.kp h (hcell hal)
        have p0 : ∀ x, Hs S x → x.cell? ⟨p, 0, none⟩ = some (.int .i64 t) := fun x h => by subst hSe; exact Nw.kp h h0
        have p1 : ∀ x, Hs S x → x.cell? ⟨p, 1, none⟩ = some (.int .i64 r) := fun x h => by subst hSe; exact Nw.kp h h1
        have p2 : ∀ x, Hs S x → x.cell? ⟨p, 2, none⟩ = some (.slice (some ⟨b, o, none⟩) q.length c) := fun x h => by subst hSe; exact Nw.kp h h2
        have p3 : ∀ x, Hs S x → x.cell? ⟨p, 3, none⟩ = some (.int .i64 W) := fun x h => by subst hSe; exact Nw.kp h h3
        have HN := Lib.hid (show ∀ a b, Hs S a → Nw a b → Hs S b from fun a b h g => by subst hSe; exact Nw.trans h g)
        have HV := Lib.hid (show ∀ a, Hs S a → Nw y a from fun a h => by subst hSe; exact h)
        have HQ := Lib.hid (show ∀ m : Nat, ∀ hm : m < q.length, ∀ x, Hs S x → x.cell? ⟨b, o + m * 5 + 4, none⟩ = some (.int .i64 q[m].sn) from fun m hm x h => by subst hSe; exact (HRy.out.nw h).cell m hm 4 _ rfl)
        clear hSe h0 h1 h2 h3 hal HRy
        by_cases hmd : b2 = 0
        · have d1 : (b2 != 0) = false := by simpa using hmd
          have HU := Lib.hid (HNo.out (fun e => e.1 hmd))
          have HH := Lib.hid (fun w => r9holds b0 b1 b2 b3 b4 w)
          rw [d1] at HH
          clear HNo HYes HKeep hmd HQ HF
          refine region_plan (.take (.off (.go1 (.take (.take (.off (.go1 (.take (.take (.take (.take (.take (.take (.take (.take (.take (.take (.take (.take (.take (.take (.take (.take .fin))))))))))))))))))))))) (Hs S) (by kernel_rfl) (by kernel_rfl) (by kernel_rfl) hS0 ?_
          iterate 1 (refine HP.take' ?_; (first | (refine ⟨undef, Or.inr ⟨by rfl, rfl⟩, ?_⟩) | (apply Exists.intro; refine ⟨Or.inl ⟨by rfl, ?_⟩, ?_⟩; (intro x hx'; go_simp; first | done | with_reducible rfl))); (try simp only [Act.put, List.setIfInBounds_toArray, List.set_cons_zero, List.set_cons_succ]))
          refine HP.off ?_
          refine HP.go1 (fun KK hKK => ?_)
          go_simp
          refine (HH.out _).mono ?_
          rintro e y1 ⟨rfl, g⟩
          have hS1 := HN.out _ _ hS0 g
          refine hKK.out _ _ hS1 ?_
          intro _
          clear hKK KK g
          (try simp only [Act.put, List.setIfInBounds_toArray, List.set_cons_zero, List.set_cons_succ])
          iterate 2 (refine HP.take' ?_; (first | (refine ⟨undef, Or.inr ⟨by rfl, rfl⟩, ?_⟩) | (apply Exists.intro; refine ⟨Or.inl ⟨by rfl, ?_⟩, ?_⟩; (intro x hx'; go_simp; first | done | with_reducible rfl))); (try simp only [Act.put, List.setIfInBounds_toArray, List.set_cons_zero, List.set_cons_succ]))
          refine HP.off ?_
          refine HP.go1 (fun KK hKK => ?_)
          go_simp
          have hS2 := hS1
          refine hKK.out _ _ hS2 ?_
          intro _
          clear hKK KK
          (try simp only [Act.put, List.setIfInBounds_toArray, List.set_cons_zero, List.set_cons_succ])
          iterate 16 (refine HP.take' ?_; (first | (refine ⟨undef, Or.inr ⟨by rfl, rfl⟩, ?_⟩) | (apply Exists.intro; refine ⟨Or.inl ⟨by rfl, ?_⟩, ?_⟩; (intro x hx'; go_simp; first | done | with_reducible rfl))); (try simp only [Act.put, List.setIfInBounds_toArray, List.set_cons_zero, List.set_cons_succ]))
          refine HP.end_ ?_
          refine NoPanic.normal ?_
          have hZ := HGy.out.trans (HV.out _ hS2)
          clear hS0 hS1 hS2 f0 f1 f2 f3 f4 p0 p1 p2 p3 HN HV
          go_wp2
          go_roundw
          case rel => exact ⟨k + 1, _, by omega, by go_num, rfl, HU.out, hZ⟩
          case measure => simp [intOf]; omega
        · have d1 : (b2 != 0) = true := by simpa using hmd
          have HH := Lib.hid (fun w => r9holds b0 b1 b2 b3 b4 w)
          rw [d1] at HH
          have HWt := Lib.hid (fun w => r9waits b0 b1 b2 b3 b4 w)
          by_cases hsn : 0 < b4
          · have d2 : decide (0 < b4) = true := by simpa using hsn
            rw [d2] at HWt
            have hY := HYes.out ⟨hmd, hsn⟩
            rcases HF.out with ⟨hj, _⟩ | ⟨m, hj, _, hm, _, _⟩
            · subst hj
              have HU := Lib.hid (hY (fun m e => by omega))
              clear HNo HYes HKeep hmd hsn HQ HF hY
              refine region_plan (.take (.off (.go1 (.take (.take (.off (.go1 (.take (.take (.take (.take (.take (.take (.take (.take (.take (.take (.take (.take (.take (.take (.take (.take .fin))))))))))))))))))))))) (Hs S) (by kernel_rfl) (by kernel_rfl) (by kernel_rfl) hS0 ?_
              iterate 1 (refine HP.take' ?_; (first | (refine ⟨undef, Or.inr ⟨by rfl, rfl⟩, ?_⟩) | (apply Exists.intro; refine ⟨Or.inl ⟨by rfl, ?_⟩, ?_⟩; (intro x hx'; go_simp; first | done | with_reducible rfl))); (try simp only [Act.put, List.setIfInBounds_toArray, List.set_cons_zero, List.set_cons_succ]))
              refine HP.off ?_
              refine HP.go1 (fun KK hKK => ?_)
              go_simp
              refine (HH.out _).mono ?_
              rintro e y1 ⟨rfl, g⟩
              have hS1 := HN.out _ _ hS0 g
              refine hKK.out _ _ hS1 ?_
              intro _
              clear hKK KK g
              (try simp only [Act.put, List.setIfInBounds_toArray, List.set_cons_zero, List.set_cons_succ])
              iterate 2 (refine HP.take' ?_; (first | (refine ⟨undef, Or.inr ⟨by rfl, rfl⟩, ?_⟩) | (apply Exists.intro; refine ⟨Or.inl ⟨by rfl, ?_⟩, ?_⟩; (intro x hx'; go_simp; first | done | with_reducible rfl))); (try simp only [Act.put, List.setIfInBounds_toArray, List.set_cons_zero, List.set_cons_succ]))
              refine HP.off ?_
              refine HP.go1 (fun KK hKK => ?_)
              go_simp
              refine (HWt.out _).mono ?_
              rintro e y2 ⟨rfl, g⟩
              have hS2 := HN.out _ _ hS1 g
              refine hKK.out _ _ hS2 ?_
              intro _
              clear hKK KK g
              (try simp only [Act.put, List.setIfInBounds_toArray, List.set_cons_zero, List.set_cons_succ])
              iterate 16 (refine HP.take' ?_; (first | (refine ⟨undef, Or.inr ⟨by rfl, rfl⟩, ?_⟩) | (apply Exists.intro; refine ⟨Or.inl ⟨by rfl, ?_⟩, ?_⟩; (intro x hx'; go_simp; first | done | with_reducible rfl))); (try simp only [Act.put, List.setIfInBounds_toArray, List.set_cons_zero, List.set_cons_succ]))
              refine HP.end_ ?_
              refine NoPanic.normal ?_
              have hZ := HGy.out.trans (HV.out _ hS2)
              clear hS0 hS1 hS2 f0 f1 f2 f3 f4 p0 p1 p2 p3 HN HV
              go_wp2
              go_roundw
              case rel => exact ⟨k + 1, _, by omega, by go_num, rfl, HU.out, hZ⟩
              case measure => simp [intOf]; omega
            · have d3 : decide ((m : Int) < 0) = false := by simp
              have c4 := HQ.out m hm
              have hK := HKeep.out m hj hm
              have hY2 : b4 ≤ q[m].sn → UpT q (k + 1) k := fun h => hY (fun m' e h' => by
                obtain rfl : m = m' := by omega
                exact h)
              subst hj
              generalize q[m].sn = s at *
              have hmi : (m : Int) < (q.length : Int) := by omega
              by_cases hs : b4 < s
              · have d4 : decide (b4 < s) = true := by simpa using hs
                have HU := Lib.hid (hY2 (Int.le_of_lt hs))
                clear HNo HYes HKeep hmd hsn HQ HF hY hK hY2 hs
                refine region_plan (.take (.off (.go1 (.take (.take (.off (.go1 (.take (.take (.take (.take (.take (.take (.take (.take (.take (.take (.take (.take (.take (.take (.take (.take .fin))))))))))))))))))))))) (Hs S) (by kernel_rfl) (by kernel_rfl) (by kernel_rfl) hS0 ?_
                iterate 1 (refine HP.take' ?_; (first | (refine ⟨undef, Or.inr ⟨by rfl, rfl⟩, ?_⟩) | (apply Exists.intro; refine ⟨Or.inl ⟨by rfl, ?_⟩, ?_⟩; (intro x hx'; go_simp; first | done | with_reducible rfl))); (try simp only [Act.put, List.setIfInBounds_toArray, List.set_cons_zero, List.set_cons_succ]))
                refine HP.off ?_
                refine HP.go1 (fun KK hKK => ?_)
                go_simp
                refine (HH.out _).mono ?_
                rintro e y1 ⟨rfl, g⟩
                have hS1 := HN.out _ _ hS0 g
                refine hKK.out _ _ hS1 ?_
                intro _
                clear hKK KK g
                (try simp only [Act.put, List.setIfInBounds_toArray, List.set_cons_zero, List.set_cons_succ])
                iterate 2 (refine HP.take' ?_; (first | (refine ⟨undef, Or.inr ⟨by rfl, rfl⟩, ?_⟩) | (apply Exists.intro; refine ⟨Or.inl ⟨by rfl, ?_⟩, ?_⟩; (intro x hx'; go_simp; first | done | with_reducible rfl))); (try simp only [Act.put, List.setIfInBounds_toArray, List.set_cons_zero, List.set_cons_succ]))
                refine HP.off ?_
                refine HP.go1 (fun KK hKK => ?_)
                go_simp
                refine (HWt.out _).mono ?_
                rintro e y2 ⟨rfl, g⟩
                have hS2 := HN.out _ _ hS1 g
                refine hKK.out _ _ hS2 ?_
                intro _
                clear hKK KK g
                (try simp only [Act.put, List.setIfInBounds_toArray, List.set_cons_zero, List.set_cons_succ])
                iterate 16 (refine HP.take' ?_; (first | (refine ⟨undef, Or.inr ⟨by rfl, rfl⟩, ?_⟩) | (apply Exists.intro; refine ⟨Or.inl ⟨by rfl, ?_⟩, ?_⟩; (intro x hx'; go_simp; first | done | with_reducible rfl))); (try simp only [Act.put, List.setIfInBounds_toArray, List.set_cons_zero, List.set_cons_succ]))
                refine HP.end_ ?_
                refine NoPanic.normal ?_
                have hZ := HGy.out.trans (HV.out _ hS2)
                clear hS0 hS1 hS2 f0 f1 f2 f3 f4 p0 p1 p2 p3 HN HV c4
                go_wp2
                go_roundw
                case rel => exact ⟨k + 1, _, by omega, by go_num, rfl, HU.out, hZ⟩
                case measure => simp [intOf]; omega
              · have d4 : decide (b4 < s) = false := by simpa using hs
                have HU := Lib.hid (hK (Int.not_lt.1 hs))
                clear HNo HYes HKeep hmd hsn HQ HF hY hK hY2 hs
                refine region_plan (.take (.off (.go1 (.take (.take (.off (.go1 (.take (.take (.take (.take (.take (.take (.take (.take (.take (.take (.take (.take (.take (.take (.take (.take .fin))))))))))))))))))))))) (Hs S) (by kernel_rfl) (by kernel_rfl) (by kernel_rfl) hS0 ?_
                iterate 1 (refine HP.take' ?_; (first | (refine ⟨undef, Or.inr ⟨by rfl, rfl⟩, ?_⟩) | (apply Exists.intro; refine ⟨Or.inl ⟨by rfl, ?_⟩, ?_⟩; (intro x hx'; go_simp; first | done | with_reducible rfl))); (try simp only [Act.put, List.setIfInBounds_toArray, List.set_cons_zero, List.set_cons_succ]))
                refine HP.off ?_
                refine HP.go1 (fun KK hKK => ?_)
                go_simp
                refine (HH.out _).mono ?_
                rintro e y1 ⟨rfl, g⟩
                have hS1 := HN.out _ _ hS0 g
                refine hKK.out _ _ hS1 ?_
                intro _
                clear hKK KK g
                (try simp only [Act.put, List.setIfInBounds_toArray, List.set_cons_zero, List.set_cons_succ])
                iterate 2 (refine HP.take' ?_; (first | (refine ⟨undef, Or.inr ⟨by rfl, rfl⟩, ?_⟩) | (apply Exists.intro; refine ⟨Or.inl ⟨by rfl, ?_⟩, ?_⟩; (intro x hx'; go_simp; first | done | with_reducible rfl))); (try simp only [Act.put, List.setIfInBounds_toArray, List.set_cons_zero, List.set_cons_succ]))
                refine HP.off ?_
                refine HP.go1 (fun KK hKK => ?_)
                go_simp
                refine (HWt.out _).mono ?_
                rintro e y2 ⟨rfl, g⟩
                have hS2 := HN.out _ _ hS1 g
                refine hKK.out _ _ hS2 ?_
                intro _
                clear hKK KK g
                (try simp only [Act.put, List.setIfInBounds_toArray, List.set_cons_zero, List.set_cons_succ])
                iterate 16 (refine HP.take' ?_; (first | (refine ⟨undef, Or.inr ⟨by rfl, rfl⟩, ?_⟩) | (apply Exists.intro; refine ⟨Or.inl ⟨by rfl, ?_⟩, ?_⟩; (intro x hx'; go_simp; first | done | with_reducible rfl))); (try simp only [Act.put, List.setIfInBounds_toArray, List.set_cons_zero, List.set_cons_succ]))
                refine HP.end_ ?_
                refine NoPanic.normal ?_
                have hZ := HGy.out.trans (HV.out _ hS2)
                clear hS0 hS1 hS2 f0 f1 f2 f3 f4 p0 p1 p2 p3 HN HV c4
                go_wp2
                go_roundw
                case rel => exact ⟨k + 1, _, by omega, by go_num, rfl, HU.out, hZ⟩
                case measure => simp [intOf]; omega
          · have d2 : decide (0 < b4) = false := by simpa using hsn
            rw [d2] at HWt
            have HU := Lib.hid (HNo.out (fun e => hsn e.2))
            clear HNo HYes HKeep hmd hsn HQ HF
            refine region_plan (.take (.off (.go1 (.take (.take (.off (.go1 (.take (.take (.take (.take (.take (.take (.take (.take (.take (.take (.take (.take (.take (.take (.take (.take .fin))))))))))))))))))))))) (Hs S) (by kernel_rfl) (by kernel_rfl) (by kernel_rfl) hS0 ?_
            iterate 1 (refine HP.take' ?_; (first | (refine ⟨undef, Or.inr ⟨by rfl, rfl⟩, ?_⟩) | (apply Exists.intro; refine ⟨Or.inl ⟨by rfl, ?_⟩, ?_⟩; (intro x hx'; go_simp; first | done | with_reducible rfl))); (try simp only [Act.put, List.setIfInBounds_toArray, List.set_cons_zero, List.set_cons_succ]))
            refine HP.off ?_
            refine HP.go1 (fun KK hKK => ?_)
            go_simp
            refine (HH.out _).mono ?_
            rintro e y1 ⟨rfl, g⟩
            have hS1 := HN.out _ _ hS0 g
            refine hKK.out _ _ hS1 ?_
            intro _
            clear hKK KK g
            (try simp only [Act.put, List.setIfInBounds_toArray, List.set_cons_zero, List.set_cons_succ])
            iterate 2 (refine HP.take' ?_; (first | (refine ⟨undef, Or.inr ⟨by rfl, rfl⟩, ?_⟩) | (apply Exists.intro; refine ⟨Or.inl ⟨by rfl, ?_⟩, ?_⟩; (intro x hx'; go_simp; first | done | with_reducible rfl))); (try simp only [Act.put, List.setIfInBounds_toArray, List.set_cons_zero, List.set_cons_succ]))
            refine HP.off ?_
            refine HP.go1 (fun KK hKK => ?_)
            go_simp
            refine (HWt.out _).mono ?_
            rintro e y2 ⟨rfl, g⟩
            have hS2 := HN.out _ _ hS1 g
            refine hKK.out _ _ hS2 ?_
            intro _
            clear hKK KK g
            (try simp only [Act.put, List.setIfInBounds_toArray, List.set_cons_zero, List.set_cons_succ])
            iterate 16 (refine HP.take' ?_; (first | (refine ⟨undef, Or.inr ⟨by rfl, rfl⟩, ?_⟩) | (apply Exists.intro; refine ⟨Or.inl ⟨by rfl, ?_⟩, ?_⟩; (intro x hx'; go_simp; first | done | with_reducible rfl))); (try simp only [Act.put, List.setIfInBounds_toArray, List.set_cons_zero, List.set_cons_succ]))
            refine HP.end_ ?_
            refine NoPanic.normal ?_
            have hZ := HGy.out.trans (HV.out _ hS2)
            clear hS0 hS1 hS2 f0 f1 f2 f3 f4 p0 p1 p2 p3 HN HV
            go_wp2
            go_roundw
            case rel => exact ⟨k + 1, _, by omega, by go_num, rfl, HU.out, hZ⟩
            case measure => simp [intOf]; omega
      · obtain rfl : k = q.length := by omega
        have HG := Lib.hid hG
        have HF := Lib.hid hf
        clear hf hG
        go_wp2
        go_ret
        exact ⟨j, rfl, HZ.out.2.trans HG.out, HF.out⟩

end Go.Proofs.YtodnlelnpidliaaGreat
end

/- The document's own queue: copied, Find, Mode. -/
section
namespace Go.Proofs.YtodnlelnpidliaaGreat
open Go.RowKit
set_option linter.unusedVariables false      -- a contract need not use every name

set_option maxHeartbeats 400000 in
theorem r9copied (t r W : Int) (v : Value) (q : List Rq) (w : World) (hl : q.length ≤ 1000) (h : RqAt w v q) :
    Calls Tryz.prog 57 #[hdV t r v W] w fun e w' => ∃ v', e = .returned (hdV t r v' W) ∧ Nw w w' ∧ RqOwn w' w.heap.size v' q := by
  unfold hdV
  have hN2 : Nw w ((w.alloc (.cells #[.int .i64 t, .int .i64 r, v, .int .i64 W] 56)).alloc (.cells #[.int .i64 0, .int .i64 0, .slice none 0 0, .int .i64 0] 56)) := ((Nw.refl w).alloc _).alloc _
  have hb := hN2.sz
  have hp0 := allocAt w (.cells #[.int .i64 t, .int .i64 r, v, .int .i64 W] 56)
  have hp := ((Nw.refl _).alloc (.cells #[.int .i64 0, .int .i64 0, .slice none 0 0, .int .i64 0] 56)).at' hp0
  have hq := allocAt (w.alloc (.cells #[.int .i64 t, .int .i64 r, v, .int .i64 W] 56)) (.cells #[.int .i64 0, .int .i64 0, .slice none 0 0, .int .i64 0] 56)
  obtain ⟨v', w1, hrun, hO, hN⟩ := own_clone elemRq (h.nw hN2) (by omega)
  have hp1 := hN.at' hp
  have hq1 := hN.at' hq
  have hOl := fun g hg => oge hO (g := g) hg
  obtain ⟨a, c, rfl⟩ := h.form
  obtain ⟨a', c', hv'⟩ := (RqOwn.rd hO).form
  subst hv'
  have hz : w.heap.size + 1 ≤ ((w.alloc (.cells #[.int .i64 t, .int .i64 r, .slice a q.length c, .int .i64 W] 56)).alloc (.cells #[.int .i64 0, .int .i64 0, .slice none 0 0, .int .i64 0] 56)).heap.size := by simp
  have hsz1 : (w.alloc (.cells #[.int .i64 t, .int .i64 r, .slice a q.length c, .int .i64 W] 56)).heap.size = w.heap.size + 1 := by simp
  rw [hsz1] at hq hq1
  have hsz2 : ((w.alloc (.cells #[.int .i64 t, .int .i64 r, .slice a q.length c, .int .i64 W] 56)).alloc (.cells #[.int .i64 0, .int .i64 0, .slice none 0 0, .int .i64 0] 56)).heap.size = w.heap.size + 1 + 1 := by simp
  rw [hsz2] at hrun hO hOl
  have HR := Lib.hid hrun
  have hw1 := hN2.trans hN
  have hz1 : w.heap.size + 1 < w1.heap.size := Nat.lt_of_lt_of_le (by rw [hsz2]; omega) hN.sz
  have hpc : ∀ k, w1.cell? ⟨w.heap.size, k, none⟩ = _ := fun k => hcell (j := k) hp1
  have c0 := hpc 0
  have c1 := hpc 1
  have c2 := hpc 2
  have c3 := hpc 3
  have hqc : ∀ k, w1.cell? ⟨w.heap.size + 1, k, none⟩ = _ := fun k => hcell (j := k) hq1
  have d0 := hqc 0
  have d1 := hqc 1
  have d2 := hqc 2
  have d3 := hqc 3
  have fz := fun k => hfz (j := k) hp1
  have fz' := fun k => hfz (j := k) hq1
  have HX := Lib.hid (And.intro hO (And.intro hw1 (And.intro hp1 (And.intro hq1 hOl))))
  clear hrun hO hw1 hp1 hq1 hp hq hp0 hN hN2 h hb hOl hpc hqc hsz1 hsz2 hz
  go_enter Tryz.func57, Tryz.ntmps57
  go_wp2_with (at_builtin; refine wpl_app (by rfl) (.tmp 3) (.tmp 5) 54 rfl _ _ _ _ rfl rfl HR.out ?_)
  refine bodyPost_ret (v := .agg #[.int .i64 t, .int .i64 r, .slice a' q.length c', .int .i64 W]) (by simp [results, Tryz.results57, go_sem, *]) rfl ⟨_, rfl, ?_, ?_⟩
  · exact ((((HX.out.2.1.st (Nat.le_refl _) _).st (Nat.le_succ _) _).st (Nat.le_succ _) _).st (Nat.le_succ _) _).st (Nat.le_succ _) _
  · have hO := HX.out.1
    have hr := own_st (own_st (own_st (own_st (own_st hO (p := ⟨w.heap.size, 2, none⟩) (by show w.heap.size < _; omega) (.slice a' q.length c')) (p := ⟨w.heap.size + 1, 0, none⟩) (by show w.heap.size + 1 < _; omega) (.int .i64 t)) (p := ⟨w.heap.size + 1, 1, none⟩) (by show w.heap.size + 1 < _; omega) (.int .i64 r)) (p := ⟨w.heap.size + 1, 2, none⟩) (by show w.heap.size + 1 < _; omega) (.slice a' q.length c')) (p := ⟨w.heap.size + 1, 3, none⟩) (by show w.heap.size + 1 < _; omega) (.int .i64 W)
    exact olow hr (fun g hg => by have := oge hr hg; omega)
end Go.Proofs.YtodnlelnpidliaaGreat
end

/- The document's own queue: Find, Mode, Same. -/
section
namespace Go.Proofs.YtodnlelnpidliaaGreat
open Go.RowKit
set_option linter.unusedVariables false      -- a contract need not use every name

def fndV (q : List Rq) (id : Int) : Value := match fnd q id with
  | none => .tuple #[rqV ⟨0, 0, 0, 0, 0⟩, .bool false]
  | some r => .tuple #[rqV r, .bool true]
end Go.Proofs.YtodnlelnpidliaaGreat
end

/- The document's own queue: without. -/
section
namespace Go.Proofs.YtodnlelnpidliaaGreat
open Go.RowKit
set_option linter.unusedVariables false      -- a contract need not use every name

theorem own_pre {w : World} {g0 e size g n cap i : Nat} {xs : List Value} (h : w.ownsRow g0 e size (.slice (some ⟨g, 0, none⟩) n cap) n xs) (hi : i ≤ n) : w.ownsRow g0 e size (.slice (some ⟨g, 0, none⟩) i cap) i (xs.take (i * size)) := by
  obtain ⟨hl, q | ⟨g', cap', cur, e1, hb, hg, hn, hc, hs, ht⟩⟩ := h
  · simp at q
  · simp only [Value.slice.injEq, Option.some.injEq, Addr.mk.injEq, and_true, true_and] at e1
    obtain ⟨rfl, rfl⟩ := e1
    have hm := Nat.mul_le_mul_right size hi
    refine ⟨by rw [List.length_take, hl]; omega, .inr ⟨g, cap, cur, rfl, hb, hg, by omega, hc, hs, ?_⟩⟩
    rw [← ht, List.take_take, Nat.min_eq_left hm]
theorem rows_take {α : Type} {sz : Nat} {row : α → List Value} (hl : ∀ a, (row a).length = sz) (i : Nat) (l : List α) (hi : i ≤ l.length) : (rowsOf row l).take (i * sz) = rowsOf row (l.take i) := by
  have e : rowsOf row l = rowsOf row (l.take i) ++ rowsOf row (l.drop i) := by rw [← rows_app, List.take_append_drop]
  have hll : (rowsOf row (l.take i)).length = i * sz := by rw [rows_len hl, List.length_take, Nat.min_eq_left hi]
  rw [e, ← hll, List.take_left]
theorem Own.pre {w : World} {g0 g n cap : Nat} {q : List Rq} (h : RqOwn w g0 (.slice (some ⟨g, 0, none⟩) n cap) q) (hn : n = q.length) {i : Nat} (hi : i ≤ n) : RqOwn w g0 (.slice (some ⟨g, 0, none⟩) i cap) (q.take i) := by
  subst hn
  have := own_pre h hi
  unfold RqOwn Own
  rw [List.length_take, Nat.min_eq_left hi, ← rows_take (sz := 5) (row := rqrow) (fun _ => rfl) i q hi]
  exact this
theorem own_cap {w : World} {g0 e size g n cap : Nat} {xs : List Value} (h : w.ownsRow g0 e size (.slice (some ⟨g, 0, none⟩) n cap) n xs) : n ≤ cap := by
  obtain ⟨_, q | ⟨g', cap', cur, e1, _, _, hn, _⟩⟩ := h
  · simp at q
  · simp only [Value.slice.injEq] at e1
    rw [e1.2.2]; exact hn
end Go.Proofs.YtodnlelnpidliaaGreat
end

/- The document's own queue: Leave. -/
section
namespace Go.Proofs.YtodnlelnpidliaaGreat
open Go.RowKit
set_option linter.unusedVariables false      -- a contract need not use every name

def capOk : Value → Prop
  | .slice _ n c => n ≤ c
  | _ => True
/-- What a call gives that returns a head and an error. -/
def HR1 (X : Hq × Int) (w : World) (e : Ending) (w' : World) : Prop := ∃ v', e = .returned (.tuple #[hdV X.1.t X.1.r v' X.1.W, .int .i64 X.2]) ∧ Nw w w' ∧ RqAt w' v' X.1.q ∧ capOk v'
/-- A slice whose block is not below a mark. -/
def newV (n : Nat) (v : Value) : Prop := ∀ a l c, v = .slice (some a) l c → n ≤ a.block
theorem newV_nil (n : Nat) : newV n (.slice none 0 0) := fun a l c e => by cases e
theorem RqOwn.newV {w : World} {g0 n : Nat} {v : Value} {q : List Rq} (h : RqOwn w g0 v q) (hn : n ≤ g0) : newV n v := by
  rcases oform h with ⟨rfl, _⟩ | ⟨g, cap, rfl⟩
  · exact newV_nil n
  · intro a l c e
    cases e
    exact Nat.le_trans hn (oge h rfl)
/-- The same, and the row that is returned is new. -/
def HR1n (X : Hq × Int) (w : World) (e : Ending) (w' : World) : Prop := ∃ v', e = .returned (.tuple #[hdV X.1.t X.1.r v' X.1.W, .int .i64 X.2]) ∧ Nw w w' ∧ RqAt w' v' X.1.q ∧ capOk v' ∧ newV w.heap.size v'
theorem HR1n.old {X : Hq × Int} {w : World} {e : Ending} {w' : World} (h : HR1n X w e w') : HR1 X w e w' := by
  obtain ⟨v, h1, h2, h3, h4, _⟩ := h
  exact ⟨v, h1, h2, h3, h4⟩
theorem RqOwn.cap {w : World} {g0 : Nat} {v : Value} {q : List Rq} (h : RqOwn w g0 v q) : capOk v := by
  rcases oform h with ⟨rfl, _⟩ | ⟨g, cap, rfl⟩
  · exact Nat.le_refl _
  · exact own_cap h
/-- The result's box is filled. -/
theorem fill_nw {w a : World} {rb : Nat} (h : Nw w a) (hb : w.heap.size ≤ rb) (u0 u1 u2 u3 : Value) : Nw w ((((a.setCell ⟨rb, 0, none⟩ u0).setCell ⟨rb, 1, none⟩ u1).setCell ⟨rb, 2, none⟩ u2).setCell ⟨rb, 3, none⟩ u3) :=
  (((h.st hb _).st hb _).st hb _).st hb _
theorem fill_own {a : World} {rb g0 : Nat} {v : Value} {q : List Rq} (h : RqOwn a g0 v q) (hb : rb < g0) (u0 u1 u2 u3 : Value) : RqOwn ((((a.setCell ⟨rb, 0, none⟩ u0).setCell ⟨rb, 1, none⟩ u1).setCell ⟨rb, 2, none⟩ u2).setCell ⟨rb, 3, none⟩ u3) g0 v q :=
  own_st (own_st (own_st (own_st h (p := ⟨rb, 0, none⟩) hb u0) (p := ⟨rb, 1, none⟩) hb u1) (p := ⟨rb, 2, none⟩) hb u2) (p := ⟨rb, 3, none⟩) hb u3
theorem two_boxes (w : World) (o1 o2 : Obj) : ((w.alloc o1).alloc o2).heap[w.heap.size]? = some o1 ∧ ((w.alloc o1).alloc o2).heap[w.heap.size + 1]? = some o2 ∧ Nw w ((w.alloc o1).alloc o2) ∧ ((w.alloc o1).alloc o2).heap.size = w.heap.size + 1 + 1 := by
  have hs : (w.alloc o1).heap.size = w.heap.size + 1 := by simp
  refine ⟨((Nw.refl _).alloc o2).at' (allocAt w o1), ?_, ((Nw.refl w).alloc _).alloc _, by simp⟩
  have := allocAt (w.alloc o1) o2
  rwa [hs] at this
end Go.Proofs.YtodnlelnpidliaaGreat
end
