
/- The document's own queue: at, waiting, fits. -/
import Derived.Test.YtmciiobncfchlaaQuC
namespace Go.Proofs.Ytmciiobncfchlaa
open Go.RowKit
set_option linter.unusedVariables false      -- a contract need not use every name

/-- The place of a request. -/
def AtIs (q : List Rq) (id i : Int) : Prop := (i = -1 ∧ fnd q id = none) ∨ ∃ k : Nat, i = k ∧ ∃ h : k < q.length, fnd q id = some q[k]
theorem fnd_take {q : List Rq} {id : Int} {k : Nat} (hk : k < q.length) (h : fnd (q.take k) id = none) (e : q[k].id = id) : fnd q id = some q[k] := by
  have e2 : q = q.take k ++ q[k] :: q.drop (k + 1) := by rw [← List.drop_eq_getElem_cons hk, List.take_append_drop]
  have : fnd (q.take k ++ q[k] :: q.drop (k + 1)) id = some q[k] := by
    unfold fnd at h ⊢
    rw [List.find?_append, h, List.find?_cons]
    simp [e]
  rwa [← e2] at this
theorem fnd_step {q : List Rq} {id : Int} {k : Nat} (hk : k < q.length) (h : fnd (q.take k) id = none) (e : q[k].id ≠ id) : fnd (q.take (k + 1)) id = none := by
  unfold fnd at h ⊢
  rw [List.take_add_one, List.getElem?_eq_getElem hk, List.find?_append, h]
  simp [e]
/-- A head in its box, ahead of a loop. -/
theorem box_start (w : World) (t r W : Int) (v : Value) (q : List Rq) (T : TypeId) (h : RqAt w v q) :
    HBox (w.alloc (.cells #[.int .i64 t, .int .i64 r, v, .int .i64 W] T)) w.heap.size t r v W ∧ RqAt (w.alloc (.cells #[.int .i64 t, .int .i64 r, v, .int .i64 W] T)) v q ∧ Nw w (w.alloc (.cells #[.int .i64 t, .int .i64 r, v, .int .i64 W] T)) :=
  ⟨HBox.made w t r v W T, h.nw ((Nw.refl w).alloc _), (Nw.refl w).alloc _⟩
set_option maxRecDepth 100000 in
set_option maxHeartbeats 2000000 in
theorem r9at (t r W id : Int) (v : Value) (q : List Rq) (w : World) (hl : q.length ≤ 1000) (h : RqAt w v q) :
    Calls Try.prog 60 #[hdV t r v W, .int .i64 id] w fun e w' => ∃ i, e = .returned (.int .i64 i) ∧ Nw w w' ∧ AtIs q id i := by
  unfold hdV
  obtain ⟨a, c, rfl, ⟨rfl, _⟩ | ⟨b, o, rfl, hc⟩⟩ := h
  · go_enter Try.func60, Try.ntmps60
    go_wp2
    refine wp_loop_rounds 1 ?_
    repeat (rw [rounds_succ]; go_wp2)
    go_ret
    exact ⟨-1, rfl, (Nw.refl _).alloc _, .inl ⟨rfl, rfl⟩⟩
  · have HA : Hid (∀ k (hk : k < q.length), fnd (q.take k) id = none → q[k].id = id → AtIs q id (k : Int)) := Lib.hid fun k hk h1 h2 => .inr ⟨k, rfl, hk, fnd_take hk h1 h2⟩
    have HC := Lib.hid hc
    clear hc
    go_enter Try.func60, Try.ntmps60
    go_wp2
    have hB := HBox.made w t r (.slice (some ⟨b, o, none⟩) q.length c) W 27
    have hN : Nw w (w.alloc (.cells #[.int .i64 t, .int .i64 r, .slice (some ⟨b, o, none⟩) q.length c, .int .i64 W] 27)) := (Nw.refl w).alloc _
    obtain ⟨p, hp⟩ : ∃ p, w.heap.size = p := ⟨_, rfl⟩
    rw [hp] at hB
    rw [hp]
    clear hp
    generalize w.alloc (.cells #[.int .i64 t, .int .i64 r, .slice (some ⟨b, o, none⟩) q.length c, .int .i64 W] 27) = z at *
    have HZ := Lib.hid (And.intro hB hN)
    have HR := Lib.hid (HC.out.nw hN)
    clear hB hN HC
    go_loopw [5] (fun i wr => ∃ k : Nat, k ≤ q.length ∧ i = .int .i64 k ∧ fnd (q.take k) id = none ∧ Nw z wr) (fun i _ => q.length - (intOf i).toNat)
    case atStart => exact ⟨0, Nat.zero_le _, rfl, rfl, Nw.refl _⟩
    case round =>
      obtain ⟨k, hk, rfl, hf, hG⟩ := hrel
      have hb := HZ.out.1.nw hG
      have h0 := hb.c0
      have h1 := hb.c1
      have h2 := hb.c2
      have h3 := hb.c3
      clear hb
      have HG := Lib.hid (HZ.out.2.trans hG)
      have HG2 := Lib.hid hG
      by_cases hlt : k < q.length
      · have hce := (HR.out.nw hG).cell k hlt
        have HA2 := Lib.hid (HA.out k hlt hf)
        have HS := Lib.hid (fun e => fnd_step hlt hf e)
        generalize q[k] = R at *
        obtain ⟨b0, b1, b2, b3, b4⟩ := R
        have e0 := hce 0 _ rfl
        simp only [Nat.add_zero] at e0
        clear hce hf hG
        by_cases he : b0 = id
        · have d : (b0 == id) = true := by simpa using he
          have hr := HA2.out he
          have HR2 := Lib.hid hr
          clear he hr
          go_wp2
          go_ret
          exact ⟨_, rfl, HG.out, HR2.out⟩
        · have d : (b0 == id) = false := by simpa using he
          have HS2 := Lib.hid (HS.out he)
          clear he HS HA2
          go_wp2
          go_roundw
          case rel => exact ⟨k + 1, by omega, by go_num, HS2.out, HG2.out⟩
          case measure => simp [intOf]; omega
      · obtain rfl : k = q.length := by omega
        rw [List.take_length] at hf
        have HF := Lib.hid hf
        clear hf hG
        go_wp2
        go_ret
        exact ⟨-1, rfl, HG.out, .inl ⟨rfl, HF.out⟩⟩
/-- The place of the first one that waits without holding. -/
def WaIs (q : List Rq) (i : Int) : Prop := (i = -1 ∧ ∀ a ∈ q, a.md ≠ 0) ∨ ∃ k : Nat, i = k ∧ ∃ h : k < q.length, q[k].md = 0 ∧ ∀ a ∈ q.take k, a.md ≠ 0
theorem take_mem {α : Type} {l : List α} {k : Nat} (hk : k < l.length) {x : α} (hx : x ∈ l.take (k + 1)) : x ∈ l.take k ∨ x = l[k] := by
  rw [List.take_add_one, List.getElem?_eq_getElem hk] at hx
  rcases List.mem_append.1 hx with h | h
  · exact .inl h
  · simp at h; exact .inr h
set_option maxRecDepth 100000 in
set_option maxHeartbeats 2000000 in
theorem r9waiting (t r W : Int) (v : Value) (q : List Rq) (w : World) (hl : q.length ≤ 1000) (h : RqAt w v q) :
    Calls Try.prog 64 #[hdV t r v W] w fun e w' => ∃ i, e = .returned (.int .i64 i) ∧ Nw w w' ∧ WaIs q i := by
  unfold hdV
  obtain ⟨a, c, rfl, ⟨rfl, _⟩ | ⟨b, o, rfl, hc⟩⟩ := h
  · go_enter Try.func64, Try.ntmps64
    go_wp2
    refine wp_loop_rounds 1 ?_
    repeat (rw [rounds_succ]; go_wp2)
    go_ret
    exact ⟨-1, rfl, (Nw.refl _).alloc _, .inl ⟨rfl, by simp⟩⟩
  · have HC := Lib.hid hc
    clear hc
    go_enter Try.func64, Try.ntmps64
    go_wp2
    have hB := HBox.made w t r (.slice (some ⟨b, o, none⟩) q.length c) W 27
    have hN : Nw w (w.alloc (.cells #[.int .i64 t, .int .i64 r, .slice (some ⟨b, o, none⟩) q.length c, .int .i64 W] 27)) := (Nw.refl w).alloc _
    obtain ⟨p, hp⟩ : ∃ p, w.heap.size = p := ⟨_, rfl⟩
    rw [hp] at hB
    rw [hp]
    clear hp
    generalize w.alloc (.cells #[.int .i64 t, .int .i64 r, .slice (some ⟨b, o, none⟩) q.length c, .int .i64 W] 27) = z at *
    have HZ := Lib.hid (And.intro hB hN)
    have HR := Lib.hid (HC.out.nw hN)
    clear hB hN HC
    go_loopw [3] (fun i wr => ∃ k : Nat, k ≤ q.length ∧ i = .int .i64 k ∧ (∀ a ∈ q.take k, a.md ≠ 0) ∧ Nw z wr) (fun i _ => q.length - (intOf i).toNat)
    case atStart => exact ⟨0, Nat.zero_le _, rfl, by simp, Nw.refl _⟩
    case round =>
      obtain ⟨k, hk, rfl, hf, hG⟩ := hrel
      have hb := HZ.out.1.nw hG
      have h0 := hb.c0
      have h1 := hb.c1
      have h2 := hb.c2
      have h3 := hb.c3
      clear hb
      by_cases hlt : k < q.length
      · have hce := (HR.out.nw hG).cell k hlt
        have HA2 := Lib.hid (show q[k].md = 0 → WaIs q (k : Int) from fun e => .inr ⟨k, rfl, hlt, e, hf⟩)
        have HS := Lib.hid (show q[k].md ≠ 0 → ∀ a ∈ q.take (k + 1), a.md ≠ 0 from fun e a ha => by
          rcases take_mem hlt ha with h | rfl
          · exact hf a h
          · exact e)
        generalize q[k] = R at *
        obtain ⟨b0, b1, b2, b3, b4⟩ := R
        have e0 := hce 0 _ rfl
        have e1 := hce 1 _ rfl
        have e2 := hce 2 _ rfl
        have e3 := hce 3 _ rfl
        have e4 := hce 4 _ rfl
        simp only [Nat.add_zero] at e0
        have HG := Lib.hid hG
        clear hce hf hG
        go_wp2_with fail
        refine (r9holds _ _ _ _ _ _).mono ?_
        rintro e w2 ⟨rfl, g2⟩
        have HG3 := Lib.hid (HG.out.trans g2)
        have n0 := g2.kp h0
        have n1 := g2.kp h1
        have n2 := g2.kp h2
        have n3 := g2.kp h3
        clear h0 h1 h2 h3 e0 e1 e2 e3 e4 g2 HG
        by_cases he : b2 = 0
        · have d : (b2 != 0) = false := by simpa using he
          have HR2 := Lib.hid (HA2.out he)
          clear he HA2 HS
          go_wp2
          go_ret
          exact ⟨_, rfl, HZ.out.2.trans HG3.out, HR2.out⟩
        · have d : (b2 != 0) = true := by simpa using he
          have HS2 := Lib.hid (HS.out he)
          clear he HS HA2
          go_wp2
          go_roundw
          case rel => exact ⟨k + 1, by omega, by go_num, HS2.out, HG3.out⟩
          case measure => simp [intOf]; omega
      · obtain rfl : k = q.length := by omega
        rw [List.take_length] at hf
        have HF := Lib.hid hf
        have HG := Lib.hid hG
        clear hf hG
        go_wp2
        go_ret
        exact ⟨-1, rfl, HZ.out.2.trans HG.out, .inl ⟨rfl, HF.out⟩⟩
/-- Is a mode compatible with all that hold, but the one at a place? -/
def fitI (q : List Rq) (m but : Int) : Prop := ∀ k (h : k < q.length), (k : Int) ≠ but → q[k].md ≠ 0 → cpI q[k].md m = true
set_option maxRecDepth 100000 in
set_option maxHeartbeats 4000000 in
theorem r9fits (t r W m but : Int) (v : Value) (q : List Rq) (w : World) (hl : q.length ≤ 1000) (h : RqAt w v q) :
    Calls Try.prog 65 #[hdV t r v W, .int .i64 m, .int .i64 but] w fun e w' => ∃ f, e = .returned (.bool f) ∧ Nw w w' ∧ (f = true ↔ fitI q m but) := by
  unfold hdV
  obtain ⟨a, c, rfl, ⟨rfl, _⟩ | ⟨b, o, rfl, hc⟩⟩ := h
  · go_enter Try.func65, Try.ntmps65
    go_wp2
    refine wp_loop_rounds 1 ?_
    repeat (rw [rounds_succ]; go_wp2)
    go_ret
    exact ⟨true, rfl, (Nw.refl _).alloc _, by simp [fitI]⟩
  · have HC := Lib.hid hc
    clear hc
    go_enter Try.func65, Try.ntmps65
    go_wp2
    have hB := HBox.made w t r (.slice (some ⟨b, o, none⟩) q.length c) W 27
    have hN : Nw w (w.alloc (.cells #[.int .i64 t, .int .i64 r, .slice (some ⟨b, o, none⟩) q.length c, .int .i64 W] 27)) := (Nw.refl w).alloc _
    obtain ⟨p, hp⟩ : ∃ p, w.heap.size = p := ⟨_, rfl⟩
    rw [hp] at hB
    rw [hp]
    clear hp
    generalize w.alloc (.cells #[.int .i64 t, .int .i64 r, .slice (some ⟨b, o, none⟩) q.length c, .int .i64 W] 27) = z at *
    have HZ := Lib.hid (And.intro hB hN)
    have HR := Lib.hid (HC.out.nw hN)
    clear hB hN HC
    go_loopw [7] (fun i wr => ∃ k : Nat, k ≤ q.length ∧ i = .int .i64 k ∧ (∀ j (h : j < q.length), j < k → (j : Int) ≠ but → q[j].md ≠ 0 → cpI q[j].md m = true) ∧ Nw z wr) (fun i _ => q.length - (intOf i).toNat)
    case atStart => exact ⟨0, Nat.zero_le _, rfl, fun j _ h => absurd h (Nat.not_lt_zero _), Nw.refl _⟩
    case round =>
      obtain ⟨k, hk, rfl, hf, hG⟩ := hrel
      have hb := HZ.out.1.nw hG
      have h0 := hb.c0
      have h1 := hb.c1
      have h2 := hb.c2
      have h3 := hb.c3
      clear hb
      by_cases hlt : k < q.length
      · have hRw := HR.out.nw hG
        have hce := hRw.cell k hlt
        have HA2 := Lib.hid (show (k : Int) ≠ but → q[k].md ≠ 0 → cpI q[k].md m = false → ¬ fitI q m but from fun e1 e2 e3 h => by
          have := h k hlt e1 e2
          rw [e3] at this; cases this)
        have HS := Lib.hid (show ((k : Int) ≠ but → q[k].md ≠ 0 → cpI q[k].md m = true) → ∀ j (h : j < q.length), j < k + 1 → (j : Int) ≠ but → q[j].md ≠ 0 → cpI q[j].md m = true from fun e j hj hjk => by
          rcases Nat.lt_or_ge j k with g | g
          · exact hf j hj g
          · obtain rfl : j = k := by omega
            exact e)
        have hCP := fun w => r1comp q[k].md m w
        generalize q[k] = R at *
        obtain ⟨b0, b1, b2, b3, b4⟩ := R
        have e0 := hce 0 _ rfl
        have e1 := hce 1 _ rfl
        have e2 := hce 2 _ rfl
        have e3 := hce 3 _ rfl
        have e4 := hce 4 _ rfl
        simp only [Nat.add_zero] at e0
        have HG := Lib.hid hG
        simp only at hCP
        obtain ⟨x, hx⟩ : ∃ x, cpI b2 m = x := ⟨_, rfl⟩
        simp only at HA2 HS
        have CP := Lib.hid hCP
        clear hce hf hG hCP hRw
        by_cases hbu : (k : Int) = but
        · have d : ((k : Int) != but) = false := by simpa using hbu
          have HS2 := Lib.hid (HS.out (fun e => absurd hbu e))
          clear hbu HS HA2 CP hx
          go_wp2
          go_roundw
          case rel => exact ⟨k + 1, by omega, by go_num, HS2.out, HG.out⟩
          case measure => simp [intOf]; omega
        · have d : ((k : Int) != but) = true := by simpa using hbu
          by_cases he : b2 = 0
          · have d2 : (b2 != 0) = false := by simpa using he
            have HS2 := Lib.hid (HS.out (fun _ e => absurd he e))
            clear hbu he HS HA2 CP hx
            go_wp2_with fail
            refine (r9holds _ _ _ _ _ _).mono ?_
            rintro e w2 ⟨rfl, g2⟩
            have HG3 := Lib.hid (HG.out.trans g2)
            have n0 := g2.kp h0
            have n1 := g2.kp h1
            have n2 := g2.kp h2
            have n3 := g2.kp h3
            clear h0 h1 h2 h3 e0 e1 e2 e3 e4 g2 HG
            go_wp2
            go_roundw
            case rel => exact ⟨k + 1, by omega, by go_num, HS2.out, HG3.out⟩
            case measure => simp [intOf]; omega
          · have d2 : (b2 != 0) = true := by simpa using he
            have HA3 := Lib.hid (HA2.out hbu he)
            have HS3 := Lib.hid (show cpI b2 m = true → _ from fun c => HS.out (fun _ _ => c))
            clear hbu he HS HA2
            go_wp2_with fail
            refine (r9holds _ _ _ _ _ _).mono ?_
            rintro e w2 ⟨rfl, g2⟩
            replace h0 := g2.kp h0
            replace h1 := g2.kp h1
            replace h2 := g2.kp h2
            replace h3 := g2.kp h3
            replace e0 := g2.kp e0
            replace e1 := g2.kp e1
            replace e2 := g2.kp e2
            replace e3 := g2.kp e3
            replace e4 := g2.kp e4
            have HG3 := Lib.hid (HG.out.trans g2)
            clear g2 HG
            go_wp2_with fail
            refine (CP.out _).mono ?_
            rintro e w3 ⟨rfl, g3⟩
            have HG4 := Lib.hid (HG3.out.trans g3)
            have n0 := g3.kp h0
            have n1 := g3.kp h1
            have n2 := g3.kp h2
            have n3 := g3.kp h3
            clear h0 h1 h2 h3 e0 e1 e2 e3 e4 g3 HG3 CP
            cases x
            · have HA4 := Lib.hid (HA3.out hx)
              clear HA3 HS3
              go_wp2
              go_ret
              exact ⟨false, rfl, HZ.out.2.trans HG4.out, by simpa using HA4.out⟩
            · have HS4 := Lib.hid (HS3.out hx)
              clear HA3 HS3
              go_wp2
              go_roundw
              case rel => exact ⟨k + 1, by omega, by go_num, HS4.out, HG4.out⟩
              case measure => simp [intOf]; omega
      · obtain rfl : k = q.length := by omega
        have HF := Lib.hid (show fitI q m but from fun k hk => hf k hk hk)
        have HG := Lib.hid hG
        clear hf hG
        go_wp2
        go_ret
        exact ⟨true, rfl, HZ.out.2.trans HG.out, by simpa using HF.out⟩
end Go.Proofs.Ytmciiobncfchlaa
