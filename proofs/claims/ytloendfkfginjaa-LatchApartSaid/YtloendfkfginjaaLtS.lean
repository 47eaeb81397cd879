
/- Latches of the call's own, step by step; lives. -/
import Derived.Test.YtloendfkfginjaaLtC
namespace Go.Proofs.Ytloendfkfginjaa
open Go.RowKit

structure Acc (w W : World) (l : Nat) (hs : List Int) (F : Nat → Prop) : Prop where
  lat : Lat W l F hs
  new : ∀ k, F k → w.heap.size ≤ k
  nw : Nw w W
theorem Acc.step {w W W' : World} {l : Nat} {hs : List Int} {F : Nat → Prop} (h : Acc w W l hs F) (k : Nw W W') : Acc w W' l hs F := ⟨h.lat.nw k, h.new, h.nw.trans k⟩
theorem Acc.other {w W W' : World} {l : Nat} {hs : List Int} {F F2 : Nat → Prop} (h : Acc w W l hs F) (k : Tch F2 W W') (h2 : ∀ i, F2 i → w.heap.size ≤ i) (hd : ∀ i, F i → ¬ F2 i) : Acc w W' l hs F :=
  ⟨h.lat.tch k hd, h.new, nw_tch h.nw k h2⟩
theorem Acc.vl {w W : World} {l : Nat} {hs : List Int} {F : Nat → Prop} (h : Acc w W l hs F) : Vl hs := h.lat.vl
theorem acc_bad (n : Int) (W : World) (hn : ¬ (1 ≤ n ∧ n ≤ 16)) : Calls Try.prog 9 #[.int .i64 n] W fun e W' => e = .returned (.tuple #[.pointer none, .int .i64 2]) ∧ W = W' :=
  (new_any n W).mono fun _ _ h => h.1 hn
theorem acc_new (w W : World) (hW : Nw w W) (n : Int) (N : Nat) (hn : n = N) (n0 : 1 ≤ N) (n1 : N ≤ 16) :
    Calls Try.prog 9 #[.int .i64 n] W fun e W' => ∃ l F, e = .returned (.tuple #[.pointer (some ⟨l, 0, none⟩), .int .i64 0]) ∧ Acc w W' l (List.replicate N (-1)) F ∧ (∀ k, F k → W.heap.size ≤ k) ∧ Nw W W' := by
  subst hn
  refine (new_any N W).mono ?_
  rintro e W' h
  obtain ⟨l, F, rfl, h1, h2, _, h4⟩ := h.2 ⟨by omega, by omega⟩
  exact ⟨l, F, rfl, ⟨by simpa using h1, fun k e => Nat.le_trans hW.sz (h2 k e), hW.trans h4⟩, h2, h4⟩
/-- A step of latches of the call's own. -/
def AccTo (w W : World) (l : Nat) (hs : List Int) (F : Nat → Prop) (W' : World) : Prop := ∃ F', Acc w W' l hs F' ∧ (∀ k, F' k → F k ∨ W.heap.size ≤ k) ∧ Tch F W W'
theorem Acc.to {w W W' : World} {l : Nat} {hs hs' : List Int} {F : Nat → Prop} (h : Acc w W l hs F) (k : LaTo W l F hs' W') : AccTo w W l hs' F W' := by
  obtain ⟨F', h1, h2, h3⟩ := k
  exact ⟨F', ⟨h1, fun k e => (h2 k e).elim (h.new k) (fun q => Nat.le_trans h.nw.sz q), nw_tch h.nw h3 h.new⟩, h2, h3⟩
theorem acc_try {w W : World} {l : Nat} {hs : List Int} {F : Nat → Prop} (h : Acc w W l hs F) (k t : Int) (b : Bool) (E : Int) (hs' : List Int) (hR : tryR hs k t = (b, E)) (hS : tryS hs k t = hs') :
    Calls Try.prog 10 #[.pointer (some ⟨l, 0, none⟩), .int .i64 k, .int .i64 t] W fun e W' => e = .returned (.tuple #[.bool b, .int .i64 E]) ∧ AccTo w W l hs' F W' := by
  obtain ⟨g, hl⟩ := h.lat
  refine (try_at l g F hs k t W hl).mono ?_
  rintro e W' ⟨h1, h2⟩
  rw [hR] at h1
  rw [hS] at h2
  exact ⟨h1, h.to h2⟩
theorem acc_free {w W : World} {l : Nat} {hs : List Int} {F : Nat → Prop} (h : Acc w W l hs F) (k t : Int) (E : Int) (hs' : List Int) (hR : freeE hs k t = E) (hS : freeS hs k t = hs') :
    Calls Try.prog 11 #[.pointer (some ⟨l, 0, none⟩), .int .i64 k, .int .i64 t] W fun e W' => e = .returned (.int .i64 E) ∧ AccTo w W l hs' F W' := by
  obtain ⟨g, hl⟩ := h.lat
  refine (free_at l g F hs k t W hl).mono ?_
  rintro e W' ⟨h1, h2⟩
  rw [hR] at h1
  rw [hS] at h2
  exact ⟨h1, h.to h2⟩
theorem acc_holder {w W : World} {l : Nat} {hs : List Int} {F : Nat → Prop} (h : Acc w W l hs F) (k x : Int) (b : Bool) (hR : holdR hs k = (x, b)) :
    Calls Try.prog 12 #[.pointer (some ⟨l, 0, none⟩), .int .i64 k] W fun e W' => e = .returned (.tuple #[.int .i64 x, .bool b]) ∧ W = W' := by
  obtain ⟨g, hl⟩ := h.lat
  refine (holder_at l g F hs k W hl).mono ?_
  rintro e W' ⟨h1, h2⟩
  rw [hR] at h1
  exact ⟨h1, h2⟩
theorem acc_held {w W : World} {l : Nat} {hs : List Int} {F : Nat → Prop} (h : Acc w W l hs F) (t : Int) (zs : List Int) (hR : heldL hs t = zs) :
    Calls Try.prog 14 #[.pointer (some ⟨l, 0, none⟩), .int .i64 t] W (NewIS W zs) := by
  obtain ⟨g, hl⟩ := h.lat
  subst hR
  exact held_at l g F hs t W hl
theorem acc_len {w W : World} {l : Nat} {hs : List Int} {F : Nat → Prop} (h : Acc w W l hs F) (N : Nat) (hN : hs.length = N) :
    Calls Try.prog 15 #[.pointer (some ⟨l, 0, none⟩)] W fun e W' => e = .returned (.int .i64 N) ∧ W = W' := by
  obtain ⟨g, hl⟩ := h.lat
  subst hN
  exact len_at l g F hs W hl
theorem acc_taken {w W : World} {l : Nat} {hs : List Int} {F : Nat → Prop} (h : Acc w W l hs F) (N : Nat) (hN : takL hs = N) :
    Calls Try.prog 16 #[.pointer (some ⟨l, 0, none⟩)] W fun e W' => e = .returned (.int .i64 N) ∧ W = W' := by
  obtain ⟨g, hl⟩ := h.lat
  subst hN
  exact taken_at l g F hs W hl

set_option maxHeartbeats 1000000 in
theorem lives_ok (w : World) : Calls Try.prog 8 #[] w fun e w' => e = .returned (.bool true) ∧ Nw w w' := by
  go_enter Try.func8, Try.ntmps8
  go_wp2_with fail
  refine (acc_new w w (Nw.refl w) 1 1 rfl (by omega) (by omega)).mono ?_
  rintro e w1 ⟨c, F1, rfl, h1, _, _⟩
  have H1 := Lib.hid h1
  clear h1
  go_wp2_with fail
  refine (acc_try H1.out 0 1 true 0 [1] (by decide) (by decide)).mono ?_
  rintro e w2 ⟨rfl, F2, h2, _, _⟩
  have H2 := Lib.hid h2
  clear h2
  go_wp2_with fail
  refine (acc_try H2.out 0 2 false 0 [1] (by decide) (by decide)).mono ?_
  rintro e w3 ⟨rfl, F3, h3, _, _⟩
  have H3 := Lib.hid h3
  clear h3
  go_wp2_with fail
  refine (acc_free H3.out 0 1 0 [-1] (by decide) (by decide)).mono ?_
  rintro e w4 ⟨rfl, F4, h4, _, _⟩
  have H4 := Lib.hid h4
  clear h4
  go_wp2_with fail
  refine (acc_try H4.out 0 2 true 0 [2] (by decide) (by decide)).mono ?_
  rintro e w5 ⟨rfl, F5, h5, _, _⟩
  have H5 := Lib.hid h5
  clear h5
  go_wp2
  go_ret
  exact ⟨rfl, H5.out.nw⟩
end Go.Proofs.Ytloendfkfginjaa
