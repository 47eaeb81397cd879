
/- A pool in memory; made, Most, Has, Live. -/
import Derived.Test.YtckbjgcelpmffaaPhH
import Derived.Test.YtckbjgcelpmffaaPoF
import Derived.LaidEqlPtr
namespace Go.Proofs.Ytckbjgcelpmffaa
open Go.RowKit

/-- A pool: the truths of its numbers, the heap of those that are free. -/
structure Po (w : World) (p g : Nat) (v : Value) (l : List Int) (L : List Bool) : Prop where
  self : w.cell? ⟨p, 0, none⟩ = some (.pointer (some ⟨p, 0, none⟩))
  row : w.cell? ⟨p, 1, none⟩ = some (.slice (some ⟨g, 0, none⟩) L.length L.length)
  cells : ∀ i, i < L.length → w.cell? ⟨g, i, none⟩ = some (.bool (L.getD i false)) ∧ w.frozen? ⟨g, i, none⟩ = false
  gl : g < w.heap.size
  hv : IHv w p 2 v l
  hs : IHs l (frI L)
  gp : g ≠ p
  gv : v.ownBlock ≠ some g
  sz : L.length ≤ 128
/-- The places that a pool may write. -/
def PoF (p g : Nat) (v : Value) : Nat → Prop := fun k => k = p ∨ k = g ∨ v.ownBlock = some k
theorem Po.lt {w : World} {p g : Nat} {v : Value} {l : List Int} {L : List Bool} (h : Po w p g v l L) : p < w.heap.size := h.hv.lt
theorem Po.own {w : World} {p g : Nat} {v : Value} {l : List Int} {L : List Bool} (h : Po w p g v l L) : ∀ k, PoF p g v k → k < w.heap.size := by
  rintro k (rfl | rfl | e)
  · exact h.lt
  · exact h.gl
  · exact IS.lt h.hv.row e
theorem Po.tch {S : Nat → Prop} {w w' : World} {p g : Nat} {v : Value} {l : List Int} {L : List Bool} (h : Po w p g v l L) (k : Tch S w w') (hS : ∀ k, PoF p g v k → ¬ S k) : Po w' p g v l L :=
  ⟨(k.cell h.lt (hS _ (.inl rfl))).trans h.self, (k.cell h.lt (hS _ (.inl rfl))).trans h.row, fun i hi => ⟨(k.cell h.gl (hS _ (.inr (.inl rfl)))).trans (h.cells i hi).1, (k.froz h.gl (hS _ (.inr (.inl rfl)))).trans (h.cells i hi).2⟩,
    Nat.lt_of_lt_of_le h.gl k.size, h.hv.tch k (hS _ (.inl rfl)) (fun b e => hS b (.inr (.inr e))), h.hs, h.gp, h.gv, h.sz⟩
theorem Po.nw {w w' : World} {p g : Nat} {v : Value} {l : List Int} {L : List Bool} (h : Po w p g v l L) (k : Nw w w') : Po w' p g v l L := h.tch (Tch.nw (S := fun _ => False) k) (fun _ _ e => e)
theorem Po.llen {w : World} {p g : Nat} {v : Value} {l : List Int} {L : List Bool} (h : Po w p g v l L) : l.length + liv L = L.length := by rw [h.hs.len]; exact frI_len L
/-- The same with the blocks alone named. -/
def Pol (w : World) (p : Nat) (L : List Bool) (F : Nat → Prop) : Prop := ∃ g v l, Po w p g v l L ∧ F = PoF p g v
theorem Pol.own {w : World} {p : Nat} {L : List Bool} {F : Nat → Prop} (h : Pol w p L F) : ∀ k, F k → k < w.heap.size := by
  obtain ⟨g, v, l, h, rfl⟩ := h; exact h.own
theorem Pol.tch {S : Nat → Prop} {w w' : World} {p : Nat} {L : List Bool} {F : Nat → Prop} (h : Pol w p L F) (k : Tch S w w') (hS : ∀ k, F k → ¬ S k) : Pol w' p L F := by
  obtain ⟨g, v, l, h, rfl⟩ := h; exact ⟨g, v, l, h.tch k hS, rfl⟩
theorem Pol.nw {w w' : World} {p : Nat} {L : List Bool} {F : Nat → Prop} (h : Pol w p L F) (k : Nw w w') : Pol w' p L F := by
  obtain ⟨g, v, l, h, rfl⟩ := h; exact ⟨g, v, l, h.nw k, rfl⟩
theorem Pol.sz {w : World} {p : Nat} {L : List Bool} {F : Nat → Prop} (h : Pol w p L F) : L.length ≤ 128 := by obtain ⟨g, v, l, h, rfl⟩ := h; exact h.sz
/-- A step of a pool: what it becomes, and what else may change. -/
def PolTo (w : World) (p : Nat) (F : Nat → Prop) (L : List Bool) (w' : World) : Prop := ∃ F', Pol w' p L F' ∧ (∀ k, F' k → F k ∨ w.heap.size ≤ k) ∧ Tch F w w'
theorem Pol.to {w w' : World} {p : Nat} {L : List Bool} {F : Nat → Prop} (h : Pol w p L F) (k : Nw w w') : PolTo w p F L w' := ⟨F, h.nw k, fun _ e => .inl e, Tch.nw k⟩

/-! ### made -/
theorem pmade_nil (w : World) : Calls Try.prog 26 #[.pointer none] w fun e w' => e = .returned (.bool false) ∧ w = w' := by
  go_enter Try.func26, Try.ntmps26
  go_wp2
  go_ret
  exact ⟨rfl, rfl⟩
theorem infoPool : (Try.prog.info? 49).isSome = true := by kernel_rfl
theorem peql_self (a : Addr) (w : World) : Sem.run Try.prog (binOp .eql 23 (.pointer (some a)) (.pointer (some a))) w = .ok (.bool true) w := by
  obtain ⟨j, hj⟩ := Option.isSome_iff_exists.1 infoPool
  exact run_eql_ptr_same w a Try.underlying23 hj
theorem pmade_yes (p : Nat) (w : World) (h : w.cell? ⟨p, 0, none⟩ = some (.pointer (some ⟨p, 0, none⟩))) : Calls Try.prog 26 #[.pointer (some ⟨p, 0, none⟩)] w fun e w' => e = .returned (.bool true) ∧ w = w' := by
  have he := peql_self
  go_enter Try.func26, Try.ntmps26
  go_wp2
  go_ret
  exact ⟨rfl, rfl⟩

/-! ### Most, Has, Live -/
theorem most_nil (w : World) : Calls Try.prog 15 #[.pointer none] w fun e w' => e = .returned (.int .i64 0) ∧ w = w' := by
  go_enter Try.func15, Try.ntmps15
  go_wp2_with (go_at_call 26; refine (pmade_nil _).mono ?_; rintro e w' ⟨rfl, rfl⟩)
  go_ret
  exact ⟨rfl, rfl⟩
theorem most_at {p g : Nat} {v : Value} {l : List Int} {L : List Bool} {w : World} (h : Po w p g v l L) : Calls Try.prog 15 #[.pointer (some ⟨p, 0, none⟩)] w fun e w' => e = .returned (.int .i64 L.length) ∧ w = w' := by
  have HM := Lib.hid (pmade_yes p w h.self)
  have hr := h.row
  clear h
  go_enter Try.func15, Try.ntmps15
  go_wp2_with (go_at_call 26; refine HM.out.mono ?_; rintro e w' ⟨rfl, rfl⟩)
  go_ret
  exact ⟨rfl, rfl⟩
theorem has_nil (n : Int) (w : World) : Calls Try.prog 13 #[.pointer none, .int .i64 n] w fun e w' => e = .returned (.bool false) ∧ w = w' := by
  by_cases hn : 0 ≤ n
  · have hn' : decide (n < 0) = false := by simpa using hn
    go_enter Try.func13, Try.ntmps13
    go_wp2_with (go_at_call 15; refine (most_nil _).mono ?_; rintro e w' ⟨rfl, rfl⟩)
    go_ret
    exact ⟨rfl, rfl⟩
  · go_enter Try.func13, Try.ntmps13
    go_wp2
    go_ret
    exact ⟨rfl, rfl⟩
theorem has_at {p g : Nat} {v : Value} {l : List Int} {L : List Bool} {w : World} (h : Po w p g v l L) (n : Int) : Calls Try.prog 13 #[.pointer (some ⟨p, 0, none⟩), .int .i64 n] w fun e w' => e = .returned (.bool (hsL L n)) ∧ w = w' := by
  have HM := Lib.hid (most_at h)
  have hr := h.row
  have hsz := h.sz
  have hg := h.gl
  by_cases hn : 0 ≤ n
  · obtain ⟨i, rfl⟩ := Int.eq_ofNat_of_zero_le hn
    by_cases hi : i < L.length
    · have hc := (h.cells i hi).1
      have e : hsL L i = L.getD i false := by simp [hsL]
      rw [e]
      generalize L.getD i false = b at *
      generalize L.length = N at *
      clear h e hn
      go_enter Try.func13, Try.ntmps13
      go_wp2_with (go_at_call 15; refine HM.out.mono ?_; rintro e w' ⟨rfl, rfl⟩)
      go_ret
      exact ⟨rfl, rfl⟩
    · have e : hsL L i = false := by simp [hsL, List.getElem?_eq_none (show L.length ≤ i by omega)]
      rw [e]
      generalize L.length = N at *
      have hd : decide (i < N) = false := by simpa using hi
      clear h e hn hi
      go_enter Try.func13, Try.ntmps13
      go_wp2_with (go_at_call 15; refine HM.out.mono ?_; rintro e w' ⟨rfl, rfl⟩)
      go_ret
      exact ⟨rfl, rfl⟩
  · have e : hsL L n = false := by simp [hsL, hn]
    rw [e]
    clear h e hr
    generalize L.length = N at *
    go_enter Try.func13, Try.ntmps13
    go_wp2
    go_ret
    exact ⟨rfl, rfl⟩
theorem live_nil (w : World) : Calls Try.prog 14 #[.pointer none] w fun e w' => e = .returned (.int .i64 0) ∧ w = w' := by
  go_enter Try.func14, Try.ntmps14
  go_wp2_with (go_at_call 26; refine (pmade_nil _).mono ?_; rintro e w' ⟨rfl, rfl⟩)
  go_ret
  exact ⟨rfl, rfl⟩
theorem ilen_q (a : Option Addr) (n c : Nat) (w : World) : Calls Try.prog 27 #[.slice a n c] w fun e w' => e = .returned (.int .i64 n) ∧ w' = w := (ilen_any a n c w).mono fun _ _ ⟨a, b⟩ => ⟨a, b.symm⟩
theorem live_at {p g : Nat} {v : Value} {l : List Int} {L : List Bool} {w : World} (h : Po w p g v l L) : Calls Try.prog 14 #[.pointer (some ⟨p, 0, none⟩)] w fun e w' => e = .returned (.int .i64 (liv L)) ∧ Nw w w' := by
  have HM := Lib.hid (pmade_yes p w h.self)
  have hr := h.row
  have hsz := h.sz
  have hl := h.llen
  have hd := h.hv.hd
  have hw : IntKind.i64.wrap ((L.length : Int) - (l.length : Int)) = (liv L : Int) := by rw [IntKind.wrap_i64] <;> omega
  have hlt : l.length ≤ 128 := by omega
  have hvf := h.hv.form
  clear h
  generalize L.length = N at *
  generalize hM : l.length = M at *
  generalize liv L = K at *
  have HL := Lib.hid hl
  clear hl
  rcases hvf with ⟨rfl, rfl⟩ | ⟨g2, cap, rfl, _⟩
  · obtain rfl : 0 = M := hM
    obtain rfl : K = N := by have := HL.out; omega
    clear hw
    go_enter Try.func14, Try.ntmps14
    go_wp2_with (go_at_call 26; refine HM.out.mono ?_; rintro e w' ⟨rfl, rfl⟩)
    go_quiet ((go_at_call 27; exact Calls.quiet_of_same (ilen_q _ _ _ _)))
    go_wp2
    go_ret
    exact ⟨rfl, (Nw.refl w).drewN _⟩
  · go_enter Try.func14, Try.ntmps14
    go_wp2_with (go_at_call 26; refine HM.out.mono ?_; rintro e w' ⟨rfl, rfl⟩)
    go_quiet ((go_at_call 27; exact Calls.quiet_of_same (ilen_q _ _ _ _)))
    go_wp2
    go_ret
    exact ⟨rfl, (Nw.refl w).drewN _⟩
end Go.Proofs.Ytckbjgcelpmffaa
