
/- Latches in memory; made, Len, has, check, Holder. -/
import Derived.Test.YtloendfkfginjaaLtM
import Derived.Test.YtloendfkfginjaaInts
import Derived.LaidEqlPtr
namespace Go.Proofs.Ytloendfkfginjaa
open Go.RowKit

/-- A place of the row: nil, or a box with the thread. -/
def Slot (w : World) (g : Nat) (F : Nat → Prop) (i : Nat) (x : Int) : Prop :=
  w.frozen? ⟨g, i, none⟩ = false ∧ ((x = -1 ∧ w.cell? ⟨g, i, none⟩ = some (.pointer none)) ∨ (0 ≤ x ∧ ∃ b, F b ∧ b ≠ g ∧ w.cell? ⟨g, i, none⟩ = some (.pointer (some ⟨b, 0, none⟩)) ∧ w.cell? ⟨b, 0, none⟩ = some (.int .i64 x)))
structure La (w : World) (l g : Nat) (F : Nat → Prop) (hs : List Int) : Prop where
  self : w.cell? ⟨l, 0, none⟩ = some (.pointer (some ⟨l, 0, none⟩))
  row : w.cell? ⟨l, 1, none⟩ = some (.slice (some ⟨g, 0, none⟩) hs.length hs.length)
  vl : Vl hs
  lF : F l
  gF : F g
  lg : l ≠ g
  own : ∀ k, F k → k < w.heap.size
  sl : ∀ i, i < hs.length → Slot w g F i (ho hs i)
theorem La.tch {S : Nat → Prop} {w w' : World} {l g : Nat} {F : Nat → Prop} {hs : List Int} (h : La w l g F hs) (k : Tch S w w') (hS : ∀ k, F k → ¬ S k) : La w' l g F hs := by
  have c : ∀ b o, F b → w'.cell? ⟨b, o, none⟩ = w.cell? ⟨b, o, none⟩ := fun b o hb => k.cell (h.own b hb) (hS b hb)
  refine ⟨(c _ _ h.lF).trans h.self, (c _ _ h.lF).trans h.row, h.vl, h.lF, h.gF, h.lg, fun b hb => Nat.lt_of_lt_of_le (h.own b hb) k.size, fun i hi => ?_⟩
  obtain ⟨f, q⟩ := h.sl i hi
  refine ⟨(k.froz (h.own g h.gF) (hS g h.gF)).trans f, ?_⟩
  rcases q with ⟨x, q⟩ | ⟨x, b, b1, b2, b3, b4⟩
  · exact .inl ⟨x, (c _ _ h.gF).trans q⟩
  · exact .inr ⟨x, b, b1, b2, (c _ _ h.gF).trans b3, (c _ _ b1).trans b4⟩
theorem La.nw {w w' : World} {l g : Nat} {F : Nat → Prop} {hs : List Int} (h : La w l g F hs) (k : Nw w w') : La w' l g F hs := h.tch (Tch.nw (S := fun _ => False) k) (fun _ _ e => e)
def Lat (w : World) (l : Nat) (F : Nat → Prop) (hs : List Int) : Prop := ∃ g, La w l g F hs
theorem Lat.own {w : World} {l : Nat} {F : Nat → Prop} {hs : List Int} (h : Lat w l F hs) : ∀ k, F k → k < w.heap.size := by obtain ⟨g, h⟩ := h; exact h.own
theorem Lat.vl {w : World} {l : Nat} {F : Nat → Prop} {hs : List Int} (h : Lat w l F hs) : Vl hs := by obtain ⟨g, h⟩ := h; exact h.vl
theorem Lat.tch {S : Nat → Prop} {w w' : World} {l : Nat} {F : Nat → Prop} {hs : List Int} (h : Lat w l F hs) (k : Tch S w w') (hS : ∀ k, F k → ¬ S k) : Lat w' l F hs := by obtain ⟨g, h⟩ := h; exact ⟨g, h.tch k hS⟩
theorem Lat.nw {w w' : World} {l : Nat} {F : Nat → Prop} {hs : List Int} (h : Lat w l F hs) (k : Nw w w') : Lat w' l F hs := by obtain ⟨g, h⟩ := h; exact ⟨g, h.nw k⟩

/-! ### made, Len, has, check -/
theorem made_nil (w : World) : Calls Try.prog 27 #[.pointer none] w fun e w' => e = .returned (.bool false) ∧ w = w' := by
  go_enter Try.func27, Try.ntmps27
  go_wp2
  go_ret
  exact ⟨rfl, rfl⟩
theorem infoL : (Try.prog.info? 48).isSome = true := by kernel_rfl
theorem eql_self (a : Addr) (w : World) : Sem.run Try.prog (binOp .eql 23 (.pointer (some a)) (.pointer (some a))) w = .ok (.bool true) w := by
  obtain ⟨j, hj⟩ := Option.isSome_iff_exists.1 infoL
  exact run_eql_ptr_same w a Try.underlying23 hj
theorem made_yes (l g : Nat) (F : Nat → Prop) (hs : List Int) (w : World) (h : La w l g F hs) : Calls Try.prog 27 #[.pointer (some ⟨l, 0, none⟩)] w fun e w' => e = .returned (.bool true) ∧ w = w' := by
  have he := eql_self
  have h0 := h.self
  clear h
  go_enter Try.func27, Try.ntmps27
  go_wp2
  go_ret
  exact ⟨rfl, rfl⟩
theorem len_nil (w : World) : Calls Try.prog 15 #[.pointer none] w fun e w' => e = .returned (.int .i64 0) ∧ w = w' := by
  go_enter Try.func15, Try.ntmps15
  go_wp2_with (go_at_call 27; refine (made_nil _).mono ?_; rintro e w' ⟨rfl, rfl⟩)
  go_ret
  exact ⟨rfl, rfl⟩
theorem len_at (l g : Nat) (F : Nat → Prop) (hs : List Int) (w : World) (h : La w l g F hs) : Calls Try.prog 15 #[.pointer (some ⟨l, 0, none⟩)] w fun e w' => e = .returned (.int .i64 hs.length) ∧ w = w' := by
  have H := Lib.hid h
  have h1 := h.row
  clear h
  generalize hs.length = N at *
  go_enter Try.func15, Try.ntmps15
  go_wp2_with (go_at_call 27; refine (made_yes l g F hs _ H.out).mono ?_; rintro e w' ⟨rfl, rfl⟩)
  go_ret
  exact ⟨rfl, rfl⟩
theorem has_nil (k : Int) (w : World) : Calls Try.prog 26 #[.pointer none, .int .i64 k] w fun e w' => e = .returned (.bool false) ∧ w = w' := by
  by_cases h : 0 ≤ k
  · have h2 : ¬ k < 0 := by omega
    have h3 : decide (k < 0) = false := by simpa using h2
    go_enter Try.func26, Try.ntmps26
    go_wp2_with (go_at_call 15; refine (len_nil _).mono ?_; rintro e w' ⟨rfl, rfl⟩)
    go_ret
    exact ⟨rfl, rfl⟩
  · go_enter Try.func26, Try.ntmps26
    go_wp2
    go_ret
    exact ⟨rfl, rfl⟩
theorem has_at (l g : Nat) (F : Nat → Prop) (hs : List Int) (k : Int) (w : World) (h : La w l g F hs) : Calls Try.prog 26 #[.pointer (some ⟨l, 0, none⟩), .int .i64 k] w fun e w' => e = .returned (.bool (decide (0 ≤ k ∧ k < hs.length))) ∧ w = w' := by
  have HL := Lib.hid (len_at l g F hs w h)
  clear h
  generalize hs.length = N at *
  by_cases h : 0 ≤ k
  · by_cases h2 : k < N
    · rw [decide_eq_true ⟨h, h2⟩]
      have h3 : decide (k < (N : Int)) = true := by simpa using h2
      go_enter Try.func26, Try.ntmps26
      go_wp2_with (go_at_call 15; refine HL.out.mono ?_; rintro e w' ⟨rfl, rfl⟩)
      go_ret
      exact ⟨rfl, rfl⟩
    · rw [decide_eq_false (fun e => h2 e.2)]
      have h3 : decide (k < (N : Int)) = false := by simpa using h2
      go_enter Try.func26, Try.ntmps26
      go_wp2_with (go_at_call 15; refine HL.out.mono ?_; rintro e w' ⟨rfl, rfl⟩)
      go_ret
      exact ⟨rfl, rfl⟩
  · rw [decide_eq_false (fun e => h e.1)]
    go_enter Try.func26, Try.ntmps26
    go_wp2
    go_ret
    exact ⟨rfl, rfl⟩
theorem check_nil (k t : Int) (w : World) : Calls Try.prog 25 #[.pointer none, .int .i64 k, .int .i64 t] w fun e w' => e = .returned (.int .i64 1) ∧ w = w' := by
  go_enter Try.func25, Try.ntmps25
  go_wp2_with (go_at_call 27; refine (made_nil _).mono ?_; rintro e w' ⟨rfl, rfl⟩)
  go_ret
  exact ⟨rfl, rfl⟩
theorem check_at (l g : Nat) (F : Nat → Prop) (hs : List Int) (k t : Int) (w : World) (h : La w l g F hs) : Calls Try.prog 25 #[.pointer (some ⟨l, 0, none⟩), .int .i64 k, .int .i64 t] w fun e w' => e = .returned (.int .i64 (if Okl hs k t then 0 else 2)) ∧ w = w' := by
  have HM := Lib.hid (made_yes l g F hs w h)
  have HH := Lib.hid (has_at l g F hs k w h)
  clear h
  by_cases h : 0 ≤ k ∧ k < (hs.length : Int)
  · rw [decide_eq_true h] at HH
    by_cases h1 : t < 0
    · rw [if_neg (show ¬ Okl hs k t by unfold Okl; omega)]
      clear h
      go_enter Try.func25, Try.ntmps25
      go_wp2_with (first | (go_at_call 27; refine HM.out.mono ?_; rintro e w' ⟨rfl, rfl⟩) | (go_at_call 26; refine HH.out.mono ?_; rintro e w' ⟨rfl, rfl⟩))
      go_ret
      exact ⟨rfl, rfl⟩
    · by_cases h2 : t < 8
      · rw [if_pos (show Okl hs k t by unfold Okl; omega)]
        clear h
        go_enter Try.func25, Try.ntmps25
        go_wp2_with (first | (go_at_call 27; refine HM.out.mono ?_; rintro e w' ⟨rfl, rfl⟩) | (go_at_call 26; refine HH.out.mono ?_; rintro e w' ⟨rfl, rfl⟩))
        go_ret
        exact ⟨rfl, rfl⟩
      · rw [if_neg (show ¬ Okl hs k t by unfold Okl; omega)]
        clear h
        go_enter Try.func25, Try.ntmps25
        go_wp2_with (first | (go_at_call 27; refine HM.out.mono ?_; rintro e w' ⟨rfl, rfl⟩) | (go_at_call 26; refine HH.out.mono ?_; rintro e w' ⟨rfl, rfl⟩))
        go_ret
        exact ⟨rfl, rfl⟩
  · rw [decide_eq_false h] at HH
    rw [if_neg (show ¬ Okl hs k t from fun e => h ⟨e.1, e.2.1⟩)]
    clear h
    go_enter Try.func25, Try.ntmps25
    go_wp2_with (first | (go_at_call 27; refine HM.out.mono ?_; rintro e w' ⟨rfl, rfl⟩) | (go_at_call 26; refine HH.out.mono ?_; rintro e w' ⟨rfl, rfl⟩))
    go_ret
    exact ⟨rfl, rfl⟩

/-! ### Holder -/
theorem holder_nil (k : Int) (w : World) : Calls Try.prog 12 #[.pointer none, .int .i64 k] w fun e w' => e = .returned (.tuple #[.int .i64 0, .bool false]) ∧ w = w' := by
  go_enter Try.func12, Try.ntmps12
  go_wp2_with (go_at_call 26; refine (has_nil _ _).mono ?_; rintro e w' ⟨rfl, rfl⟩)
  exact bodyPost_ret (v := .tuple #[.int .i64 0, .bool false]) (by simp [results, Try.results12, go_sem]) rfl ⟨rfl, rfl⟩
theorem holder_at (l g : Nat) (F : Nat → Prop) (hs : List Int) (k : Int) (w : World) (h : La w l g F hs) : Calls Try.prog 12 #[.pointer (some ⟨l, 0, none⟩), .int .i64 k] w fun e w' => e = .returned (.tuple #[.int .i64 (holdR hs k).1, .bool (holdR hs k).2]) ∧ w = w' := by
  have HH := Lib.hid (has_at l g F hs k w h)
  unfold holdR
  by_cases q : 0 ≤ k ∧ k < (hs.length : Int)
  · obtain ⟨i, rfl⟩ := Int.eq_ofNat_of_zero_le q.1
    have hi : i < hs.length := by omega
    have h1 := h.row
    have hl := h.vl.l1
    obtain ⟨_, s⟩ := h.sl i hi
    rw [decide_eq_true q] at HH
    simp only [Int.toNat_natCast]
    clear h
    generalize ho hs i = x at *
    generalize hs.length = N at *
    rcases s with ⟨rfl, c⟩ | ⟨x0, b, _, _, c, d⟩
    · rw [if_neg (by omega)]
      clear q
      go_enter Try.func12, Try.ntmps12
      go_wp2_with (go_at_call 26; refine HH.out.mono ?_; rintro e w' ⟨rfl, rfl⟩)
      exact bodyPost_ret (v := .tuple #[.int .i64 0, .bool false]) (by simp [results, Try.results12, go_sem]) rfl ⟨rfl, rfl⟩
    · rw [if_pos ⟨q.1, q.2, x0⟩]
      clear q
      go_enter Try.func12, Try.ntmps12
      go_wp2_with (go_at_call 26; refine HH.out.mono ?_; rintro e w' ⟨rfl, rfl⟩)
      exact bodyPost_ret (v := .tuple #[.int .i64 x, .bool true]) (by simp [results, Try.results12, go_sem]) rfl ⟨rfl, rfl⟩
  · rw [decide_eq_false q] at HH
    rw [if_neg (fun e => q ⟨e.1, e.2.1⟩)]
    clear q h
    go_enter Try.func12, Try.ntmps12
    go_wp2_with (go_at_call 26; refine HH.out.mono ?_; rintro e w' ⟨rfl, rfl⟩)
    exact bodyPost_ret (v := .tuple #[.int .i64 0, .bool false]) (by simp [results, Try.results12, go_sem]) rfl ⟨rfl, rfl⟩
end Go.Proofs.Ytloendfkfginjaa
