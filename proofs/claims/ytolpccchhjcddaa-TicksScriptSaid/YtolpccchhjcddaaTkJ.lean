
/- A clock in memory; New, Now, Len, Next. -/
import Derived.Test.YtolpccchhjcddaaTkI
import Derived.LaidEqlPtr
namespace Go.Proofs.Ytolpccchhjcddaa
open Go.RowKit Go.Shelf

theorem perm_nodup {s t : List Tm} (h : s.Perm t) (k : (s.map (·.2)).Nodup) : (t.map (·.2)).Nodup := (List.Perm.nodup_iff (h.map _)).1 k
/-- A clock: its time, the value of its timers, the heap and the timers in order. -/
structure Ck (w : World) (c : Nat) (t : Int) (v : Value) (l s : List Tm) : Prop where
  self : w.cell? ⟨c, 0, none⟩ = some (.pointer (some ⟨c, 0, none⟩))
  now : w.cell? ⟨c, 1, none⟩ = some (.int .i64 t)
  nowf : w.frozen? ⟨c, 1, none⟩ = false
  tm : Hv w c 2 v l
  hs : Hs l s
  uq : (s.map (·.2)).Nodup
  tb : 0 ≤ t ∧ t ≤ 9223372036854775807
theorem Ck.lt {w : World} {c : Nat} {t : Int} {v : Value} {l s : List Tm} (h : Ck w c t v l s) : c < w.heap.size := h.tm.lt
theorem Ck.own {w : World} {c : Nat} {t : Int} {v : Value} {l s : List Tm} (h : Ck w c t v l s) : ∀ k, Of c v k → k < w.heap.size := by
  rintro k (rfl | e)
  · exact h.lt
  · exact (World.ownsRow.lt h.tm.row k e).2
theorem Ck.tch {S : Nat → Prop} {w w' : World} {c : Nat} {t : Int} {v : Value} {l s : List Tm} (h : Ck w c t v l s) (k : Tch S w w') (hS : ∀ k, Of c v k → ¬ S k) : Ck w' c t v l s :=
  ⟨(k.cell h.lt (hS _ (.inl rfl))).trans h.self, (k.cell h.lt (hS _ (.inl rfl))).trans h.now, (k.froz h.lt (hS _ (.inl rfl))).trans h.nowf, h.tm.tch k (hS _ (.inl rfl)) (fun g e => hS g (.inr e)), h.hs, h.uq, h.tb⟩
theorem Ck.nw {w w' : World} {c : Nat} {t : Int} {v : Value} {l s : List Tm} (h : Ck w c t v l s) (k : Nw w w') : Ck w' c t v l s := h.tch (Tch.nw (S := fun _ => False) k) (fun _ _ e => e)
/-- The same with the blocks alone named. -/
def Clk (w : World) (c : Nat) (t : Int) (s : List Tm) (F : Nat → Prop) : Prop := ∃ v l, Ck w c t v l s ∧ F = Of c v
theorem Clk.own {w : World} {c : Nat} {t : Int} {s : List Tm} {F : Nat → Prop} (h : Clk w c t s F) : ∀ k, F k → k < w.heap.size := by
  obtain ⟨v, l, h, rfl⟩ := h; exact h.own
theorem Clk.tch {S : Nat → Prop} {w w' : World} {c : Nat} {t : Int} {s : List Tm} {F : Nat → Prop} (h : Clk w c t s F) (k : Tch S w w') (hS : ∀ k, F k → ¬ S k) : Clk w' c t s F := by
  obtain ⟨v, l, h, rfl⟩ := h; exact ⟨v, l, h.tch k hS, rfl⟩
theorem Clk.nw {w w' : World} {c : Nat} {t : Int} {s : List Tm} {F : Nat → Prop} (h : Clk w c t s F) (k : Nw w w') : Clk w' c t s F := by
  obtain ⟨v, l, h, rfl⟩ := h; exact ⟨v, l, h.nw k, rfl⟩
/-- A step of a clock: what it becomes, and what else may change. -/
def ClkTo (w : World) (c : Nat) (F : Nat → Prop) (t : Int) (s : List Tm) (w' : World) : Prop := ∃ F', Clk w' c t s F' ∧ (∀ k, F' k → F k ∨ w.heap.size ≤ k) ∧ Tch F w w'
theorem Clk.to {w w' : World} {c : Nat} {t : Int} {s : List Tm} {F : Nat → Prop} (h : Clk w c t s F) (k : Nw w w') : ClkTo w c F t s w' := ⟨F, h.nw k, fun _ e => .inl e, Tch.nw k⟩

/-! ### made -/
theorem made_nil (w : World) : Calls Try.prog 26 #[.pointer none] w fun e w' => e = .returned (.bool false) ∧ w = w' := by
  go_enter Try.func26, Try.ntmps26
  go_wp2
  go_ret
  exact ⟨rfl, rfl⟩
theorem infoC : (Try.prog.info? 57).isSome = true := by kernel_rfl
theorem eql_self (a : Addr) (w : World) : Sem.run Try.prog (binOp .eql 23 (.pointer (some a)) (.pointer (some a))) w = .ok (.bool true) w := by
  obtain ⟨j, hj⟩ := Option.isSome_iff_exists.1 infoC
  exact run_eql_ptr_same w a Try.underlying23 hj
theorem made_yes (c : Nat) (w : World) (h : w.cell? ⟨c, 0, none⟩ = some (.pointer (some ⟨c, 0, none⟩))) : Calls Try.prog 26 #[.pointer (some ⟨c, 0, none⟩)] w fun e w' => e = .returned (.bool true) ∧ w = w' := by
  have he := eql_self
  go_enter Try.func26, Try.ntmps26
  go_wp2
  go_ret
  exact ⟨rfl, rfl⟩

/-! ### New -/
theorem new_ck (w : World) : Ck (w.alloc (.cells #[.pointer (some ⟨w.heap.size, 0, none⟩), .int .i64 0, .slice none 0 0] 57)) w.heap.size 0 (.slice none 0 0) [] [] := by
  refine ⟨by simp [go_sem], by simp [go_sem], by simp [go_sem], ⟨by simp [go_sem], by simp [go_sem], World.ownsRow_nil _ _ _ _, by simp [Value.ownBlock]⟩, Hs.nil, by simp, by omega, by omega⟩
def NewPost (w : World) (e : Ending) (w' : World) : Prop := ∃ c F, e = .returned (.pointer (some ⟨c, 0, none⟩)) ∧ Clk w' c 0 [] F ∧ w.heap.size ≤ c ∧ (∀ k, F k → w.heap.size ≤ k) ∧ Nw w w'
theorem new_any (w : World) : Calls Try.prog 8 #[] w (NewPost w) := by
  have HC := Lib.hid (new_ck w)
  go_enter Try.func8, Try.ntmps8
  go_wp2
  go_ret
  refine ⟨w.heap.size, _, rfl, ⟨_, _, HC.out, rfl⟩, Nat.le_refl _, ?_, ?_⟩
  · rintro k (rfl | e)
    · exact Nat.le_refl _
    · simp [Value.ownBlock] at e
  · exact (Nw.refl w).alloc _

/-! ### Now, Len, Next -/
theorem now_nil (w : World) : Calls Try.prog 14 #[.pointer none] w fun e w' => e = .returned (.int .i64 0) ∧ w = w' := by
  go_enter Try.func14, Try.ntmps14
  go_wp2_with (go_at_call 26; refine (made_nil _).mono ?_; rintro e w' ⟨rfl, rfl⟩)
  go_ret
  exact ⟨rfl, rfl⟩
theorem now_any (c : Nat) (t : Int) (s : List Tm) (F : Nat → Prop) (w : World) (h : Clk w c t s F) : Calls Try.prog 14 #[.pointer (some ⟨c, 0, none⟩)] w fun e w' => e = .returned (.int .i64 t) ∧ w = w' := by
  obtain ⟨v, l, h, rfl⟩ := h
  have hn := h.now
  have HM := Lib.hid (made_yes c w h.self)
  clear h
  go_enter Try.func14, Try.ntmps14
  go_wp2_with (go_at_call 26; refine HM.out.mono ?_; rintro e w' ⟨rfl, rfl⟩)
  go_ret
  exact ⟨rfl, rfl⟩
theorem clen_nil (w : World) : Calls Try.prog 15 #[.pointer none] w fun e w' => e = .returned (.int .i64 0) ∧ w = w' := by
  go_enter Try.func15, Try.ntmps15
  go_wp2_with (go_at_call 26; refine (made_nil _).mono ?_; rintro e w' ⟨rfl, rfl⟩)
  go_ret
  exact ⟨rfl, rfl⟩
theorem clen_any (c : Nat) (t : Int) (s : List Tm) (F : Nat → Prop) (w : World) (h : Clk w c t s F) : Calls Try.prog 15 #[.pointer (some ⟨c, 0, none⟩)] w fun e w' => e = .returned (.int .i64 s.length) ∧ w = w' := by
  obtain ⟨v, l, h, rfl⟩ := h
  have hn := h.tm.hd
  have hl := h.hs.len
  have HM := Lib.hid (made_yes c w h.self)
  have hv := h.tm.form
  clear h
  rw [← hl]
  rcases hv with ⟨rfl, rfl⟩ | ⟨g, cap, rfl, _⟩
  · clear hl
    go_enter Try.func15, Try.ntmps15
    go_wp2_with (go_at_call 26; refine HM.out.mono ?_; rintro e w' ⟨rfl, rfl⟩)
    go_ret
    exact ⟨rfl, rfl⟩
  · clear hl
    go_enter Try.func15, Try.ntmps15
    go_wp2_with (go_at_call 26; refine HM.out.mono ?_; rintro e w' ⟨rfl, rfl⟩)
    go_ret
    exact ⟨rfl, rfl⟩
def nxtV : List Tm → Value
  | [] => .tuple #[agT (0, 0, 0), .bool false]
  | a :: _ => .tuple #[agT a, .bool true]
theorem next_nil (w : World) : Calls Try.prog 10 #[.pointer none] w fun e w' => e = .returned (nxtV []) ∧ Nw w w' := by
  go_enter Try.func10, Try.ntmps10
  go_wp2_with (go_at_call 15; refine (clen_nil _).mono ?_; rintro e w' ⟨rfl, rfl⟩)
  exact bodyPost_ret (v := .tuple #[.agg #[.int .i64 0, .int .i64 0, .int .i64 0], .bool false]) (by simp [results, Try.results10, go_sem]) rfl ⟨rfl, (Nw.refl _).alloc _⟩
theorem next_any (c : Nat) (t : Int) (s : List Tm) (F : Nat → Prop) (w : World) (h : Clk w c t s F) (hsm : s.length ≤ 100000) : Calls Try.prog 10 #[.pointer (some ⟨c, 0, none⟩)] w fun e w' => e = .returned (nxtV s) ∧ Nw w w' := by
  have HL := Lib.hid (fun w' k => clen_any c t s F w' (h.nw k))
  obtain ⟨v, l, h, rfl⟩ := h
  have hn := h.tm.hd
  have hlt := h.lt
  cases s with
  | nil =>
    clear h
    go_enter Try.func10, Try.ntmps10
    go_wp2_with (go_at_call 15; refine (HL.out _ ((Nw.refl _).alloc _)).mono ?_; rintro e w' ⟨rfl, rfl⟩)
    exact bodyPost_ret (v := .tuple #[.agg #[.int .i64 0, .int .i64 0, .int .i64 0], .bool false]) (by simp [results, Try.results10, go_sem]) rfl ⟨rfl, (Nw.refl _).alloc _⟩
  | cons a s =>
    have ha := h.hs.head
    have hl := h.hs.len
    rcases h.tm.form with ⟨rfl, rfl⟩ | ⟨g, cap, rfl, hp⟩
    · simp at hl
    · have hcell := hp.row.cells 0 (by rw [hl]; simp)
      rw [ha] at hcell
      obtain ⟨c0, c1, c2⟩ := hcell
      have hg := hp.row.lt
      rw [hl] at hn
      simp only [List.length_cons, Nat.zero_mul, Nat.zero_add] at hn c0 c1 c2 HL hsm
      obtain ⟨x0, x1, x2⟩ := a
      clear h hp ha hl
      simp only at c0 c1 c2
      generalize s.length = N at *
      go_enter Try.func10, Try.ntmps10
      go_wp2_with (go_at_call 15; refine (HL.out _ ((Nw.refl _).alloc _)).mono ?_; rintro e w' ⟨rfl, rfl⟩)
      exact bodyPost_ret (v := .tuple #[.agg #[.int .i64 x0, .int .i64 x1, .int .i64 x2], .bool true]) (by simp [results, Try.results10, go_sem]) rfl ⟨rfl, (Nw.refl _).alloc _⟩
end Go.Proofs.Ytolpccchhjcddaa
