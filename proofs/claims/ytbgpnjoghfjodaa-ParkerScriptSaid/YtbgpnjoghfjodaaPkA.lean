
/- Parked threads in memory; made, Len, has, check, of, is, take. -/
import Derived.Test.YtbgpnjoghfjodaaPkM
import Derived.Test.YtbgpnjoghfjodaaInts
import Derived.LaidEqlPtr
import Derived.StillTailTactics
namespace Go.Proofs.Ytbgpnjoghfjodaa
open Go.RowKit

structure Pk (w : World) (p : Nat) (ss : List Int) : Prop where
  self : w.cell? ⟨p, 0, none⟩ = some (.pointer (some ⟨p, 0, none⟩))
  thr : w.cell? ⟨p, 1, none⟩ = some (.int .i64 ss.length)
  sts : ∃ B : Nat, Bits B ss ∧ w.cell? ⟨p, 2, none⟩ = some (.int .u16 B)
  fz : w.frozen? ⟨p, 2, none⟩ = false
  lt : p < w.heap.size
  vl : Vl ss
theorem Pk.tch {S : Nat → Prop} {w w' : World} {p : Nat} {ss : List Int} (h : Pk w p ss) (k : Tch S w w') (hS : ¬ S p) : Pk w' p ss := by
  have c : ∀ o, w'.cell? ⟨p, o, none⟩ = w.cell? ⟨p, o, none⟩ := fun o => k.cell h.lt hS
  obtain ⟨B, hB, hc⟩ := h.sts
  exact ⟨(c _).trans h.self, (c _).trans h.thr, ⟨B, hB, (c _).trans hc⟩, (k.froz h.lt hS).trans h.fz, Nat.lt_of_lt_of_le h.lt k.size, h.vl⟩
theorem Pk.nw {w w' : World} {p : Nat} {ss : List Int} (h : Pk w p ss) (k : Nw w w') : Pk w' p ss := h.tch (Tch.nw (S := fun _ => False) k) (fun e => e)
/-- A step: what the threads become; nothing else changes. -/
def PkTo (w : World) (p : Nat) (ss : List Int) (w' : World) : Prop := Pk w' p ss ∧ Tch (fun k => k = p) w w'
theorem Pk.keep {w : World} {p : Nat} {ss : List Int} (h : Pk w p ss) : PkTo w p ss w := ⟨h, Tch.refl _ w⟩
theorem Pk.put {w : World} {p : Nat} {ss ss' : List Int} (h : Pk w p ss) (B : Nat) (hB : Bits B ss') (hv : Vl ss') (hl : ss'.length = ss.length) : PkTo w p ss' (w.setCell ⟨p, 2, none⟩ (.int .u16 B)) := by
  obtain ⟨B0, _, hc⟩ := h.sts
  have o : ∀ j, j ≠ 2 → (w.setCell ⟨p, 2, none⟩ (.int .u16 B)).cell? ⟨p, j, none⟩ = w.cell? ⟨p, j, none⟩ := fun j hj => World.cell?_setCell_other _ _ _ _ (fun e => hj (by simpa using (congrArg Addr.off e).symm))
  exact ⟨⟨(o _ (by omega)).trans h.self, by rw [hl]; exact (o _ (by omega)).trans h.thr, ⟨B, hB, World.cell?_setCell_same _ _ _ hc⟩, by rw [World.frozen?_setCell]; exact h.fz, by simpa using h.lt, hv⟩, setCell_at w ⟨p, 2, none⟩ _⟩

/-! ### made, Len, has, check -/
theorem made_nil (w : World) : Calls Try.prog 32 #[.pointer none] w fun e w' => e = .returned (.bool false) ∧ w = w' := by
  go_enter Try.func32, Try.ntmps32
  go_wp2
  go_ret
  exact ⟨rfl, rfl⟩
theorem infoP : (Try.prog.info? 49).isSome = true := by kernel_rfl
theorem eql_self (a : Addr) (w : World) : Sem.run Try.prog (binOp .eql 23 (.pointer (some a)) (.pointer (some a))) w = .ok (.bool true) w := by
  obtain ⟨j, hj⟩ := Option.isSome_iff_exists.1 infoP
  exact run_eql_ptr_same w a Try.underlying23 hj
theorem made_yes {p : Nat} {ss : List Int} {w : World} (h : Pk w p ss) : Calls Try.prog 32 #[.pointer (some ⟨p, 0, none⟩)] w fun e w' => e = .returned (.bool true) ∧ w = w' := by
  have he := eql_self
  have h0 := h.self
  clear h
  go_enter Try.func32, Try.ntmps32
  go_wp2
  go_ret
  exact ⟨rfl, rfl⟩
theorem len_nil (w : World) : Calls Try.prog 17 #[.pointer none] w fun e w' => e = .returned (.int .i64 0) ∧ w = w' := by
  go_enter Try.func17, Try.ntmps17
  go_wp2_with (go_at_call 32; refine (made_nil _).mono ?_; rintro e w' ⟨rfl, rfl⟩)
  go_ret
  exact ⟨rfl, rfl⟩
theorem len_at {p : Nat} {ss : List Int} {w : World} (h : Pk w p ss) : Calls Try.prog 17 #[.pointer (some ⟨p, 0, none⟩)] w fun e w' => e = .returned (.int .i64 ss.length) ∧ w = w' := by
  have H := Lib.hid (made_yes h)
  have h1 := h.thr
  clear h
  generalize ss.length = N at *
  go_enter Try.func17, Try.ntmps17
  go_wp2_with (go_at_call 32; refine H.out.mono ?_; rintro e w' ⟨rfl, rfl⟩)
  go_ret
  exact ⟨rfl, rfl⟩
theorem has_nil (t : Int) (w : World) : Calls Try.prog 34 #[.pointer none, .int .i64 t] w fun e w' => e = .returned (.bool false) ∧ w = w' := by
  by_cases h : 0 ≤ t
  · have h3 : decide (t < 0) = false := by simpa using h
    go_enter Try.func34, Try.ntmps34
    go_wp2_with (go_at_call 17; refine (len_nil _).mono ?_; rintro e w' ⟨rfl, rfl⟩)
    go_ret
    exact ⟨rfl, rfl⟩
  · go_enter Try.func34, Try.ntmps34
    go_wp2
    go_ret
    exact ⟨rfl, rfl⟩
theorem has_at {p : Nat} {ss : List Int} {w : World} (h : Pk w p ss) (t : Int) : Calls Try.prog 34 #[.pointer (some ⟨p, 0, none⟩), .int .i64 t] w fun e w' => e = .returned (.bool (decide (Okt ss t))) ∧ w = w' := by
  have HL := Lib.hid (len_at h)
  clear h
  by_cases h : 0 ≤ t
  · by_cases h2 : t < (ss.length : Int)
    · rw [decide_eq_true (show Okt ss t from ⟨h, h2⟩)]
      generalize ss.length = N at *
      have h3 : decide (t < (N : Int)) = true := by simpa using h2
      go_enter Try.func34, Try.ntmps34
      go_wp2_with (go_at_call 17; refine HL.out.mono ?_; rintro e w' ⟨rfl, rfl⟩)
      go_ret
      exact ⟨rfl, rfl⟩
    · rw [decide_eq_false (show ¬ Okt ss t from fun e => h2 e.2)]
      generalize ss.length = N at *
      have h3 : decide (t < (N : Int)) = false := by simpa using h2
      go_enter Try.func34, Try.ntmps34
      go_wp2_with (go_at_call 17; refine HL.out.mono ?_; rintro e w' ⟨rfl, rfl⟩)
      go_ret
      exact ⟨rfl, rfl⟩
  · rw [decide_eq_false (show ¬ Okt ss t from fun e => h e.1)]
    go_enter Try.func34, Try.ntmps34
    go_wp2
    go_ret
    exact ⟨rfl, rfl⟩
theorem check_nil (t : Int) (w : World) : Calls Try.prog 28 #[.pointer none, .int .i64 t] w fun e w' => e = .returned (.int .i64 1) ∧ w = w' := by
  go_enter Try.func28, Try.ntmps28
  go_wp2_with (go_at_call 32; refine (made_nil _).mono ?_; rintro e w' ⟨rfl, rfl⟩)
  go_ret
  exact ⟨rfl, rfl⟩
theorem check_at {p : Nat} {ss : List Int} {w : World} (h : Pk w p ss) (t : Int) : Calls Try.prog 28 #[.pointer (some ⟨p, 0, none⟩), .int .i64 t] w fun e w' => e = .returned (.int .i64 (if Okt ss t then 0 else 2)) ∧ w = w' := by
  have HM := Lib.hid (made_yes h)
  have HH := Lib.hid (has_at h t)
  clear h
  by_cases h : Okt ss t
  · rw [decide_eq_true h] at HH
    rw [if_pos h]
    clear h
    go_enter Try.func28, Try.ntmps28
    go_wp2_with (first | (go_at_call 32; refine HM.out.mono ?_; rintro e w' ⟨rfl, rfl⟩) | (go_at_call 34; refine HH.out.mono ?_; rintro e w' ⟨rfl, rfl⟩))
    go_ret
    exact ⟨rfl, rfl⟩
  · rw [decide_eq_false h] at HH
    rw [if_neg h]
    clear h
    go_enter Try.func28, Try.ntmps28
    go_wp2_with (first | (go_at_call 32; refine HM.out.mono ?_; rintro e w' ⟨rfl, rfl⟩) | (go_at_call 34; refine HH.out.mono ?_; rintro e w' ⟨rfl, rfl⟩))
    go_ret
    exact ⟨rfl, rfl⟩

/-! ### of, is, take -/
theorem of_any (s i : Nat) (hs : s = 1 ∨ s = 2) (hi : i < 8) (w : World) : Calls Try.prog 31 #[.int .u16 s, .int .i64 i] w fun e w' => e = .returned (.int .u16 (bit s i)) ∧ w' = w := by
  have hc : i = 0 ∨ i = 1 ∨ i = 2 ∨ i = 3 ∨ i = 4 ∨ i = 5 ∨ i = 6 ∨ i = 7 := by omega
  rcases hs with rfl | rfl <;> rcases hc with rfl | rfl | rfl | rfl | rfl | rfl | rfl | rfl
  all_goals
    go_enter Try.func31, Try.ntmps31
    go_wp2
    go_ret
    exact ⟨rfl, rfl⟩
theorem has_q {p : Nat} {ss : List Int} {w : World} (h : Pk w p ss) (t : Int) (b : Bool) (hb : decide (Okt ss t) = b) (j : Nat) :
    Calls Try.prog 34 #[.pointer (some ⟨p, 0, none⟩), .int .i64 t] (w.drewN j) fun e w'' => e = .returned (.bool b) ∧ ∃ m', w'' = w.drewN m' := by
  subst hb
  exact Calls.quiet_of_same ((has_at (h.nw ((Nw.refl w).drewN j)) t).mono fun _ _ ⟨h1, h2⟩ => ⟨h1, h2.symm⟩)
theorem of_q (s i : Nat) (hs : s = 1 ∨ s = 2) (hi : i < 8) (w : World) (j : Nat) :
    Calls Try.prog 31 #[.int .u16 s, .int .i64 i] (w.drewN j) fun e w'' => e = .returned (.int .u16 (bit s i)) ∧ ∃ m', w'' = w.drewN m' := Calls.quiet_of_same (of_any s i hs hi _)
theorem is_nil (t : Int) (s : Int) (w : World) : Calls Try.prog 29 #[.pointer none, .int .i64 t, .int .u16 s] w fun e w' => e = .returned (.bool false) ∧ Nw w w' := by
  go_enter Try.func29, Try.ntmps29
  go_wp2
  go_quiet ((go_at_call 34; exact Calls.quiet_of_same ((has_nil _ _).mono fun _ _ ⟨h1, h2⟩ => ⟨h1, h2.symm⟩)))
  go_wp2
  go_ret
  exact ⟨rfl, (Nw.refl w).drewN _⟩
theorem is_at {p : Nat} {ss : List Int} {w : World} (h : Pk w p ss) (t : Int) (s : Nat) (hs : s = 1 ∨ s = 2) : Calls Try.prog 29 #[.pointer (some ⟨p, 0, none⟩), .int .i64 t, .int .u16 s] w fun e w' => e = .returned (.bool (isB ss t s)) ∧ Nw w w' := by
  have HH := Lib.hid (fun b hb => has_q h t b hb)
  by_cases q : Okt ss t
  · obtain ⟨i, rfl, hi⟩ := q.n
    have hi8 : i < 8 := by have := h.vl.l1; omega
    replace HH := Lib.hid (HH.out true (decide_eq_true q))
    have HO := Lib.hid (of_q s i hs hi8 w)
    obtain ⟨B, hB, hc⟩ := h.sts
    have hlt := hB.lt
    have hbl := bit_lt s i hs hi8
    have hbp := bit_pos s i hs
    have ha := u16_and_nat B (bit s i) hB.lt hbl
    clear h
    by_cases k : st ss i = s
    · rw [is_yes q k]
      rw [hB.and_yes hs k] at ha
      have h3 : ((bit s i : Int) != 0) = true := by simp; omega
      clear hB k q hs hi
      generalize bit s i = M at *
      go_enter Try.func29, Try.ntmps29
      go_wp2
      go_quiet (first | (go_at_call 34; (with_reducible exact HH.out _)) | (go_at_call 31; (with_reducible exact HO.out _)))
      go_wp2
      go_ret
      exact ⟨rfl, (Nw.refl w).drewN _⟩
    · rw [is_no k]
      rw [hB.and_no hs k] at ha
      clear hB k q hs hi
      generalize bit s i = M at *
      go_enter Try.func29, Try.ntmps29
      go_wp2
      go_quiet (first | (go_at_call 34; (with_reducible exact HH.out _)) | (go_at_call 31; (with_reducible exact HO.out _)))
      go_wp2
      go_ret
      exact ⟨rfl, (Nw.refl w).drewN _⟩
  · rw [is_bad q]
    replace HH := Lib.hid (HH.out false (decide_eq_false q))
    clear q h
    go_enter Try.func29, Try.ntmps29
    go_wp2
    go_quiet ((go_at_call 34; (with_reducible exact HH.out _)))
    go_wp2
    go_ret
    exact ⟨rfl, (Nw.refl w).drewN _⟩
theorem take_nil (t : Int) (s : Int) (w : World) : Calls Try.prog 30 #[.pointer none, .int .i64 t, .int .u16 s] w fun e w' => e = .returned (.bool false) ∧ Nw w w' := by
  go_enter Try.func30, Try.ntmps30
  go_wp2_with (go_at_call 29; refine (is_nil _ _ _).mono ?_; rintro e w1 ⟨rfl, g1⟩)
  go_ret
  exact ⟨rfl, g1⟩
/-- What a call leaves: new blocks, then a step. -/
theorem PkTo.nw {w w1 w2 : World} {p : Nat} {ss : List Int} (h : Nw w w1) (k : PkTo w1 p ss w2) : PkTo w p ss w2 := ⟨k.1, (Tch.nw h).trans k.2⟩
theorem take_at {p : Nat} {ss : List Int} {w : World} (h : Pk w p ss) (t : Int) (s : Nat) (hs : s = 1 ∨ s = 2) : Calls Try.prog 30 #[.pointer (some ⟨p, 0, none⟩), .int .i64 t, .int .u16 s] w fun e w' => e = .returned (.bool (isB ss t s)) ∧ PkTo w p (takeS ss t s) w' := by
  have HI := Lib.hid (is_at h t s hs)
  by_cases q : isB ss t s = true
  · rw [q] at HI ⊢
    have q2 := of_decide_eq_true q
    obtain ⟨i, rfl, hi⟩ := q2.1.n
    have k : st ss i = s := by simpa using q2.2
    rw [take_yes q2.1 k]
    have hi8 : i < 8 := by have := h.vl.l1; omega
    have HO := Lib.hid (of_any s i hs hi8)
    have H := Lib.hid h
    have hbl := bit_lt s i hs hi8
    have HB := Lib.hid (fun B (hB : Bits B ss) => And.intro (hB.clear hs hi hi8 k) (u16_andNot_nat B (bit s i) hB.lt hbl))
    have HV := Lib.hid (h.vl.set (x := 0) hi (by omega) (by omega))
    clear h q q2 k hs hi hi8 hbl
    generalize bit s i = M at *
    go_enter Try.func30, Try.ntmps30
    go_wp2_with fail
    refine HI.out.mono ?_
    rintro e w1 ⟨rfl, g1⟩
    have H1 := Lib.hid (H.out.nw g1)
    obtain ⟨B, hB, hc⟩ := H1.out.sts
    have hf := H1.out.fz
    have hl := H1.out.lt
    obtain ⟨hB2, ha⟩ := HB.out B hB
    have HP := Lib.hid (PkTo.nw (g1.drewN 1) ((H1.out.nw ((Nw.refl w1).drewN 1)).put _ hB2 HV.out (by simp)))
    change Hid (PkTo w p (ss.set i 0) (w1.drew.setCell _ _)) at HP
    have k0 := HO.out w1.drew
    clear HB hB hB2 H HO
    go_wp2
    refine wp_region_still_tail 10 (by kernel_rfl) (by kernel_rfl) ?_
    simp only [List.take_succ_cons, List.take_zero, List.drop_succ_cons, List.drop_zero]
    iterate 6 still_step
    still_call k0
    repeat still_step
    try refine wpStill_nil ?_
    change wpList _ _ _ _ _ w1.drew
    clear k0
    go_wp2
    go_ret
    exact ⟨rfl, HP.out⟩
  · have q1 : isB ss t s = false := by simpa using q
    rw [q1] at HI ⊢
    rw [take_no q1]
    have H := Lib.hid h
    clear h q q1
    go_enter Try.func30, Try.ntmps30
    go_wp2_with fail
    refine HI.out.mono ?_
    rintro e w1 ⟨rfl, g1⟩
    go_wp2
    go_ret
    exact ⟨rfl, PkTo.nw g1 (H.out.nw g1).keep⟩
end Go.Proofs.Ytbgpnjoghfjodaa
