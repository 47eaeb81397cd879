/- Contracts of the functions of package mode, second part: Sup and Compatible at unknown modes, Covers, Parent, Pick of the checker's kit; and the function 'lives' of the statements of chapter 1. -/
import Derived.Test.YtcmdcbpbfjpnpaaModeA
import Derived.Lib.Hide
import Derived.IntWalk
namespace Go.Proofs.Ytcmdcbpbfjpnpaa
open Go.ChangeShapes Go.WideShapes Go.ChangeAt Go.RowKit

theorem sup_val (a b s : Int) (w : World) (h : supT a b = s) (ha : 0 ≤ a) (ha' : a < 7) (hb : 0 ≤ b) (hb' : b < 7) :
    Calls Try.prog 14 #[.int .i64 a, .int .i64 b] w fun e w' => e = .returned (.int .i64 s) ∧ Nw w w' := by
  subst h; exact sup_in a b w ha ha' hb hb'
theorem cmp_val (a b : Int) (v : Bool) (w : World) (h : cmpT a b = v) (ha : 0 ≤ a) (ha' : a < 7) (hb : 0 ≤ b) (hb' : b < 7) :
    Calls Try.prog 13 #[.int .i64 a, .int .i64 b] w fun e w' => e = .returned (.bool v) ∧ Nw w w' := by
  subst h; exact cmp_in a b w ha ha' hb hb'

set_option maxHeartbeats 400000 in
theorem sup_out1 (a b : Int) (w : World) (h : a < 0 ∨ 7 ≤ a) :
    Calls Try.prog 14 #[.int .i64 a, .int .i64 b] w fun e w' => e = .returned (.int .i64 0) ∧ w = w' := by
  go_enter Try.func14, Try.ntmps14
  go_wp2_with (go_at_call 12; refine (known_no _ _ h).mono ?_; rintro e w' ⟨rfl, rfl⟩)
  go_ret
  exact ⟨rfl, rfl⟩
set_option maxHeartbeats 400000 in
theorem sup_out2 (a b : Int) (w : World) (ha : 0 ≤ a) (ha' : a < 7) (h : b < 0 ∨ 7 ≤ b) :
    Calls Try.prog 14 #[.int .i64 a, .int .i64 b] w fun e w' => e = .returned (.int .i64 0) ∧ w = w' := by
  go_enter Try.func14, Try.ntmps14
  go_wp2_with fail
  refine (known_yes a _ ha ha').mono ?_
  rintro e w' ⟨rfl, rfl⟩
  go_wp2_with (go_at_call 12; refine (known_no b _ h).mono ?_; rintro e w' ⟨rfl, rfl⟩)
  go_ret
  exact ⟨rfl, rfl⟩
set_option maxHeartbeats 400000 in
theorem cmp_out1 (a b : Int) (w : World) (h : a < 0 ∨ 7 ≤ a) :
    Calls Try.prog 13 #[.int .i64 a, .int .i64 b] w fun e w' => e = .returned (.bool false) ∧ w = w' := by
  go_enter Try.func13, Try.ntmps13
  go_wp2_with (go_at_call 12; refine (known_no _ _ h).mono ?_; rintro e w' ⟨rfl, rfl⟩)
  go_ret
  exact ⟨rfl, rfl⟩

def covT (a b : Int) : Bool := supT a b == a
set_option maxHeartbeats 400000 in
theorem cov_yes (a b : Int) (w : World) (h : supT a b = a) (ha : 0 ≤ a) (ha' : a < 7) (hb : 0 ≤ b) (hb' : b < 7) :
    Calls Try.prog 15 #[.int .i64 a, .int .i64 b] w fun e w' => e = .returned (.bool true) ∧ Nw w w' := by
  have H := Lib.hid h; clear h
  go_enter Try.func15, Try.ntmps15
  go_wp2_with (first | (go_at_call 12; refine (known_yes _ _ (by omega) (by omega)).mono ?_; rintro e w' ⟨rfl, rfl⟩) | (go_at_call 14; refine (sup_val a b a _ H.out ha ha' hb hb').mono ?_; rintro e w1 ⟨rfl, hg⟩))
  go_ret
  exact ⟨rfl, hg⟩
set_option maxHeartbeats 400000 in
theorem cov_no (a b : Int) (w : World) (h : (supT a b == a) = false) (ha : 0 ≤ a) (ha' : a < 7) (hb : 0 ≤ b) (hb' : b < 7) :
    Calls Try.prog 15 #[.int .i64 a, .int .i64 b] w fun e w' => e = .returned (.bool false) ∧ Nw w w' := by
  go_enter Try.func15, Try.ntmps15
  go_wp2_with (first | (go_at_call 12; refine (known_yes _ _ (by omega) (by omega)).mono ?_; rintro e w' ⟨rfl, rfl⟩) | (go_at_call 14; refine (sup_in a b _ ha ha' hb hb').mono ?_; rintro e w1 ⟨rfl, hg⟩))
  go_ret
  exact ⟨rfl, hg⟩
theorem cov_val (a b : Int) (v : Bool) (w : World) (h : covT a b = v) (ha : 0 ≤ a) (ha' : a < 7) (hb : 0 ≤ b) (hb' : b < 7) :
    Calls Try.prog 15 #[.int .i64 a, .int .i64 b] w fun e w' => e = .returned (.bool v) ∧ Nw w w' := by
  cases v with
  | true => exact cov_yes a b w (by simpa [covT] using h) ha ha' hb hb'
  | false => exact cov_no a b w (by simpa [covT] using h) ha ha' hb hb'
set_option maxHeartbeats 400000 in
theorem cov_out1 (a b : Int) (w : World) (h : a < 0 ∨ 7 ≤ a) :
    Calls Try.prog 15 #[.int .i64 a, .int .i64 b] w fun e w' => e = .returned (.bool false) ∧ w = w' := by
  go_enter Try.func15, Try.ntmps15
  go_wp2_with (go_at_call 12; refine (known_no _ _ h).mono ?_; rintro e w' ⟨rfl, rfl⟩)
  go_ret
  exact ⟨rfl, rfl⟩

def parT (m : Int) : Int := if m = 1 ∨ m = 3 then 1 else if m = 2 ∨ 4 ≤ m ∧ m < 7 then 2 else 0
theorem par_lit (m : Int) (v : Int) (w : World) (h : (m, v) ∈ [((0 : Int), (0 : Int)), (1, 1), (2, 2), (3, 1), (4, 2), (5, 2), (6, 2), (9, 0)]) :
    Calls Try.prog 17 #[.int .i64 m] w fun e w' => e = .returned (.int .i64 v) ∧ w = w' := by
  simp only [List.mem_cons, Prod.mk.injEq, List.not_mem_nil, or_false] at h
  rcases h with ⟨rfl, rfl⟩ | ⟨rfl, rfl⟩ | ⟨rfl, rfl⟩ | ⟨rfl, rfl⟩ | ⟨rfl, rfl⟩ | ⟨rfl, rfl⟩ | ⟨rfl, rfl⟩ | ⟨rfl, rfl⟩
  all_goals
    go_enter Try.func17, Try.ntmps17
    go_wp2
    go_ret
    exact ⟨rfl, rfl⟩
theorem par_val (m v : Int) (w : World) (h : parT m = v) (h0 : 0 ≤ m) (h1 : m < 7) :
    Calls Try.prog 17 #[.int .i64 m] w fun e w' => e = .returned (.int .i64 v) ∧ w = w' := by
  subst h
  refine par_lit m _ w ?_
  rcases (show m = 0 ∨ m = 1 ∨ m = 2 ∨ m = 3 ∨ m = 4 ∨ m = 5 ∨ m = 6 by omega) with rfl | rfl | rfl | rfl | rfl | rfl | rfl <;> decide

theorem rem_bd (n m : Int) (hm : 0 < m) : -m < n.tmod m ∧ n.tmod m < m := by
  refine ⟨?_, Int.tmod_lt_of_pos n hm⟩
  have := Int.tmod_lt_of_pos (-n) hm
  rw [Int.neg_tmod] at this; omega
theorem rem_emod (n m : Int) (hm : 0 < m) : n % m = if n.tmod m < 0 then n.tmod m + m else n.tmod m := by
  have h1 : n.tmod m + m * n.tdiv m = n := Int.tmod_add_mul_tdiv n m
  have h2 := rem_bd n m hm
  generalize n.tmod m = r at *
  generalize n.tdiv m = q at *
  subst h1
  rw [Int.add_mul_emod_self_left]
  by_cases h : r < 0
  · rw [if_pos h, ← Int.add_emod_right, Int.emod_eq_of_lt (by omega) (by omega)]
  · rw [if_neg h, Int.emod_eq_of_lt (by omega) (by omega)]
theorem ret_int {k : IntKind} {a b : Int} (h : a = b) : Ending.returned (.int k a) = .returned (.int k b) := by rw [h]

/-- Pick(n, m) is n modulo m, from 0 on. -/
theorem pick_any (n m : Int) (w : World) (hm : 0 < m) (hm' : m ≤ 9223372036854775807) :
    Calls Try.prog 19 #[.int .i64 n, .int .i64 m] w fun e w' => e = .returned (.int .i64 (n % m)) ∧ w = w' := by
  have hr := Lib.hid (rem_emod n m hm)
  obtain ⟨b1, b2⟩ := rem_bd n m hm
  by_cases hneg : n.tmod m < 0
  · go_enter Try.func19, Try.ntmps19
    go_wp2
    go_ret
    exact ⟨ret_int (by rw [hr.out, if_pos hneg]), rfl⟩
  · go_enter Try.func19, Try.ntmps19
    go_wp2
    go_ret
    exact ⟨ret_int (by rw [hr.out, if_neg (by omega)]), rfl⟩

/-- The examples of chapter 1 that every statement of that chapter asks first. -/
theorem lives_ok (w : World) : Calls Try.prog 8 #[] w fun e w' => e = .returned (.bool true) ∧ Nw w w' := by
  go_enter Try.func8, Try.ntmps8
  go_wp2_with fail
  refine (sup_val 2 3 4 _ rfl (by decide) (by decide) (by decide) (by decide)).mono ?_
  rintro e w1 ⟨rfl, g1⟩
  go_wp2_with fail
  refine (cmp_val 5 3 true _ rfl (by decide) (by decide) (by decide) (by decide)).mono ?_
  rintro e w2 ⟨rfl, g2⟩
  go_wp2_with fail
  refine (cmp_val 5 5 false _ rfl (by decide) (by decide) (by decide) (by decide)).mono ?_
  rintro e w3 ⟨rfl, g3⟩
  go_wp2_with fail
  refine (par_val 5 2 _ rfl (by decide) (by decide)).mono ?_
  rintro e w4 ⟨rfl, rfl⟩
  go_wp2
  go_ret
  exact ⟨rfl, Nw.trans (Nw.trans g1 g2) g3⟩
end Go.Proofs.Ytcmdcbpbfjpnpaa
