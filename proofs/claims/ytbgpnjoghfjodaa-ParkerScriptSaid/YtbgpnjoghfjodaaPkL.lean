
/- What the walks are told of a slice of acts that came in; acts opened; the law's own call 'do'. -/
import Derived.Test.YtbgpnjoghfjodaaPkS
import Derived.WalkKit
import Derived.ProofKit
import Derived.OpenShut
import Derived.ShutString
import Derived.ChangeOld
import Derived.Below
import Derived.Deep.Slices
namespace Go.Proofs.Ytbgpnjoghfjodaa
open Go.ChangeShapes Go.WideShapes Go.ChangeAt Go.RowKit

def IsActs (w : World) (a : Option Addr) (len cap : Nat) (f : Nat → Nat → Int) : Prop :=
  (a = none ∧ len = 0 ∧ cap = 0) ∨ ∃ x, a = some x ∧ len ≤ cap ∧ cap ≤ maxLen ∧ ∀ i j, i < cap → j < 2 → w.cell? (x.add (i * 2 + j)) = some (.int .i64 (f i j)) ∧ (Lit.int .i64 (f i j)).wf = true
theorem IsActs.at {w : World} {a : Option Addr} {len cap : Nat} {f : Nat → Nat → Int} (h : IsActs w a len cap f) (hl : 0 < len) : ∃ b o, a = some ⟨b, o, none⟩ ∧ len ≤ maxLen ∧ b < w.heap.size ∧
    (∀ i, i < len → w.cell? ⟨b, o + i * 2, none⟩ = some (.int .i64 (f i 0)) ∧ w.cell? ⟨b, o + i * 2 + 1, none⟩ = some (.int .i64 (f i 1))) := by
  rcases h with ⟨_, h0, _⟩ | ⟨x, rfl, h1, h2, h4⟩
  · omega
  · obtain ⟨b, o, spot⟩ := x
    have hs : spot = none := by simpa [Addr.add] using World.cell?_spot (h4 0 0 (by omega) (by omega)).1
    subst hs
    have hc : ∀ i j, i < len → j < 2 → w.cell? ⟨b, o + (i * 2 + j), none⟩ = some (.int .i64 (f i j)) := fun i j hi hj => by
      have := (h4 i j (by omega) hj).1
      rwa [Addr.add_lit] at this
    exact ⟨b, o, rfl, by omega, World.block_lt_of_cell? _ _ (hc 0 0 hl (by omega)), fun i hi => ⟨by simpa using hc i 0 hi (by omega), by simpa [Nat.add_assoc] using hc i 1 hi (by omega)⟩⟩
/-- A slice of acts, opened: two numbers at each place. -/
theorem open_acts {H : Type} {enc : TypeId × Value → H} {W : World} {base fuel : Nat} {held : Bool} {cs : List Value} {x : DataW H × List MemPlace} (h : DataW.trod enc Try.prog W base (fun _ => true) held fuel 34 cs = some x) :
    cs = [.slice none 0 0] ∨ ∃ a len cap, ∃ f : Nat → Nat → Int, cs = [.slice (some a) len cap] ∧ len ≤ cap ∧ cap ≤ maxLen ∧ ∀ i j, i < cap → j < 2 → W.cell? (a.add (i * 2 + j)) = some (.int .i64 (f i j)) ∧ (Lit.int .i64 (f i j)).wf = true := by
  rcases Deep.open_slice Try.underlying34 h with h0 | ⟨a, len, cap, m, n, D, Pl, rfl, hb, hl, hm, hmm, _, hx⟩
  · exact .inl h0.1
  right
  simp only [if_true] at hmm
  subst hmm
  have ce : Try.prog.cellsOf 39 = 2 := by kernel_rfl
  have ci : Try.prog.cellsOf 3 = 1 := by kernel_rfl
  have each : ∀ i, i < m → ∃ q : Nat → Int, ∀ j, j < 2 → W.cell? (a.add (i * 2 + j)) = some (.int .i64 (q j)) ∧ (Lit.int .i64 (q j)).wf = true := by
    intro i hi
    obtain ⟨cs', h1, h2⟩ := hx i hi
    rw [ce] at h1
    obtain ⟨_, hlen, hcell⟩ := World.cells?_some h1
    obtain ⟨xs, k, hk, hxy, _, hxl, hf⟩ := DataW.trod_struct Try.underlying39 h2
    match xs, hxl, cs', hlen with
    | [y0, y1], _, [v0, v1], _ =>
      have g0 := hf 0 _ rfl
      have g1 := hf 1 _ rfl
      simp [ci] at g0 g1
      obtain ⟨n0, e0, _, u0⟩ := DataW.trod_int Try.underlying3 g0
      obtain ⟨n1, e1, _, u1⟩ := DataW.trod_int Try.underlying3 g1
      simp only [List.cons.injEq, and_true] at e0 e1
      subst e0 e1
      refine ⟨fun j => match j with | 0 => n0 | _ => n1, fun j hj => ?_⟩
      have c := hcell j (by omega)
      rw [Deep.add_add] at c
      match j, hj with
      | 0, _ => exact ⟨by simpa using c, u0⟩
      | 1, _ => exact ⟨by simpa using c, u1⟩
  obtain ⟨q, hq⟩ := Deep.choose_lt each
  exact ⟨a, len, m, q, rfl, hl, hm, fun i j hi hj => hq i hi j hj⟩
/-- The number of threads that the laws pick. -/
theorem pick8 (n : Int) : ∃ N : Nat, 1 + n % 8 = N ∧ 1 ≤ N ∧ N ≤ 8 := ⟨(1 + n % 8).toNat, by omega, by omega, by omega⟩
theorem pickN (n : Int) (N : Nat) (h : 1 ≤ N) : ∃ k : Nat, n % (N : Int) = k ∧ k < N := by
  have h0 : 0 ≤ n % (N : Int) := Int.emod_nonneg _ (by omega)
  have h1 : n % (N : Int) < N := Int.emod_lt_of_pos _ (by omega)
  exact ⟨(n % (N : Int)).toNat, by omega, by omega⟩

/-! ### do -/
/-- What a call does: 2 Unpark, 3 Drop, else Park. -/
def doS (ss : List Int) (k t : Int) : List Int := if k % 4 = 2 then unpS ss t else if k % 4 = 3 then takeS ss t 2 else parkS ss t
theorem doS_len (ss : List Int) (k t : Int) : (doS ss k t).length = ss.length := by
  unfold doS
  by_cases h : k % 4 = 2
  · rw [if_pos h]; exact unpS_len _ _
  · rw [if_neg h]
    by_cases h : k % 4 = 3
    · rw [if_pos h]; exact takeS_len _ _ _
    · rw [if_neg h]; exact parkS_len _ _
theorem ne_b {a b : Int} (h : a ≠ b) : (a == b) = false := by simpa using h
set_option maxHeartbeats 1000000 in
theorem acc_do {w W : World} {p : Nat} {ss : List Int} (h : Acc w W p ss) (k t : Int) :
    Calls Try.prog 27 #[.pointer (some ⟨p, 0, none⟩), .agg #[.int .i64 k, .int .i64 t]] W fun e W' => e = .returned (.tuple #[]) ∧ AccTo w W p (doS ss k t) W' := by
  have H0 := Lib.hid (h.step ((Nw.refl W).alloc (.cells #[.int .i64 k, .int .i64 t] 39)))
  have HD := Lib.hid (show doS ss k t = if k % 4 = 2 then unpS ss t else if k % 4 = 3 then takeS ss t 2 else parkS ss t from rfl)
  have HT := Lib.hid (fun W' ss' (k : AccTo w (W.alloc (.cells #[.int .i64 k, .int .i64 t] 39)) p ss' W') => (show AccTo w W p ss' W' from ⟨k.1, (Tch.nw ((Nw.refl W).alloc _)).trans k.2⟩))
  clear h
  have hp0 : 0 ≤ k % 4 := Int.emod_nonneg _ (by omega)
  have hp1 : k % 4 < 4 := Int.emod_lt_of_pos _ (by omega)
  have HP := Lib.hid (fun W => (pick_any k 4 W (by omega) (by omega)))
  generalize k % 4 = m at *
  by_cases m2 : m = 2
  · subst m2
    rw [if_pos rfl] at HD
    rw [HD.out]
    obtain ⟨⟨b, E⟩, hR⟩ : ∃ x, unpR ss t = x := ⟨_, rfl⟩
    have HR := Lib.hid hR
    clear hR
    go_enter Try.func27, Try.ntmps27
    go_wp2_with fail
    refine (HP.out _).mono ?_
    rintro e w1 ⟨rfl, rfl⟩
    go_wp2_with fail
    refine (acc_unpark H0.out t _ _ _ HR.out rfl).mono ?_
    rintro e w2 ⟨rfl, g⟩
    have G := Lib.hid (HT.out _ _ g)
    clear g
    go_wp2
    first | (exact bodyPost_end (results_none rfl _ _ _) rfl ⟨rfl, G.out⟩) | (exact bodyPost_ret (results_none rfl _ _ _) rfl ⟨rfl, G.out⟩)
  · by_cases m3 : m = 3
    · subst m3
      rw [if_neg (by omega), if_pos rfl] at HD
      rw [HD.out]
      go_enter Try.func27, Try.ntmps27
      go_wp2_with fail
      refine (HP.out _).mono ?_
      rintro e w1 ⟨rfl, rfl⟩
      go_wp2_with fail
      refine (acc_drop H0.out t _ _ rfl rfl).mono ?_
      rintro e w2 ⟨rfl, g⟩
      have G := Lib.hid (HT.out _ _ g)
      clear g
      go_wp2
      first | (exact bodyPost_end (results_none rfl _ _ _) rfl ⟨rfl, G.out⟩) | (exact bodyPost_ret (results_none rfl _ _ _) rfl ⟨rfl, G.out⟩)
    · rw [if_neg m2, if_neg m3] at HD
      rw [HD.out]
      obtain ⟨⟨b, E⟩, hR⟩ : ∃ x, parkR ss t = x := ⟨_, rfl⟩
      have HR := Lib.hid hR
      clear hR
      have e2 := ne_b m2
      have e3 := ne_b m3
      go_enter Try.func27, Try.ntmps27
      go_wp2_with fail
      refine (HP.out _).mono ?_
      rintro e w1 ⟨rfl, rfl⟩
      go_wp2_with fail
      refine (acc_park H0.out t _ _ _ HR.out rfl).mono ?_
      rintro e w2 ⟨rfl, g⟩
      have G := Lib.hid (HT.out _ _ g)
      clear g
      go_wp2
      first | (exact bodyPost_end (results_none rfl _ _ _) rfl ⟨rfl, G.out⟩) | (exact bodyPost_ret (results_none rfl _ _ _) rfl ⟨rfl, G.out⟩)
end Go.Proofs.Ytbgpnjoghfjodaa
