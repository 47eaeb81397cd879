
/- Values of events and spans; what an event is by itself, whether a span has ended, Before. -/
import Derived.Test.YtekjmgdockfaiaaDoorHsM
import Derived.Test.YtekjmgdockfaiaaDoorTch
import Derived.Test.YtekjmgdockfaiaaDoorRegion
namespace Go.Proofs.YtekjmgdockfaiaaDoor
open Go.RowKit

abbrev evV (e : Ev) : Value := .agg #[.int .i64 e.call, .int .i64 e.thread, .bool e.inv, .int .i64 e.act.kind, .int .i64 e.act.txn, .int .i64 e.act.tab, .int .i64 e.act.rcd, .int .i64 e.act.mode, .int .i64 e.act.code]
abbrev spV (s : Sp) : Value := .agg #[.int .i64 s.call, .int .i64 s.thread, .int .i64 s.fr, .int .i64 s.to, .int .i64 s.act.kind, .int .i64 s.act.txn, .int .i64 s.act.tab, .int .i64 s.act.rcd, .int .i64 s.act.mode, .int .i64 s.act.code]
theorem Nw.rl {a b : World} (h : Nw a b) : (∀ k o, k < a.heap.size → b.cell? ⟨k, o, none⟩ = a.cell? ⟨k, o, none⟩) ∧ (∀ k o, k < a.heap.size → b.frozen? ⟨k, o, none⟩ = a.frozen? ⟨k, o, none⟩) :=
  ⟨fun k o hk => Below.cell (p := ⟨k, o, none⟩) h hk, fun k o hk => Below.frozen (p := ⟨k, o, none⟩) h hk⟩
def erow (e : Ev) : List Value := [.int .i64 e.call, .int .i64 e.thread, .bool e.inv, .int .i64 e.act.kind, .int .i64 e.act.txn, .int .i64 e.act.tab, .int .i64 e.act.rcd, .int .i64 e.act.mode, .int .i64 e.act.code]
def srow (s : Sp) : List Value := [.int .i64 s.call, .int .i64 s.thread, .int .i64 s.fr, .int .i64 s.to, .int .i64 s.act.kind, .int .i64 s.act.txn, .int .i64 s.act.tab, .int .i64 s.act.rcd, .int .i64 s.act.mode, .int .i64 s.act.code]
set_option maxHeartbeats 2000000 in
set_option maxRecDepth 100000 in
theorem formed_any (e : Ev) (w : World) : Calls Tryd.prog 34 #[evV e] w fun x w' => x = .returned (.bool (okE e)) ∧ Nw w w' := by
  obtain ⟨c, t, i, k, x, tb, rc, m, co⟩ := e
  have hO : okE ⟨c, t, i, ⟨k, x, tb, rc, m, co⟩⟩ = (!(decide (c < 0) || decide (t < 0)) && (if i = true then ((decide (1 ≤ k) && decide (k ≤ 4)) && (co == 0)) else ((decide (1 ≤ co) && decide (co ≤ 6)) && ((k == 0) && (x == 0) && (tb == 0) && (rc == 0) && (m == 0))))) := rfl
  rw [hO]
  clear hO
  cases i
  case true =>
    by_cases h1 : c < 0
    case pos =>
      have d1 : decide (c < 0) = true := by simpa using h1
      go_enter Tryd.func34, Tryd.ntmps34
      go_wp2
      go_ret
      exact ⟨by first | (simp; done) | (simp [d1]; done) | (simp [d1]; omega), (Nw.refl w).alloc _⟩
    have d1 : decide (c < 0) = false := by simpa using h1
    by_cases h2 : t < 0
    case pos =>
      have d2 : decide (t < 0) = true := by simpa using h2
      go_enter Tryd.func34, Tryd.ntmps34
      go_wp2
      go_ret
      exact ⟨by first | (simp; done) | (simp [d1, d2]; done) | (simp [d1, d2]; omega), (Nw.refl w).alloc _⟩
    have d2 : decide (t < 0) = false := by simpa using h2
    by_cases h3 : 1 ≤ k
    case neg =>
      have d3 : decide (1 ≤ k) = false := by simpa using h3
      go_enter Tryd.func34, Tryd.ntmps34
      go_wp2
      go_ret
      exact ⟨by first | (simp; done) | (simp [d1, d2, d3]; done) | (simp [d1, d2, d3]; omega), (Nw.refl w).alloc _⟩
    have d3 : decide (1 ≤ k) = true := by simpa using h3
    by_cases h4 : k ≤ 4
    case neg =>
      have d4 : decide (k ≤ 4) = false := by simpa using h4
      go_enter Tryd.func34, Tryd.ntmps34
      go_wp2
      go_ret
      exact ⟨by first | (simp; done) | (simp [d1, d2, d3, d4]; done) | (simp [d1, d2, d3, d4]; omega), (Nw.refl w).alloc _⟩
    have d4 : decide (k ≤ 4) = true := by simpa using h4
    by_cases h5 : co = 0
    case neg =>
      have d5 : (co == 0) = false := by simpa using h5
      go_enter Tryd.func34, Tryd.ntmps34
      go_wp2
      go_ret
      exact ⟨by first | (simp; done) | (simp [d1, d2, d3, d4, d5]; done) | (simp [d1, d2, d3, d4, d5]; omega), (Nw.refl w).alloc _⟩
    have d5 : (co == 0) = true := by simpa using h5
    go_enter Tryd.func34, Tryd.ntmps34
    go_wp2
    go_ret
    exact ⟨by first | (simp; done) | (simp [d1, d2, d3, d4, d5]; done) | (simp [d1, d2, d3, d4, d5]; omega), (Nw.refl w).alloc _⟩
  case false =>
    by_cases h6 : c < 0
    case pos =>
      have d6 : decide (c < 0) = true := by simpa using h6
      go_enter Tryd.func34, Tryd.ntmps34
      go_wp2
      go_ret
      exact ⟨by first | (simp; done) | (simp [d6]; done) | (simp [d6]; omega), (Nw.refl w).alloc _⟩
    have d6 : decide (c < 0) = false := by simpa using h6
    by_cases h7 : t < 0
    case pos =>
      have d7 : decide (t < 0) = true := by simpa using h7
      go_enter Tryd.func34, Tryd.ntmps34
      go_wp2
      go_ret
      exact ⟨by first | (simp; done) | (simp [d6, d7]; done) | (simp [d6, d7]; omega), (Nw.refl w).alloc _⟩
    have d7 : decide (t < 0) = false := by simpa using h7
    by_cases h8 : 1 ≤ co
    case neg =>
      have d8 : decide (1 ≤ co) = false := by simpa using h8
      go_enter Tryd.func34, Tryd.ntmps34
      go_wp2
      go_ret
      exact ⟨by first | (simp; done) | (simp [d6, d7, d8]; done) | (simp [d6, d7, d8]; omega), (Nw.refl w).alloc _⟩
    have d8 : decide (1 ≤ co) = true := by simpa using h8
    by_cases h9 : co ≤ 6
    case neg =>
      have d9 : decide (co ≤ 6) = false := by simpa using h9
      go_enter Tryd.func34, Tryd.ntmps34
      go_wp2
      go_ret
      exact ⟨by first | (simp; done) | (simp [d6, d7, d8, d9]; done) | (simp [d6, d7, d8, d9]; omega), (Nw.refl w).alloc _⟩
    have d9 : decide (co ≤ 6) = true := by simpa using h9
    by_cases h10 : k = 0
    case neg =>
      have d10 : (k == 0) = false := by simpa using h10
      go_enter Tryd.func34, Tryd.ntmps34
      go_wp2
      go_ret
      exact ⟨by first | (simp; done) | (simp [d6, d7, d8, d9, d10]; done) | (simp [d6, d7, d8, d9, d10]; omega), (Nw.refl w).alloc _⟩
    have d10 : (k == 0) = true := by simpa using h10
    by_cases h11 : x = 0
    case neg =>
      have d11 : (x == 0) = false := by simpa using h11
      go_enter Tryd.func34, Tryd.ntmps34
      go_wp2
      go_ret
      exact ⟨by first | (simp; done) | (simp [d6, d7, d8, d9, d10, d11]; done) | (simp [d6, d7, d8, d9, d10, d11]; omega), (Nw.refl w).alloc _⟩
    have d11 : (x == 0) = true := by simpa using h11
    by_cases h12 : tb = 0
    case neg =>
      have d12 : (tb == 0) = false := by simpa using h12
      go_enter Tryd.func34, Tryd.ntmps34
      go_wp2
      go_ret
      exact ⟨by first | (simp; done) | (simp [d6, d7, d8, d9, d10, d11, d12]; done) | (simp [d6, d7, d8, d9, d10, d11, d12]; omega), (Nw.refl w).alloc _⟩
    have d12 : (tb == 0) = true := by simpa using h12
    by_cases h13 : rc = 0
    case neg =>
      have d13 : (rc == 0) = false := by simpa using h13
      go_enter Tryd.func34, Tryd.ntmps34
      go_wp2
      go_ret
      exact ⟨by first | (simp; done) | (simp [d6, d7, d8, d9, d10, d11, d12, d13]; done) | (simp [d6, d7, d8, d9, d10, d11, d12, d13]; omega), (Nw.refl w).alloc _⟩
    have d13 : (rc == 0) = true := by simpa using h13
    by_cases h14 : m = 0
    case neg =>
      have d14 : (m == 0) = false := by simpa using h14
      go_enter Tryd.func34, Tryd.ntmps34
      go_wp2
      go_ret
      exact ⟨by first | (simp; done) | (simp [d6, d7, d8, d9, d10, d11, d12, d13, d14]; done) | (simp [d6, d7, d8, d9, d10, d11, d12, d13, d14]; omega), (Nw.refl w).alloc _⟩
    have d14 : (m == 0) = true := by simpa using h14
    go_enter Tryd.func34, Tryd.ntmps34
    go_wp2
    go_ret
    exact ⟨by first | (simp; done) | (simp [d6, d7, d8, d9, d10, d11, d12, d13, d14]; done) | (simp [d6, d7, d8, d9, d10, d11, d12, d13, d14]; omega), (Nw.refl w).alloc _⟩
theorem ended_any (s : Sp) (w : World) : Calls Tryd.prog 20 #[spV s] w fun x w' => x = .returned (.bool (decide (0 ≤ s.to))) ∧ Nw w w' := by
  obtain ⟨a, b, c, d, e⟩ := s
  go_enter Tryd.func20, Tryd.ntmps20
  go_wp2
  go_ret
  exact ⟨rfl, (Nw.refl w).alloc _⟩
def befS (a b : Sp) : Bool := decide (0 ≤ a.to) && decide (a.to < b.fr)
set_option maxHeartbeats 1000000 in
theorem before_any (a b : Sp) (w : World) : Calls Tryd.prog 13 #[spV a, spV b] w fun x w' => x = .returned (.bool (befS a b)) ∧ Nw w w' := by
  have HE := Lib.hid (ended_any a)
  unfold befS
  by_cases h : 0 ≤ a.to
  · have d : decide (0 ≤ a.to) = true := by simpa using h
    have hc : ∀ o, (w.alloc o).cell? ⟨w.heap.size, 0, none⟩ = (w.alloc o).cell? ⟨w.heap.size, 0, none⟩ := fun _ => rfl
    clear hc
    rw [d] at HE
    go_enter Tryd.func13, Tryd.ntmps13
    go_wp2_with (go_at_call 20; refine (HE.out _).mono ?_; rintro e w' ⟨rfl, hg⟩; obtain ⟨hc, hf⟩ := hg.rl)
    go_ret
    exact ⟨by first | (simp; done) | (simp at d; simp; intros; omega) | (simp at d; simp; intros; first | assumption | omega), (((Nw.refl w).alloc _).alloc _).trans hg⟩
  · have d : decide (0 ≤ a.to) = false := by simpa using h
    rw [d] at HE
    go_enter Tryd.func13, Tryd.ntmps13
    go_wp2_with (go_at_call 20; refine (HE.out _).mono ?_; rintro e w' ⟨rfl, hg⟩; obtain ⟨hc, hf⟩ := hg.rl)
    go_ret
    exact ⟨by first | (simp; done) | (simp at d; simp; intros; omega) | (simp at d; simp; intros; first | assumption | omega), (((Nw.refl w).alloc _).alloc _).trans hg⟩
end Go.Proofs.YtekjmgdockfaiaaDoor
