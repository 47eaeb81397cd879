
/- LatchApart: its facts. -/
import Derived.Test.YtloendfkfginjaaLtU
namespace Go.Proofs.Ytloendfkfginjaa
open Go.RowKit

theorem try_ho {hs : List Int} {i j : Nat} (h : Okl hs i j) (m : Nat) : ho (tryS hs i j) m = if i = m then (if ho hs i < 0 then (j : Int) else ho hs i) else ho hs m := by
  have hi : i < hs.length := by unfold Okl at h; omega
  unfold tryS
  simp only [Int.toNat_natCast]
  by_cases q : ho hs i < 0
  · rw [if_pos ⟨h, q⟩, ho_set _ _ _ _ hi, if_pos q]
  · rw [if_neg (fun e => q e.2), if_neg q]
    by_cases e : i = m
    · subst e; rw [if_pos rfl]
    · rw [if_neg e]
theorem free_ho {hs : List Int} {i j : Nat} (h : Okl hs i j) (m : Nat) : ho (freeS hs i j) m = if i = m then (if ho hs i = (j : Int) then -1 else ho hs i) else ho hs m := by
  have hi : i < hs.length := by unfold Okl at h; omega
  unfold freeS
  simp only [Int.toNat_natCast]
  by_cases q : ho hs i = (j : Int)
  · rw [if_pos ⟨h, q⟩, ho_set _ _ _ _ hi, if_pos q]
  · rw [if_neg (fun e => q e.2), if_neg q]
    by_cases e : i = m
    · subst e; rw [if_pos rfl]
    · rw [if_neg e]
/-- What the law keeps: latch k is the same in both; of the second, no other one is held. -/
structure Ap (ha hb : List Int) (k N : Nat) : Prop where
  la : ha.length = N
  lb : hb.length = N
  eq : ho ha k = ho hb k
  no : ∀ j, j ≠ k → ho hb j = -1
theorem ap_start (N k : Nat) : Ap (List.replicate N (-1)) (List.replicate N (-1)) k N := ⟨by simp, by simp, rfl, fun j _ => ho_new N j⟩
theorem okl_of {hs : List Int} {i j N : Nat} (h : hs.length = N) (hi : i < N) (hj : j < 8) : Okl hs i j := by unfold Okl; omega
theorem Ap.tryA {ha hb : List Int} {k N i j : Nat} (h : Ap ha hb k N) (hi : i < N) (hj : j < 8) (e : i ≠ k) : Ap (tryS ha i j) hb k N :=
  ⟨(tryS_len _ _ _).trans h.la, h.lb, by rw [try_ho (okl_of h.la hi hj), if_neg e]; exact h.eq, h.no⟩
theorem Ap.tryB {ha hb : List Int} {k N j : Nat} (h : Ap ha hb k N) (hi : k < N) (hj : j < 8) : Ap (tryS ha k j) (tryS hb k j) k N :=
  ⟨(tryS_len _ _ _).trans h.la, (tryS_len _ _ _).trans h.lb, by rw [try_ho (okl_of h.la hi hj), try_ho (okl_of h.lb hi hj), h.eq], fun m hm => by rw [try_ho (okl_of h.lb hi hj), if_neg (fun e => hm e.symm)]; exact h.no m hm⟩
theorem Ap.freeA {ha hb : List Int} {k N i j : Nat} (h : Ap ha hb k N) (hi : i < N) (hj : j < 8) (e : i ≠ k) : Ap (freeS ha i j) hb k N :=
  ⟨(freeS_len _ _ _).trans h.la, h.lb, by rw [free_ho (okl_of h.la hi hj), if_neg e]; exact h.eq, h.no⟩
theorem Ap.freeB {ha hb : List Int} {k N j : Nat} (h : Ap ha hb k N) (hi : k < N) (hj : j < 8) : Ap (freeS ha k j) (freeS hb k j) k N :=
  ⟨(freeS_len _ _ _).trans h.la, (freeS_len _ _ _).trans h.lb, by rw [free_ho (okl_of h.la hi hj), free_ho (okl_of h.lb hi hj), h.eq], fun m hm => by rw [free_ho (okl_of h.lb hi hj), if_neg (fun e => hm e.symm)]; exact h.no m hm⟩
theorem Ap.hold {ha hb : List Int} {k N : Nat} (h : Ap ha hb k N) : holdR hb k = holdR ha k := by
  unfold holdR
  simp only [Int.toNat_natCast]
  rw [h.la, h.lb, h.eq]
theorem Ap.one {ha hb : List Int} {k N : Nat} (h : Ap ha hb k N) : takL hb ≤ 1 := by
  have : ∀ m, takT hb m ≤ if k < m then 1 else 0 := by
    intro m
    induction m with
    | zero => simp [takT]
    | succ m ih =>
      rw [takT_succ]
      by_cases e : m = k
      · subst e
        rw [if_neg (Nat.lt_irrefl _)] at ih
        rw [if_pos (Nat.lt_succ_self _)]
        split <;> omega
      · have : takB hb m = false := by unfold takB; rw [h.no m e]; rfl
        rw [this]
        simp only [Bool.false_eq_true, if_false]
        by_cases q : k < m
        · rw [if_pos q] at ih; rw [if_pos (show k < m + 1 by omega)]; exact ih
        · rw [if_neg q] at ih; omega
  have := this hb.length
  unfold takL
  split at this <;> omega
/-- Two latches of the call's own. -/
structure Two (w W : World) (la lb : Nat) (ha hb : List Int) (Fa Fb : Nat → Prop) : Prop where
  a : Acc w W la ha Fa
  b : Acc w W lb hb Fb
  dj : ∀ k, Fa k → ¬ Fb k
theorem Two.nw {w W W' : World} {la lb : Nat} {ha hb : List Int} {Fa Fb : Nat → Prop} (h : Two w W la lb ha hb Fa Fb) (k : Nw W W') : Two w W' la lb ha hb Fa Fb := ⟨h.a.step k, h.b.step k, h.dj⟩
theorem Two.toA {w W W' : World} {la lb : Nat} {ha ha' hb : List Int} {Fa Fb : Nat → Prop} (h : Two w W la lb ha hb Fa Fb) (k : AccTo w W la ha' Fa W') : ∃ Fa', Two w W' la lb ha' hb Fa' Fb := by
  obtain ⟨F', h1, h2, h3⟩ := k
  exact ⟨F', h1, h.b.other h3 h.a.new (fun i e q => h.dj i q e), fun i e q => (h2 i e).elim (fun e => h.dj i e q) (fun e => by have := h.b.lat.own i q; omega)⟩
theorem Two.toB {w W W' : World} {la lb : Nat} {ha hb hb' : List Int} {Fa Fb : Nat → Prop} (h : Two w W la lb ha hb Fa Fb) (k : AccTo w W lb hb' Fb W') : ∃ Fb', Two w W' la lb ha hb' Fa Fb' := by
  obtain ⟨F', h1, h2, h3⟩ := k
  exact ⟨F', h.a.other h3 h.b.new (fun i e q => h.dj i e q), h1, fun i e q => (h2 i q).elim (fun q => h.dj i e q) (fun q => by have := h.a.lat.own i e; omega)⟩
theorem two_new {w W W' : World} {la lb : Nat} {ha hb : List Int} {Fa Fb : Nat → Prop} (h : Acc w W la ha Fa) (k : Acc w W' lb hb Fb) (n : Nw W W') (f : ∀ k, Fb k → W.heap.size ≤ k) : Two w W' la lb ha hb Fa Fb :=
  ⟨h.step n, k, fun i e q => by have := h.lat.own i e; have := f i q; omega⟩
def RetB (e : Ending) : Prop := ∃ b E, e = .returned (.tuple #[.bool b, .int .i64 E])
theorem two_tryA {w W : World} {la lb : Nat} {ha hb : List Int} {Fa Fb : Nat → Prop} (h : Two w W la lb ha hb Fa Fb) (k t : Int) :
    Calls Try.prog 10 #[.pointer (some ⟨la, 0, none⟩), .int .i64 k, .int .i64 t] W fun e W' => RetB e ∧ ∃ F', Two w W' la lb (tryS ha k t) hb F' Fb :=
  (acc_try h.a k t _ _ _ rfl rfl).mono fun _ _ ⟨h1, h2⟩ => ⟨⟨_, _, h1⟩, h.toA h2⟩
theorem two_tryB {w W : World} {la lb : Nat} {ha hb : List Int} {Fa Fb : Nat → Prop} (h : Two w W la lb ha hb Fa Fb) (k t : Int) :
    Calls Try.prog 10 #[.pointer (some ⟨lb, 0, none⟩), .int .i64 k, .int .i64 t] W fun e W' => RetB e ∧ ∃ F', Two w W' la lb ha (tryS hb k t) Fa F' :=
  (acc_try h.b k t _ _ _ rfl rfl).mono fun _ _ ⟨h1, h2⟩ => ⟨⟨_, _, h1⟩, h.toB h2⟩
theorem two_freeA {w W : World} {la lb : Nat} {ha hb : List Int} {Fa Fb : Nat → Prop} (h : Two w W la lb ha hb Fa Fb) (k t : Int) :
    Calls Try.prog 11 #[.pointer (some ⟨la, 0, none⟩), .int .i64 k, .int .i64 t] W fun e W' => (∃ E, e = .returned (.int .i64 E)) ∧ ∃ F', Two w W' la lb (freeS ha k t) hb F' Fb :=
  (acc_free h.a k t _ _ rfl rfl).mono fun _ _ ⟨h1, h2⟩ => ⟨⟨_, h1⟩, h.toA h2⟩
theorem two_freeB {w W : World} {la lb : Nat} {ha hb : List Int} {Fa Fb : Nat → Prop} (h : Two w W la lb ha hb Fa Fb) (k t : Int) :
    Calls Try.prog 11 #[.pointer (some ⟨lb, 0, none⟩), .int .i64 k, .int .i64 t] W fun e W' => (∃ E, e = .returned (.int .i64 E)) ∧ ∃ F', Two w W' la lb ha (freeS hb k t) Fa F' :=
  (acc_free h.b k t _ _ rfl rfl).mono fun _ _ ⟨h1, h2⟩ => ⟨⟨_, h1⟩, h.toB h2⟩
end Go.Proofs.Ytloendfkfginjaa
