
/- The document's own pool. -/
import Derived.Test.YtckbjgcelpmffaaPoC
namespace Go.Proofs.Ytckbjgcelpmffaa
open Go.RowKit
set_option linter.unusedVariables false

/-- The document's own pool in memory: a row of truths. -/
structure Rp (W : World) (o g : Nat) (L : List Bool) : Prop where
  p0 : W.cell? ⟨o, 0, none⟩ = some (.slice (some ⟨g, 0, none⟩) L.length L.length)
  cs : ∀ i, i < L.length → W.cell? ⟨g, i, none⟩ = some (.bool (L.getD i false)) ∧ W.frozen? ⟨g, i, none⟩ = false
  ol : o < W.heap.size
  gl : g < W.heap.size
  og : g ≠ o
  sz : L.length ≤ 128
theorem Rp.tch {S : Nat → Prop} {W W' : World} {o g : Nat} {L : List Bool} (h : Rp W o g L) (k : Tch S W W') (ho : ¬ S o) (hg : ¬ S g) : Rp W' o g L :=
  ⟨(k.cell h.ol ho).trans h.p0, fun i hi => ⟨(k.cell h.gl hg).trans (h.cs i hi).1, (k.froz h.gl hg).trans (h.cs i hi).2⟩, Nat.lt_of_lt_of_le h.ol k.size, Nat.lt_of_lt_of_le h.gl k.size, h.og, h.sz⟩
theorem Rp.nw {W W' : World} {o g : Nat} {L : List Bool} (h : Rp W o g L) (k : Nw W W') : Rp W' o g L := h.tch (Tch.nw (S := fun _ => False) k) (fun e => e) (fun e => e)
def RpTo (W : World) (o g : Nat) (L : List Bool) (W' : World) : Prop := Rp W' o g L ∧ Tch (fun k => k = g) W W'
theorem Rp.keep {W : World} {o g : Nat} {L : List Bool} (h : Rp W o g L) : RpTo W o g L W := ⟨h, Tch.refl _ W⟩
theorem Rp.put {W : World} {o g : Nat} {L : List Bool} (h : Rp W o g L) {i : Nat} (b : Bool) (hi : i < L.length) : RpTo W o g (L.set i b) (W.setCell ⟨g, i, none⟩ (.bool b)) := by
  have t := setCell_at W ⟨g, i, none⟩ (.bool b)
  refine ⟨⟨by rw [List.length_set]; exact (t.cell h.ol (fun e => h.og e.symm)).trans h.p0, fun j hj => ?_, by simpa using h.ol, by simpa using h.gl, h.og, by rw [List.length_set]; exact h.sz⟩, t⟩
  rw [List.length_set] at hj
  refine ⟨?_, by rw [World.frozen?_setCell]; exact (h.cs j hj).2⟩
  by_cases q : i = j
  · subst q
    rw [getD_at (by simpa using hj), List.getElem_set_self]
    exact World.cell?_setCell_same _ _ _ (h.cs _ hj).1
  · rw [getD_at (by simpa using hj), List.getElem_set_ne q, ← getD_at hj]
    exact (World.cell?_setCell_other _ _ _ _ (fun r => q (congrArg Addr.off r))).trans (h.cs j hj).1

theorem rhas_at {o g : Nat} {L : List Bool} {W : World} (h : Rp W o g L) (n : Int) : Calls Try.prog 23 #[.pointer (some ⟨o, 0, none⟩), .int .i64 n] W fun e W' => e = .returned (.bool (hsL L n)) ∧ W = W' := by
  have hr := h.p0
  have hsz := h.sz
  have hg := h.gl
  by_cases hn : 0 ≤ n
  · obtain ⟨i, rfl⟩ := Int.eq_ofNat_of_zero_le hn
    by_cases hi : i < L.length
    · have hc := (h.cs i hi).1
      have e : hsL L i = L.getD i false := by simp [hsL]
      rw [e]
      generalize L.getD i false = b at *
      generalize L.length = N at *
      clear h e hn
      go_enter Try.func23, Try.ntmps23
      go_wp2
      go_ret
      exact ⟨rfl, rfl⟩
    · have e : hsL L i = false := by simp [hsL, List.getElem?_eq_none (show L.length ≤ i by omega)]
      rw [e]
      generalize L.length = N at *
      have hd : decide (i < N) = false := by simpa using hi
      clear h e hn hi
      go_enter Try.func23, Try.ntmps23
      go_wp2
      go_ret
      exact ⟨rfl, rfl⟩
  · have e : hsL L n = false := by simp [hsL, hn]
    rw [e]
    clear h e hr
    generalize L.length = N at *
    go_enter Try.func23, Try.ntmps23
    go_wp2
    go_ret
    exact ⟨rfl, rfl⟩
theorem rmost_at {o g : Nat} {L : List Bool} {W : World} (h : Rp W o g L) : Calls Try.prog 22 #[.pointer (some ⟨o, 0, none⟩)] W fun e W' => e = .returned (.int .i64 L.length) ∧ W = W' := by
  have hr := h.p0
  clear h
  go_enter Try.func22, Try.ntmps22
  go_wp2
  go_ret
  exact ⟨rfl, rfl⟩
theorem rgive_at {o g : Nat} {L : List Bool} {W : World} (h : Rp W o g L) (n : Int) : Calls Try.prog 19 #[.pointer (some ⟨o, 0, none⟩), .int .i64 n] W fun e W' => e = .returned (.int .i64 (gvR L n)) ∧ RpTo W o g (gvL L n) W' := by
  have HH := Lib.hid (rhas_at h n)
  rcases q : hsL L n with _ | _
  · rw [gvL_bad q, show gvR L n = 5 by simp [gvR, q]]
    rw [q] at HH
    have HK := Lib.hid h.keep
    clear h q
    go_enter Try.func19, Try.ntmps19
    go_wp2_with (go_at_call 23; refine HH.out.mono ?_; rintro e w' ⟨rfl, rfl⟩)
    go_ret
    exact ⟨rfl, HK.out⟩
  · rw [show gvR L n = 0 by simp [gvR, q]]
    rw [q] at HH
    obtain ⟨i, rfl, hi, e⟩ := hsL_at q
    rw [gvL_nat L i (by rw [getD_at hi]; exact e)]
    have HK := Lib.hid (h.put false hi)
    have hr := h.p0
    obtain ⟨hc, hf⟩ := h.cs i hi
    have hgl := h.gl
    have hsz := h.sz
    clear h q e
    generalize L.getD i false = b at *
    generalize L.length = N at *
    go_enter Try.func19, Try.ntmps19
    go_wp2_with (go_at_call 23; refine HH.out.mono ?_; rintro e w' ⟨rfl, rfl⟩)
    go_ret
    exact ⟨rfl, HK.out⟩
theorem rtake_at {o g : Nat} {L : List Bool} {W : World} (h : Rp W o g L) : Calls Try.prog 18 #[.pointer (some ⟨o, 0, none⟩)] W fun e W' => e = .returned (.tuple #[.int .i64 (tkR L).1, .int .i64 (tkR L).2]) ∧ RpTo W o g (tkL L) W' := by
  have hr := h.p0
  have hgl := h.gl
  have hsz := h.sz
  have hfl := fre_le L
  have H := Lib.hid h
  clear h
  obtain ⟨a, b, hab⟩ : ∃ a b, tkR L = (a, b) := ⟨_, _, rfl⟩
  have HR := Lib.hid hab
  rw [hab]
  clear hab
  go_enter Try.func18, Try.ntmps18
  go_wp2
  go_loopw [4] (fun i wr => ∃ k : Nat, k ≤ fre L ∧ i = .int .i64 k ∧ W = wr) (fun i _ => L.length - (intOf i).toNat)
  case atStart => exact ⟨0, Nat.zero_le _, rfl, rfl⟩
  case round =>
    obtain ⟨k, hk, rfl, rfl⟩ := hrel
    by_cases hlt : k < L.length
    · obtain ⟨c, f⟩ := H.out.cs k hlt
      have hlti : (k : Int) < (L.length : Int) := by omega
      by_cases hkf : k < fre L
      · rw [getD_at hlt, fre_below L k hlt hkf] at c
        go_wp2
        go_roundw
        case rel => exact ⟨k + 1, by omega, by go_num, trivial⟩
        case measure => simp [intOf]; omega
      · obtain rfl : k = fre L := by omega
        rw [getD_at hlt, fre_free L hlt] at c
        have e1 : tkL L = L.set (fre L) true := if_pos hlt
        have HP := Lib.hid (H.out.put true hlt)
        rw [← e1] at HP
        have e2 : ((fre L : Int), (0 : Int)) = (a, b) := by rw [← HR.out]; exact (if_pos hlt).symm
        simp only [Prod.mk.injEq] at e2
        obtain ⟨rfl, rfl⟩ := e2
        clear e1 hkf
        go_wp2
        exact bodyPost_ret (v := .tuple #[.int .i64 (fre L), .int .i64 0]) (by simp [results, Try.results18, go_sem]) rfl ⟨rfl, HP.out⟩
    · have hq : ¬ fre L < L.length := by omega
      have e2 : ((0 : Int), (8 : Int)) = (a, b) := by rw [← HR.out]; exact (if_neg hq).symm
      simp only [Prod.mk.injEq] at e2
      obtain ⟨rfl, rfl⟩ := e2
      have HK := Lib.hid H.out.keep
      rw [← tkL_full hq] at HK
      have hd : decide ((k : Int) < (L.length : Int)) = false := by simp; omega
      clear hq
      go_wp2
      exact bodyPost_ret (v := .tuple #[.int .i64 0, .int .i64 8]) (by simp [results, Try.results18, go_sem]) rfl ⟨rfl, HK.out⟩
theorem rpnew_bad (n : Int) (w : World) (q : ¬ (0 ≤ n ∧ n ≤ 128)) : Calls Try.prog 17 #[.int .i64 n] w fun e W' => e = .returned (.tuple #[.pointer none, .int .i64 2]) ∧ w = W' := by
  by_cases d : n < 0
  · clear q
    go_enter Try.func17, Try.ntmps17
    go_wp2
    exact bodyPost_ret (v := .tuple #[.pointer none, .int .i64 2]) (by simp [results, Try.results17, go_sem]) rfl ⟨rfl, rfl⟩
  · have d2 : (128 : Int) < n := by omega
    clear q
    go_enter Try.func17, Try.ntmps17
    go_wp2
    exact bodyPost_ret (v := .tuple #[.pointer none, .int .i64 2]) (by simp [results, Try.results17, go_sem]) rfl ⟨rfl, rfl⟩
theorem rp_new (w : World) (N : Nat) (hN : N ≤ 128) (T U : TypeId) : Rp ((w.alloc (.cells (Array.replicate N (.bool false)) T)).alloc (.cells #[.slice (some ⟨w.heap.size, 0, none⟩) N N] U)) (w.heap.size + 1) w.heap.size (List.replicate N false) := by
  refine ⟨by simp [go_sem], fun i hi => ?_, by simp, by simp; omega, by omega, by simpa using hN⟩
  rw [List.length_replicate] at hi
  have e : (List.replicate N false).getD i false = false := by simp [List.getD, hi]
  rw [e]
  constructor <;> simp [go_sem, hi]
theorem rpnew_any (N : Nat) (hN : N ≤ 128) (w : World) : Calls Try.prog 17 #[.int .i64 N] w fun e W => ∃ o g, e = .returned (.tuple #[.pointer (some ⟨o, 0, none⟩), .int .i64 0]) ∧ Rp W o g (List.replicate N false) ∧ w.heap.size ≤ o ∧ w.heap.size ≤ g ∧ Nw w W := by
  have km := fun w => mk_bools w N (by omega)
  have HS := Lib.hid (rp_new w N hN 4 57)
  have hd2 : decide ((128 : Int) < (N : Int)) = false := by simp; omega
  have hd : decide (128 < N) = false := by simp; omega
  go_enter Try.func17, Try.ntmps17
  go_wp2
  exact bodyPost_ret (v := .tuple #[.pointer (some ⟨w.heap.size + 1, 0, none⟩), .int .i64 0]) (by simp [results, Try.results17, go_sem]) rfl ⟨_, _, rfl, HS.out, Nat.le_succ _, Nat.le_refl _, ((Nw.refl w).alloc _).alloc _⟩
end Go.Proofs.Ytckbjgcelpmffaa
