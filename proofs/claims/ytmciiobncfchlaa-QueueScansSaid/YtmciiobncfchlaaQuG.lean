
/- The document's own queue: Find, Mode, Same. -/
import Derived.Test.YtmciiobncfchlaaQuF
namespace Go.Proofs.Ytmciiobncfchlaa
open Go.RowKit
set_option linter.unusedVariables false      -- a contract need not use every name

def fndV (q : List Rq) (id : Int) : Value := match fnd q id with
  | none => .tuple #[rqV ⟨0, 0, 0, 0, 0⟩, .bool false]
  | some r => .tuple #[rqV r, .bool true]
/-- Where a request's place is known. -/
theorem atIs_none {q : List Rq} {id : Int} (h : AtIs q id (-1)) : fnd q id = none := by
  rcases h with ⟨_, h⟩ | ⟨k, e, _⟩
  · exact h
  · omega
theorem md_step {q : List Rq} {x : Int} {k : Nat} (hk : k < q.length) (h : (q.take k).find? (fun r => r.txn == x) = none) (e : q[k].txn ≠ x) : (q.take (k + 1)).find? (fun r => r.txn == x) = none := by
  rw [List.take_add_one, List.getElem?_eq_getElem hk, List.find?_append, h]
  simp [e]
theorem md_hit {q : List Rq} {x : Int} {k : Nat} (hk : k < q.length) (h : (q.take k).find? (fun r => r.txn == x) = none) (e : q[k].txn = x) : mdQ q x = q[k].md := by
  have e2 : q = q.take k ++ q[k] :: q.drop (k + 1) := by rw [← List.drop_eq_getElem_cons hk, List.take_append_drop]
  have : mdQ (q.take k ++ q[k] :: q.drop (k + 1)) x = q[k].md := by
    unfold mdQ
    rw [List.find?_append, h, List.find?_cons]
    simp [e]
  rwa [← e2] at this
theorem md_none {q : List Rq} {x : Int} (h : q.find? (fun r => r.txn == x) = none) : mdQ q x = 0 := by
  unfold mdQ; rw [h]
theorem take_eq {α : Type} {l m : List α} (h : l.length = m.length) : l = m ↔ l.take l.length = m.take l.length := by
  rw [List.take_length, h, List.take_length]
theorem take_ne {α : Type} {l m : List α} {k : Nat} (h1 : k < l.length) (h2 : k < m.length) (h : l[k] ≠ m[k]) : l ≠ m := fun e => by subst e; exact h rfl
theorem take_two {α : Type} {l m : List α} {k : Nat} (h1 : k < l.length) (h2 : k < m.length) (h : l.take k = m.take k) (e : l[k] = m[k]) : l.take (k + 1) = m.take (k + 1) := by
  rw [List.take_add_one, List.take_add_one, List.getElem?_eq_getElem h1, List.getElem?_eq_getElem h2, h, e]
set_option maxRecDepth 100000 in
set_option maxHeartbeats 8000000 in
theorem r9same_rows (t r W t' r' W' : Int) (b o c b' o' c' : Nat) (q q' : List Rq) (w : World) (ht : t = t') (hr : r = r') (hW : W = W') (hn : q.length = q'.length) (hl : q.length ≤ 1000) (h : RqC w b o q) (h' : RqC w b' o' q') :
    Calls Try.prog 29 #[.agg #[.int .i64 t, .int .i64 r, .slice (some ⟨b, o, none⟩) q.length c, .int .i64 W], .agg #[.int .i64 t', .int .i64 r', .slice (some ⟨b', o', none⟩) q'.length c', .int .i64 W']] w fun e w' => ∃ f, e = .returned (.bool f) ∧ Nw w w' ∧ (f = true ↔ q = q') := by
  subst ht hr hW
  have HC := Lib.hid (And.intro h h')
  clear h h'
  rw [← hn]
  have HNn := Lib.hid hn
  clear hn
  go_enter Try.func29, Try.ntmps29
  go_wp2
  have hN : Nw w ((w.alloc (.cells #[.int .i64 t, .int .i64 r, .slice (some ⟨b, o, none⟩) q.length c, .int .i64 W] 27)).alloc (.cells #[.int .i64 t, .int .i64 r, .slice (some ⟨b', o', none⟩) q.length c', .int .i64 W] 27)) := ((Nw.refl w).alloc _).alloc _
  have hB1 := (HBox.made w t r (.slice (some ⟨b, o, none⟩) q.length c) W 27).nw ((Nw.refl (w.alloc (.cells #[.int .i64 t, .int .i64 r, .slice (some ⟨b, o, none⟩) q.length c, .int .i64 W] 27))).alloc (.cells #[.int .i64 t, .int .i64 r, .slice (some ⟨b', o', none⟩) q.length c', .int .i64 W] 27))
  have hB2 := HBox.made (w.alloc (.cells #[.int .i64 t, .int .i64 r, .slice (some ⟨b, o, none⟩) q.length c, .int .i64 W] 27)) t r (.slice (some ⟨b', o', none⟩) q.length c') W 27
  have hsz1 : (w.alloc (.cells #[.int .i64 t, .int .i64 r, .slice (some ⟨b, o, none⟩) q.length c, .int .i64 W] 27)).heap.size = w.heap.size + 1 := by simp
  rw [hsz1] at hB2
  obtain ⟨p, hp⟩ : ∃ p, w.heap.size = p := ⟨_, rfl⟩
  rw [hp] at hB1 hB2
  rw [hp]
  clear hp hsz1
  generalize (w.alloc (.cells #[.int .i64 t, .int .i64 r, .slice (some ⟨b, o, none⟩) q.length c, .int .i64 W] 27)).alloc (.cells #[.int .i64 t, .int .i64 r, .slice (some ⟨b', o', none⟩) q.length c', .int .i64 W] 27) = z at *
  have HZ := Lib.hid (And.intro hB1 (And.intro hB2 hN))
  have HR := Lib.hid (And.intro (HC.out.1.nw hN) (HC.out.2.nw hN))
  clear hB1 hB2 hN HC
  go_loopw [5] (fun i wr => ∃ k : Nat, k ≤ q.length ∧ i = .int .i64 k ∧ q.take k = q'.take k ∧ Nw z wr) (fun i _ => q.length - (intOf i).toNat)
  case atStart => exact ⟨0, Nat.zero_le _, rfl, rfl, Nw.refl _⟩
  case round =>
    obtain ⟨k, hk, rfl, hf, hG⟩ := hrel
    have hb := HZ.out.1.nw hG
    have h0 := hb.c0
    have h1 := hb.c1
    have h2 := hb.c2
    have h3 := hb.c3
    have hpl := hb.lt
    clear hb
    have hb := HZ.out.2.1.nw hG
    have n0 := hb.c0
    have n1 := hb.c1
    have n2 := hb.c2
    have n3 := hb.c3
    have hpl := hb.lt
    clear hb
    have HG := Lib.hid hG
    by_cases hlt : k < q.length
    · have hlt' : k < q'.length := by have := HNn.out; omega
      have hce := (HR.out.1.nw hG).cell k hlt
      have hde := (HR.out.2.nw hG).cell k hlt'
      have HNe := Lib.hid (fun e => take_ne hlt hlt' e)
      have HEq := Lib.hid (fun e => take_two hlt hlt' hf e)
      generalize q[k] = R at *
      generalize q'[k] = R' at *
      obtain ⟨b0, b1, b2, b3, b4⟩ := R
      obtain ⟨f0, f1, f2, f3, f4⟩ := R'
      have e0 := hce 0 _ rfl
      have e1 := hce 1 _ rfl
      have e2 := hce 2 _ rfl
      have e3 := hce 3 _ rfl
      have e4 := hce 4 _ rfl
      have g0 := hde 0 _ rfl
      have g1 := hde 1 _ rfl
      have g2 := hde 2 _ rfl
      have g3 := hde 3 _ rfl
      have g4 := hde 4 _ rfl
      simp only [Nat.add_zero] at e0 g0
      have hki : (k : Int) < (q.length : Int) := by omega
      clear hce hde hf hG
      by_cases x0 : b0 = f0
      rotate_left
      · have y0 : (b0 == f0) = false := by simpa using x0
        have HQ := Lib.hid (HNe.out (fun e => x0 (by injection e)))
        clear x0 HNe HEq
        go_wp2_with fail
        go_quiet (fail)
        go_wp2
        go_ret
        exact ⟨false, rfl, HZ.out.2.2.trans (HG.out.drewN _), by simpa using HQ.out⟩
      subst x0
      by_cases x1 : b1 = f1
      rotate_left
      · have y1 : (b1 == f1) = false := by simpa using x1
        have HQ := Lib.hid (HNe.out (fun e => x1 (by injection e)))
        clear x1 HNe HEq
        go_wp2_with fail
        go_quiet (fail)
        go_wp2
        go_ret
        exact ⟨false, rfl, HZ.out.2.2.trans (HG.out.drewN _), by simpa using HQ.out⟩
      subst x1
      by_cases x2 : b2 = f2
      rotate_left
      · have y2 : (b2 == f2) = false := by simpa using x2
        have HQ := Lib.hid (HNe.out (fun e => x2 (by injection e)))
        clear x2 HNe HEq
        go_wp2_with fail
        go_quiet (fail)
        go_wp2
        go_ret
        exact ⟨false, rfl, HZ.out.2.2.trans (HG.out.drewN _), by simpa using HQ.out⟩
      subst x2
      by_cases x3 : b3 = f3
      rotate_left
      · have y3 : (b3 == f3) = false := by simpa using x3
        have HQ := Lib.hid (HNe.out (fun e => x3 (by injection e)))
        clear x3 HNe HEq
        go_wp2_with fail
        go_quiet (fail)
        go_wp2
        go_ret
        exact ⟨false, rfl, HZ.out.2.2.trans (HG.out.drewN _), by simpa using HQ.out⟩
      subst x3
      by_cases x4 : b4 = f4
      rotate_left
      · have y4 : (b4 == f4) = false := by simpa using x4
        have HQ := Lib.hid (HNe.out (fun e => x4 (by injection e)))
        clear x4 HNe HEq
        go_wp2_with fail
        go_quiet (fail)
        go_wp2
        go_ret
        exact ⟨false, rfl, HZ.out.2.2.trans (HG.out.drewN _), by simpa using HQ.out⟩
      subst x4
      have HQ := Lib.hid (HEq.out rfl)
      clear HNe HEq
      go_wp2_with fail
      go_quiet (fail)
      go_wp2
      go_roundw
      case rel => exact ⟨k + 1, by omega, by go_num, HQ.out, HG.out.drewN _⟩
      case measure => simp [intOf]; omega
    · obtain rfl : k = q.length := by omega
      have HQ := Lib.hid ((take_eq HNn.out).2 hf)
      clear hf hG
      go_wp2
      go_ret
      exact ⟨true, rfl, HZ.out.2.2.trans HG.out, by simpa using HQ.out⟩
end Go.Proofs.Ytmciiobncfchlaa
