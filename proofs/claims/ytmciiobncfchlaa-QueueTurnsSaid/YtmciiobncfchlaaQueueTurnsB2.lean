/- Texts merged: R1, R1B, QuA, Region, Lex, Ord, OrdP, QvA, Ints -/
import Derived.Test.YtmciiobncfchlaaQueueTurnsB1
import Derived.LoopTactic
import Derived.Deep.QuietTactic
import Derived.BigQuiet
import Derived.Deep.RegionHeld3
import Derived.Shelf.Abstract

/- The document's own answers on modes: Known, Compatible, Covers, Sup. -/
section
namespace Go.Proofs.Ytmciiobncfchlaa
open Go.RowKit
set_option linter.unusedVariables false      -- a contract need not use every name

theorem kn_no (m : Int) : knI m = false ↔ m < 0 ∨ 7 ≤ m := by
  rw [Bool.eq_false_iff, ne_eq, knI_iff]; omega
theorem r1known (m : Int) (w : World) : Calls Try.prog 66 #[.int .i64 m] w fun e w' => e = .returned (.bool (knI m)) ∧ w = w' := by
  cases h : knI m with
  | true =>
    rw [knI_iff] at h
    obtain ⟨h0, h1⟩ := h
    have h2 : m ≤ 6 := by omega
    go_enter Try.func66, Try.ntmps66
    go_wp2
    go_ret
    exact ⟨rfl, rfl⟩
  | false =>
    rw [kn_no] at h
    rcases h with h | h
    · go_enter Try.func66, Try.ntmps66
      go_wp2
      go_ret
      exact ⟨rfl, rfl⟩
    · have h0 : 0 ≤ m := by omega
      have hd : decide (m ≤ 6) = false := by simp; omega
      go_enter Try.func66, Try.ntmps66
      go_wp2
      go_ret
      exact ⟨rfl, rfl⟩
theorem kn_cases {m : Int} (h : knI m = true) : m = 0 ∨ m = 1 ∨ m = 2 ∨ m = 3 ∨ m = 4 ∨ m = 5 ∨ m = 6 := by
  rw [knI_iff] at h; omega
theorem r1knT (m : Int) (h : knI m = true) (w : World) : Calls Try.prog 66 #[.int .i64 m] w fun e w' => e = .returned (.bool true) ∧ w = w' := by
  have := r1known m w; rwa [h] at this
theorem r1knF (m : Int) (h : knI m = false) (w : World) : Calls Try.prog 66 #[.int .i64 m] w fun e w' => e = .returned (.bool false) ∧ w = w' := by
  have := r1known m w; rwa [h] at this
def rowL : List ByteArray := [⟨#[43, 43, 43, 43, 43, 43, 43]⟩, ⟨#[43, 43, 43, 43, 43, 43, 46]⟩, ⟨#[43, 43, 43, 46, 46, 46, 46]⟩, ⟨#[43, 43, 46, 43, 46, 43, 46]⟩, ⟨#[43, 43, 46, 46, 46, 46, 46]⟩, ⟨#[43, 43, 46, 43, 46, 46, 46]⟩, ⟨#[43, 46, 46, 46, 46, 46, 46]⟩]
def undL : List ByteArray := [⟨#[43, 46, 46, 46, 46, 46, 46]⟩, ⟨#[43, 43, 46, 46, 46, 46, 46]⟩, ⟨#[43, 43, 43, 46, 46, 46, 46]⟩, ⟨#[43, 43, 46, 43, 46, 46, 46]⟩, ⟨#[43, 43, 43, 43, 43, 46, 46]⟩, ⟨#[43, 43, 46, 43, 46, 43, 46]⟩, ⟨#[43, 43, 43, 43, 43, 43, 43]⟩]
theorem r1row (a : Int) (h : knI a = true) (w : World) : Calls Try.prog 68 #[.int .i64 a] w fun e w' => e = .returned (.string (rowL.getD a.toNat ByteArray.empty)) ∧ Nw w w' := by
  rcases kn_cases h with rfl | rfl | rfl | rfl | rfl | rfl | rfl
  all_goals
    go_enter Try.func68, Try.ntmps68
    go_wp2
    go_ret
    exact ⟨rfl, (Nw.refl _).alloc _⟩
theorem r1under (a : Int) (h : knI a = true) (w : World) : Calls Try.prog 67 #[.int .i64 a] w fun e w' => e = .returned (.string (undL.getD a.toNat ByteArray.empty)) ∧ Nw w w' := by
  rcases kn_cases h with rfl | rfl | rfl | rfl | rfl | rfl | rfl
  all_goals
    go_enter Try.func67, Try.ntmps67
    go_wp2
    go_ret
    exact ⟨rfl, (Nw.refl _).alloc _⟩
set_option maxHeartbeats 4000000 in
theorem r1comp_in (a b : Int) (ha : knI a = true) (hb : knI b = true) (w : World) : Calls Try.prog 33 #[.int .i64 a, .int .i64 b] w fun e w' => e = .returned (.bool (cpI a b)) ∧ Nw w w' := by
  have hr := r1row a ha
  rcases kn_cases ha with rfl | rfl | rfl | rfl | rfl | rfl | rfl <;> rcases kn_cases hb with rfl | rfl | rfl | rfl | rfl | rfl | rfl
  all_goals
    go_enter Try.func33, Try.ntmps33
    go_wp2_with (first | (go_at_call 66; refine (r1knT _ rfl _).mono ?_; rintro e w' ⟨rfl, rfl⟩) | (go_at_call 68; refine (hr _).mono ?_; rintro e w' ⟨rfl, hg⟩))
    go_ret
    exact ⟨rfl, hg⟩
end Go.Proofs.Ytmciiobncfchlaa
end

/- The document's own answers on modes: Compatible, Covers, Sup, Group at whatever modes. -/
section
namespace Go.Proofs.Ytmciiobncfchlaa
open Go.RowKit
set_option linter.unusedVariables false      -- a contract need not use every name

theorem r1comp (a b : Int) (w : World) : Calls Try.prog 33 #[.int .i64 a, .int .i64 b] w fun e w' => e = .returned (.bool (cpI a b)) ∧ Nw w w' := by
  cases ha : knI a with
  | true =>
    cases hb : knI b with
    | true => exact r1comp_in a b ha hb w
    | false =>
      have hc : cpI a b = false := by simp [cpI, hb]
      rw [hc]
      have HA := Lib.hid (r1knT a ha)
      have HB := Lib.hid (r1knF b hb)
      clear ha hb hc
      go_enter Try.func33, Try.ntmps33
      go_wp2_with fail
      refine (HA.out _).mono ?_
      rintro e w' ⟨rfl, rfl⟩
      go_wp2_with fail
      refine (HB.out _).mono ?_
      rintro e w' ⟨rfl, rfl⟩
      go_wp2
      go_ret
      exact ⟨rfl, Nw.refl _⟩
  | false =>
    have hc : cpI a b = false := by simp [cpI, ha]
    rw [hc]
    have HA := Lib.hid (r1knF a ha)
    clear ha hc
    go_enter Try.func33, Try.ntmps33
    go_wp2_with fail
    refine (HA.out _).mono ?_
    rintro e w' ⟨rfl, rfl⟩
    go_wp2
    go_ret
    exact ⟨rfl, Nw.refl _⟩
set_option maxHeartbeats 4000000 in
theorem r1cov_in (a b : Int) (ha : knI a = true) (hb : knI b = true) (w : World) : Calls Try.prog 32 #[.int .i64 a, .int .i64 b] w fun e w' => e = .returned (.bool (cvI a b)) ∧ Nw w w' := by
  have hr := r1under a ha
  rcases kn_cases ha with rfl | rfl | rfl | rfl | rfl | rfl | rfl <;> rcases kn_cases hb with rfl | rfl | rfl | rfl | rfl | rfl | rfl
  all_goals
    go_enter Try.func32, Try.ntmps32
    go_wp2_with (first | (go_at_call 66; refine (r1knT _ rfl _).mono ?_; rintro e w' ⟨rfl, rfl⟩) | (go_at_call 67; refine (hr _).mono ?_; rintro e w' ⟨rfl, hg⟩))
    go_ret
    exact ⟨rfl, hg⟩
theorem r1cov (a b : Int) (w : World) : Calls Try.prog 32 #[.int .i64 a, .int .i64 b] w fun e w' => e = .returned (.bool (cvI a b)) ∧ Nw w w' := by
  cases ha : knI a with
  | true =>
    cases hb : knI b with
    | true => exact r1cov_in a b ha hb w
    | false =>
      have hc : cvI a b = false := by simp [cvI, hb]
      rw [hc]
      have HA := Lib.hid (r1knT a ha)
      have HB := Lib.hid (r1knF b hb)
      clear ha hb hc
      go_enter Try.func32, Try.ntmps32
      go_wp2_with fail
      refine (HA.out _).mono ?_
      rintro e w' ⟨rfl, rfl⟩
      go_wp2_with fail
      refine (HB.out _).mono ?_
      rintro e w' ⟨rfl, rfl⟩
      go_wp2
      go_ret
      exact ⟨rfl, Nw.refl _⟩
  | false =>
    have hc : cvI a b = false := by simp [cvI, ha]
    rw [hc]
    have HA := Lib.hid (r1knF a ha)
    clear ha hc
    go_enter Try.func32, Try.ntmps32
    go_wp2_with fail
    refine (HA.out _).mono ?_
    rintro e w' ⟨rfl, rfl⟩
    go_wp2
    go_ret
    exact ⟨rfl, Nw.refl _⟩
def supStep (a b o m : Int) : Int := if ((cvI m a && cvI m b) && cvI o m) = true then m else o
def supF (a b : Int) (k : Nat) : Int := (([6, 5, 4, 3, 2, 1, 0] : List Int).take k).foldl (supStep a b) 6
theorem supF_all : ∀ i < 7, ∀ j < 7, (supF (Int.ofNat i) (Int.ofNat j) 7 == supT (Int.ofNat i) (Int.ofNat j)) = true := by decide +kernel
theorem supF_is (a b : Int) (ha : knI a = true) (hb : knI b = true) : supF a b 7 = supT a b := by
  have := two_kn (p := fun a b => supF a b 7 == supT a b) supF_all a b ha hb
  simpa using this
theorem supF_step (a b : Int) (k : Nat) (hk : k < 7) : supF a b (k + 1) = supStep a b (supF a b k) (6 - (k : Int)) := by
  unfold supF
  rw [List.take_add_one, List.foldl_append]
  match k, hk with
  | 0, _ => rfl
  | 1, _ => rfl
  | 2, _ => rfl
  | 3, _ => rfl
  | 4, _ => rfl
  | 5, _ => rfl
  | 6, _ => rfl
end Go.Proofs.Ytmciiobncfchlaa
end

/- Requests and heads in memory; of the document's own: Holds, Waits, right. -/
section
namespace Go.Proofs.Ytmciiobncfchlaa
open Go.RowKit
set_option linter.unusedVariables false      -- a contract need not use every name

def rqrow (r : Rq) : List Value := [.int .i64 r.id, .int .i64 r.txn, .int .i64 r.md, .int .i64 r.wt, .int .i64 r.sn]
def rqV (r : Rq) : Value := .agg #[.int .i64 r.id, .int .i64 r.txn, .int .i64 r.md, .int .i64 r.wt, .int .i64 r.sn]
def hdV (t r : Int) (v : Value) (W : Int) : Value := .agg #[.int .i64 t, .int .i64 r, v, .int .i64 W]
theorem elemRq : Elem Try.prog 25 41 5 40 rqrow where
  und := Try.underlying25
  inf := by
    have h : (Try.prog.info? 41).map (fun i => (i.zero, i.size, i.bytes)) = some (some (.agg #[.int .i64 0, .int .i64 0, .int .i64 0, .int .i64 0, .int .i64 0]), 5, 40) := by kernel_rfl
    cases e : Try.prog.info? 41 with
    | none => rw [e] at h; cases h
    | some i =>
      rw [e] at h
      simp only [Option.map_some, Option.some.injEq, Prod.mk.injEq] at h
      exact ⟨i, _, rfl, h.1, h.2.1, h.2.2, rfl⟩
  pos := by decide
  byt := by decide
  len := fun _ => rfl
  one := fun a u hu => by
    simp only [rqrow, List.mem_cons, List.not_mem_nil, or_false] at hu
    rcases hu with rfl | rfl | rfl | rfl | rfl <;> rfl
abbrev RqC := RdC 5 rqrow
abbrev RqAt := Rd 5 rqrow
abbrev RqOwn (w : World) (g0 : Nat) (v : Value) (q : List Rq) : Prop := Own 41 5 rqrow w g0 v q
theorem RqOwn.rd {w : World} {g0 : Nat} {v : Value} {q : List Rq} (h : RqOwn w g0 v q) : RqAt w v q := Own.rd (fun _ => rfl) h
/-- A head in a box. -/
structure HBox (w : World) (p : Nat) (t r : Int) (v : Value) (W : Int) : Prop where
  lt : p < w.heap.size
  c0 : w.cell? ⟨p, 0, none⟩ = some (.int .i64 t)
  c1 : w.cell? ⟨p, 1, none⟩ = some (.int .i64 r)
  c2 : w.cell? ⟨p, 2, none⟩ = some v
  c3 : w.cell? ⟨p, 3, none⟩ = some (.int .i64 W)
theorem HBox.nw {w w' : World} {p : Nat} {t r : Int} {v : Value} {W : Int} (h : HBox w p t r v W) (g : Nw w w') : HBox w' p t r v W :=
  ⟨Nat.lt_of_lt_of_le h.lt g.sz, (g.cell h.lt).trans h.c0, (g.cell h.lt).trans h.c1, (g.cell h.lt).trans h.c2, (g.cell h.lt).trans h.c3⟩
theorem HBox.made (w : World) (t r : Int) (v : Value) (W : Int) (T : TypeId) : HBox (w.alloc (.cells #[.int .i64 t, .int .i64 r, v, .int .i64 W] T)) w.heap.size t r v W := by
  have h := allocAt w (.cells #[.int .i64 t, .int .i64 r, v, .int .i64 W] T)
  exact ⟨hlt h, hcell h, hcell h, hcell h, hcell h⟩

theorem r9holds (a b m wn s : Int) (w : World) : Calls Try.prog 59 #[.agg #[.int .i64 a, .int .i64 b, .int .i64 m, .int .i64 wn, .int .i64 s]] w fun e w' => e = .returned (.bool (m != 0)) ∧ Nw w w' := by
  go_enter Try.func59, Try.ntmps59
  go_wp2
  go_ret
  exact ⟨rfl, (Nw.refl _).alloc _⟩
theorem r9waits (a b m wn s : Int) (w : World) : Calls Try.prog 58 #[.agg #[.int .i64 a, .int .i64 b, .int .i64 m, .int .i64 wn, .int .i64 s]] w fun e w' => e = .returned (.bool (decide (0 < s))) ∧ Nw w w' := by
  go_enter Try.func58, Try.ntmps58
  go_wp2
  go_ret
  exact ⟨rfl, (Nw.refl _).alloc _⟩
end Go.Proofs.Ytmciiobncfchlaa
end

/- A region that draws its order, whose operations read, and whose callees may make new blocks: one walk of the text's order, in the class of the worlds that meet a condition. -/
section
namespace Go.Proofs.Ytmciiobncfchlaa
open Go.RowKit

/-- A world that meets a condition. -/
structure Wd (S : World → Prop) : Type where
  w : World
  h : S w

theorem region_in {P : Program} {id : Nat} {Q : Exit → Act → World → Prop} {a : Act} {w : World} {l : List Oper} (S : World → Prop) (hm : P.follows .mixedOrders = true) (hB : Region.lexB .any l.toArray = true) (hS : S w.drew)
    (h : wpQuiet P l.toArray (fun w' => ∃ d : Wd S, w' = d.w) (fun a' => ∀ d : Wd S, Q .normal a' d.w) l a) : (Code.region id l.toArray true).wp P Q a w := by
  refine wp_region_quiet (C := fun w' => ∃ d : Wd S, w' = d.w) hm hB ⟨⟨w.drew, hS⟩, rfl⟩ ?_
  have e : (fun a' => ∀ w', (∃ d : Wd S, w' = d.w) → Q .normal a' w') = (fun a' => ∀ d : Wd S, Q .normal a' d.w) := by
    funext a'
    exact propext ⟨fun H d => H _ ⟨d, rfl⟩, fun H _ ⟨d, hd⟩ => hd ▸ H d⟩
  rw [e]
  simpa using h

/-- A callee that returns one value and makes at most new blocks, where the condition lasts through new blocks. -/
theorem quietN {P : Program} {f : FuncId} {args : Array Value} {S : World → Prop} (hS : ∀ a b, S a → Nw a b → S b) {d : Wd S} {v : Value}
    (h : Calls P f args d.w fun e w' => e = .returned v ∧ Nw d.w w') : Calls P f args d.w fun e w'' => e = .returned v ∧ ∃ d' : Wd S, w'' = d'.w :=
  h.mono fun _ w'' ⟨he, hg⟩ => ⟨he, ⟨w'', hS _ _ d.h hg⟩, rfl⟩
end Go.Proofs.Ytmciiobncfchlaa
end

/- A cheaper Bool over a region's text: each operation waits only for earlier ones, and each later one waits for it or is apart from it. Of no program. -/
section
namespace Go.Proofs.Ytmciiobncfchlaa
open Go

/-- What the check asks of an operation: where it writes, what it looks at, for whom it waits. -/
def infoOf (ops : Array Oper) (o : Oper) : Option Tmp × List Tmp × List Nat := (o.dst, o.looksAt ops, (o.after.toList.filter (Region.binds .any)).map (·.on))
def pairI (k : Nat) (x y : Option Tmp × List Tmp × List Nat) : Bool :=
  y.2.2.contains k || ((match x.1 with
    | some d => !y.2.1.contains d && y.1 != some d
    | none => true) && (match y.1 with
    | some d => !x.2.1.contains d
    | none => true))
def lexI : Nat → List (Option Tmp × List Tmp × List Nat) → Bool
  | _, [] => true
  | k, x :: r => x.2.2.all (fun e => decide (e < k)) && r.all (pairI k x) && lexI (k + 1) r

theorem lex_walk {P : Program} {ops : Array Oper} {C : World → Prop} {Q : Act → Prop} (hs : Region.noSelect ops = true) : ∀ (l : List Oper) (k : Nat) (listed : Array Bool) (a : Act),
    (∀ j, l[j]? = ops[k + j]?) → (∀ j, j < k → listed.getD j false = true) → (∀ j, k ≤ j → j < k + l.length → listed.getD j true = false) → k + l.length = ops.size →
    lexI k (l.map (infoOf ops)) = true → wpQuiet P ops C Q l a → wpAnyQ P .any ops C Q l.length listed a
  | [], k, listed, a, _, hL, _, hn, _, h => by
    refine ⟨?_, h⟩
    rw [List.eq_nil_iff_forall_not_mem]
    intro j hj
    obtain ⟨h1, o, ho, _⟩ := mem_ready.1 hj
    have hlt : j < ops.size := (Array.getElem?_eq_some_iff.1 ho).1
    have h2 := hL j (by simp at hn; omega)
    rcases Nat.lt_or_ge j listed.size with g | g
    · simp [g] at h1 h2; rw [h1] at h2; cases h2
    · simp [Array.getElem?_eq_none g] at h2
  | o :: l, k, listed, a, hl, hL, hU, hn, hB, h => by
    have h0 : ops[k]? = some o := by simpa using (hl 0).symm
    simp only [List.map_cons, lexI, Bool.and_eq_true, List.all_eq_true, decide_eq_true_eq] at hB
    obtain ⟨⟨hd, hp⟩, hB'⟩ := hB
    have hst : qOp P ops C k (wpQuiet P ops C Q l) a := by unfold qOp; simp only [h0]; exact h
    obtain ⟨v, hy, hK⟩ := yieldsIn_of_qOp h0 hst
    have hr : k ∈ Region.ready .any ops listed := by
      refine mem_ready.2 ⟨hU k (Nat.le_refl _) (by simp), o, h0, fun e he hb => hL e.on (hd e.on ?_)⟩
      exact List.mem_map.2 ⟨e, List.mem_filter.2 ⟨Array.mem_toList_iff.2 he, hb⟩, rfl⟩
    refine wpAnyQ_first h0 (Region.noSelect_spec hs) l.length listed a ?_ hr hy (lex_walk hs l (k + 1) _ _ (fun j => ?_) (fun j hj => ?_) (fun j h1 h2 => ?_) (by simp at hn; omega) hB' hK)
    · intro j oj hoj hne hun hno
      have hkj : k < j := by
        rcases Nat.lt_or_ge j k with g | g
        · have h2 := hL j g
          rcases Nat.lt_or_ge j listed.size with g2 | g2
          · simp [g2] at hun h2; rw [hun] at h2; cases h2
          · simp [Array.getElem?_eq_none g2] at h2
        · omega
      have hlj := hl (j - k)
      rw [show k + (j - k) = j by omega, hoj, show j - k = (j - k - 1) + 1 by omega, List.getElem?_cons_succ] at hlj
      have hm : infoOf ops oj ∈ l.map (infoOf ops) := List.mem_map.2 ⟨oj, List.mem_of_getElem? hlj, rfl⟩
      have hq := hp _ hm
      unfold pairI at hq
      rw [Bool.or_eq_true] at hq
      rcases hq with hq | hq
      · obtain ⟨e, he, heq⟩ := List.mem_map.1 (List.contains_iff_mem.1 hq)
        obtain ⟨he1, he2⟩ := List.mem_filter.1 he
        exact absurd heq (hno e (Array.mem_toList_iff.1 he1) he2)
      · exact hq
    · have := hl (j + 1)
      simpa [Nat.add_assoc, Nat.add_comm 1 j] using this
    · rcases Nat.lt_or_ge j k with g | g
      · exact getD_set_true (hL j g)
      · obtain rfl : j = k := by omega
        have h3 := hU j (Nat.le_refl _) (by simp)
        have hsz : j < listed.size := by
          rcases Nat.lt_or_ge j listed.size with g2 | g2
          · exact g2
          · simp [Array.getElem?_eq_none g2] at h3
        simp [hsz]
    · rw [getD_set_ne true (by omega)]
      exact hU j (by omega) (by simp at h2 ⊢; omega)

theorem region_in' {P : Program} {id : Nat} {Q : Exit → Act → World → Prop} {a : Act} {w : World} {l : List Oper} (S : World → Prop) (hm : P.follows .mixedOrders = true) (hs : Region.noSelect l.toArray = true)
    (hB : lexI 0 (l.map (infoOf l.toArray)) = true) (hS : S w.drew)
    (h : wpQuiet P l.toArray (fun w' => ∃ d : Wd S, w' = d.w) (fun a' => ∀ d : Wd S, Q .normal a' d.w) l a) : (Code.region id l.toArray true).wp P Q a w := by
  refine wp_region_any hm (wpAny_of_quiet (C := fun w' => ∃ d : Wd S, w' = d.w) (Q := fun a' => ∀ d : Wd S, Q .normal a' d.w) (fun _ _ ⟨d, hd⟩ h => hd ▸ h d) _ _ _ _ ⟨⟨w.drew, hS⟩, rfl⟩ ?_)
  have := lex_walk (P := P) (C := fun w' => ∃ d : Wd S, w' = d.w) (Q := fun a' => ∀ d : Wd S, Q .normal a' d.w) hs l 0 (Array.replicate l.toArray.size false) a (by simp) (fun j hj => absurd hj (by omega)) (fun j _ hj => by simp at hj; simp [hj]) (by simp) hB h
  simpa using this
end Go.Proofs.Ytmciiobncfchlaa
end

/- A region that draws its order, walked in one order that is told: what reads is taken first, a call waits till it is the only one that can come. Of no program. -/
section
namespace Go.Proofs.Ytmciiobncfchlaa
open Go

/-- Number e has come up: it lies ahead of k, and is not the one put off. -/
def doneB (k : Nat) (q : Option (Nat × Option Tmp × List Tmp × List Nat)) (e : Nat) : Bool :=
  decide (e < k) && (match q with
    | some y => !(e == y.1)
    | none => true)
def ordB : List (Option Bool) → Nat → List (Option Tmp × List Tmp × List Nat) → Option (Nat × Option Tmp × List Tmp × List Nat) → Bool
  | [], _, l, q => l.isEmpty && q.isNone
  | some true :: fs, k, l, q =>
    match l with
    | [] => false
    | x :: r => x.2.2.all (doneB k q) && r.all (pairI k x) && (match q with
      | some y => pairI k x y.2
      | none => true) && ordB fs (k + 1) r q
  | some false :: fs, k, l, q =>
    match l, q with
    | x :: r, none => ordB fs (k + 1) r (some (k, x))
    | _, _ => false
  | none :: fs, k, l, q =>
    match q with
    | some y => y.2.2.2.all (doneB k q) && l.all (fun x => x.2.2.any fun e => !doneB k q e) && ordB fs k l none
    | none => false

/-- The walk: 'some true' takes the next one first, 'some false' puts it off, 'none' runs the one put off. -/
def HW (P : Program) (ops : Array Oper) (Q : Exit → Act → World → Prop) (S : World → Prop) : List (Option Bool) → List Oper → Option Oper → Act → World → Prop
  | [], _, _, a, w => Q .normal a w
  | some true :: fs, l, q, a, w =>
    match l with
    | [] => False
    | o :: r => ∃ v, YieldsIf P ops S o v a ∧ HW P ops Q S fs r q (a.put o.dst v) w
  | some false :: fs, l, q, a, w =>
    match l, q with
    | o :: r, none => HW P ops Q S fs r (some o) a w
    | _, _ => False
  | none :: fs, l, q, a, w =>
    match q with
    | some o => ∀ K' : Act → World → Prop, Shut (∀ a w, S w → (S w → HW P ops Q S fs l none a w) → K' a w) → if Region.wanted o (yielded ops a.tmps) = true then Oper.wp P o a w K' Q else K' (a.put o.dst undef) w
    | none => False

section
variable {P : Program} {ops : Array Oper} {Q : Exit → Act → World → Prop} {S : World → Prop}
theorem HW.end_ {l : List Oper} {q : Option Oper} {a : Act} {w : World} (h : Q .normal a w) : HW P ops Q S [] l q a w := h
theorem HW.take {fs : List (Option Bool)} {o : Oper} {r : List Oper} {q : Option Oper} {a : Act} {w : World} (v : Value) (hy : YieldsIf P ops S o v a) (h : HW P ops Q S fs r q (a.put o.dst v) w) : HW P ops Q S (some true :: fs) (o :: r) q a w := ⟨v, hy, h⟩
theorem HW.take' {fs : List (Option Bool)} {o : Oper} {r : List Oper} {q : Option Oper} {a : Act} {w : World} (h : ∃ v, YieldsIf P ops S o v a ∧ HW P ops Q S fs r q (a.put o.dst v) w) : HW P ops Q S (some true :: fs) (o :: r) q a w := h
theorem HW.off {fs : List (Option Bool)} {o : Oper} {r : List Oper} {a : Act} {w : World} (h : HW P ops Q S fs r (some o) a w) : HW P ops Q S (some false :: fs) (o :: r) none a w := h
theorem HW.go {fs : List (Option Bool)} {o : Oper} {l : List Oper} {a : Act} {w : World}
    (h : ∀ K' : Act → World → Prop, Shut (∀ a w, S w → (S w → HW P ops Q S fs l none a w) → K' a w) → if Region.wanted o (yielded ops a.tmps) = true then Oper.wp P o a w K' Q else K' (a.put o.dst undef) w) : HW P ops Q S (none :: fs) l (some o) a w := h

/-- What the check asks of a pair that is still to come: apart, or the later one waits. -/
theorem apart_of {k : Nat} {o oj : Oper} (h : pairI k (infoOf ops o) (infoOf ops oj) = true) (hno : ∀ e ∈ oj.after, Region.binds .any e = true → e.on ≠ k) : o.apart ops oj = true := by
  unfold pairI at h
  rw [Bool.or_eq_true] at h
  rcases h with h | h
  · obtain ⟨e, he, heq⟩ := List.mem_map.1 (List.contains_iff_mem.1 h)
    obtain ⟨he1, he2⟩ := List.mem_filter.1 he
    exact absurd heq (hno e (Array.mem_toList_iff.1 he1) he2)
  · exact h

theorem HW.run (hs : Region.noSelect ops = true) (hQ : ∀ c a d v w, Q (.panic c) (Act.put a d v) w → Q (.panic c) a w) : ∀ (fs : List (Option Bool)) (k : Nat) (l : List Oper) (qi : Option (Nat × Oper)) (listed : Array Bool) (a : Act) (w : World),
    (∀ j, l[j]? = ops[k + j]?) → k + l.length = ops.size → (∀ p, qi = some p → ops[p.1]? = some p.2 ∧ p.1 < k) → listed.size = ops.size →
    (∀ j, j < ops.size → (listed.getD j false = true ↔ doneB k (qi.map fun p => (p.1, infoOf ops p.2)) j = true)) →
    ordB fs k (l.map (infoOf ops)) (qi.map fun p => (p.1, infoOf ops p.2)) = true → S w → HW P ops Q S fs l (qi.map (·.2)) a w →
    wpAnyH P .any ops Q S (l.length + (qi.map fun _ => 1).getD 0) listed a w
  | [], k, l, qi, listed, a, w, hl, hn, hq, hsz, hD, hB, hS, h => by
    unfold ordB at hB
    rw [Bool.and_eq_true] at hB
    obtain rfl : l = [] := by cases l with
      | nil => rfl
      | cons o r => simp at hB
    obtain rfl : qi = none := by cases qi with
      | none => rfl
      | some p => simp at hB
    refine wpAnyH_done ?_ h _
    rw [List.eq_nil_iff_forall_not_mem]
    intro j hj
    obtain ⟨h1, o, ho, _⟩ := mem_ready.1 hj
    have hlt : j < ops.size := (Array.getElem?_eq_some_iff.1 ho).1
    have h2 := (hD j hlt).2 (by unfold doneB; simp at hn ⊢; omega)
    simp [hsz, hlt] at h1 h2
    rw [h1] at h2
    cases h2
  | some true :: fs, k, [], qi, listed, a, w, hl, hn, hq, hsz, hD, hB, hS, h => by unfold ordB at hB; simp at hB
  | some true :: fs, k, o :: r, qi, listed, a, w, hl, hn, hq, hsz, hD, hB, hS, h => by
    have h0 : ops[k]? = some o := by simpa using (hl 0).symm
    have hk : k < ops.size := (Array.getElem?_eq_some_iff.1 h0).1
    simp only [List.map_cons, ordB, Bool.and_eq_true, List.all_eq_true] at hB
    obtain ⟨⟨⟨hd, hp⟩, hpq⟩, hB'⟩ := hB
    obtain ⟨v, hy, hK⟩ := h
    have hnk : ∀ p, qi = some p → p.1 ≠ k := fun p hp => Nat.ne_of_lt (hq p hp).2
    have hun : listed.getD k true = false := by
      have h1 : ¬ listed.getD k false = true := fun e => by
        have := (hD k hk).1 e
        unfold doneB at this
        simp at this
      simp [hsz, hk] at h1 ⊢
      exact h1
    have hr : k ∈ Region.ready .any ops listed := by
      refine mem_ready.2 ⟨hun, o, h0, fun e he hb => ?_⟩
      have hdn := hd e.on (List.mem_map.2 ⟨e, List.mem_filter.2 ⟨Array.mem_toList_iff.2 he, hb⟩, rfl⟩)
      have hek : e.on < k := by unfold doneB at hdn; simp at hdn; exact hdn.1
      exact (hD e.on (by omega)).2 hdn
    have hfree : ∀ j oj, ops[j]? = some oj → j ≠ k → listed.getD j true = false → (∀ e ∈ oj.after, Region.binds .any e = true → e.on ≠ k) → o.apart ops oj = true := by
      intro j oj hoj hne hju hno
      have hj : j < ops.size := (Array.getElem?_eq_some_iff.1 hoj).1
      have hnd : ¬ doneB k (qi.map fun p => (p.1, infoOf ops p.2)) j = true := fun e => by
        have := (hD j hj).2 e
        simp [hsz, hj] at this hju
        rw [this] at hju
        cases hju
      rcases Nat.lt_or_ge j k with g | g
      · cases hqi : qi with
        | none => rw [hqi] at hnd; exact absurd (by unfold doneB; simp [g]) hnd
        | some p =>
          rw [hqi] at hnd hpq
          have hjp : j = p.1 := by
            rcases Nat.decEq j p.1 with h | h
            · exact absurd (by unfold doneB; simp [g, h]) hnd
            · exact h
          have hpo := (hq p hqi).1
          rw [← hjp, hoj] at hpo
          obtain rfl := Option.some.inj hpo
          exact apart_of hpq hno
      · have hlj := hl (j - k)
        rw [show k + (j - k) = j by omega, hoj, show j - k = (j - k - 1) + 1 by omega, List.getElem?_cons_succ] at hlj
        exact apart_of (hp _ (List.mem_map.2 ⟨oj, List.mem_of_getElem? hlj, rfl⟩)) hno
    have ih := HW.run hs hQ fs (k + 1) r qi (listed.setIfInBounds k true) (a.put o.dst v) w (fun j => by
        have := hl (j + 1)
        simpa [Nat.add_assoc, Nat.add_comm 1 j] using this) (by simp at hn; omega) (fun p hp => ⟨(hq p hp).1, Nat.lt_succ_of_lt (hq p hp).2⟩) (by simpa using hsz) (fun j hj => by
        by_cases hjk : k = j
        · subst hjk
          have h1 : (listed.setIfInBounds k true).getD k false = true := by simp [hsz, hk]
          refine ⟨fun _ => ?_, fun _ => h1⟩
          unfold doneB
          cases hqi : qi with
          | none => simp
          | some p => have := hnk p hqi; simp; exact fun e => this e.symm
        · rw [getD_set_ne false hjk, hD j hj]
          unfold doneB
          have : decide (j < k + 1) = decide (j < k) := decide_eq_decide.2 (by omega)
          rw [this]) hB' hS hK
    rw [show (o :: r).length + (qi.map fun _ => 1).getD 0 = (r.length + (qi.map fun _ => 1).getD 0) + 1 by simp; omega]
    exact wpAnyH_first h0 (Region.noSelect_spec hs) (fun c a w => hQ c a _ _ w) _ listed a w hfree hr hy hS ih
  | some false :: fs, k, [], qi, listed, a, w, hl, hn, hq, hsz, hD, hB, hS, h => by unfold ordB at hB; simp at hB
  | some false :: fs, k, o :: r, some p, listed, a, w, hl, hn, hq, hsz, hD, hB, hS, h => by unfold ordB at hB; simp at hB
  | some false :: fs, k, o :: r, none, listed, a, w, hl, hn, hq, hsz, hD, hB, hS, h => by
    have h0 : ops[k]? = some o := by simpa using (hl 0).symm
    have ih := HW.run hs hQ fs (k + 1) r (some (k, o)) listed a w (fun j => by
        have := hl (j + 1)
        simpa [Nat.add_assoc, Nat.add_comm 1 j] using this) (by simp at hn; omega) (fun p hp => by obtain rfl := Option.some.inj hp; exact ⟨h0, Nat.lt_succ_self _⟩) hsz (fun j hj => by
        rw [hD j hj]
        unfold doneB
        simp
        omega) (by unfold ordB at hB; exact hB) hS h
    exact ih
  | none :: fs, k, l, none, listed, a, w, hl, hn, hq, hsz, hD, hB, hS, h => by unfold ordB at hB; simp at hB
  | none :: fs, k, l, some p, listed, a, w, hl, hn, hq, hsz, hD, hB, hS, h => by
    obtain ⟨i, o⟩ := p
    obtain ⟨h0, hik⟩ := hq (i, o) rfl
    have hi : i < ops.size := (Array.getElem?_eq_some_iff.1 h0).1
    simp only [Option.map_some, ordB, Bool.and_eq_true, List.all_eq_true, List.any_eq_true] at hB
    obtain ⟨⟨hd, hw⟩, hB'⟩ := hB
    have hDu : ∀ j, j < ops.size → ¬ doneB k (some (i, infoOf ops o)) j = true → listed.getD j true = false := fun j hj hnd => by
      have h1 : ¬ listed.getD j false = true := fun e => hnd ((hD j hj).1 e)
      simp [hsz, hj] at h1 ⊢
      exact h1
    have hr : i ∈ Region.ready .any ops listed := by
      refine mem_ready.2 ⟨hDu i hi (by unfold doneB; simp), o, h0, fun e he hb => ?_⟩
      have hdn := hd e.on (List.mem_map.2 ⟨e, List.mem_filter.2 ⟨Array.mem_toList_iff.2 he, hb⟩, rfl⟩)
      have hek : e.on < k := by unfold doneB at hdn; simp at hdn; exact hdn.1
      exact (hD e.on (by omega)).2 hdn
    refine ⟨fun hz => (by rw [hz] at hr; cases hr), fun j hj => ?_⟩
    have hji : j = i := by
      obtain ⟨h1, oj, hoj, hall⟩ := mem_ready.1 hj
      have hjs : j < ops.size := (Array.getElem?_eq_some_iff.1 hoj).1
      rcases Nat.decEq j i with hne | he
      case isTrue => exact he
      exfalso
      have hnd : ¬ doneB k (some (i, infoOf ops o)) j = true := fun e => by
        have := (hD j hjs).2 e
        simp [hsz, hjs] at this h1
        rw [this] at h1
        cases h1
      have hjk : k ≤ j := by
        rcases Nat.lt_or_ge j k with g | g
        · exact absurd (by unfold doneB; simp [g, hne]) hnd
        · exact g
      have hlj := hl (j - k)
      rw [show k + (j - k) = j by omega, hoj] at hlj
      obtain ⟨e, he, hen⟩ := hw _ (List.mem_map.2 ⟨oj, List.mem_of_getElem? hlj, rfl⟩)
      obtain ⟨ea, hea, rfl⟩ := List.mem_map.1 he
      obtain ⟨he1, he2⟩ := List.mem_filter.1 hea
      have hls := hall ea (Array.mem_toList_iff.1 he1) he2
      have hlt : ea.on < ops.size := by
        rcases Nat.lt_or_ge ea.on ops.size with g | g
        · exact g
        · rw [← hsz] at g; simp [Array.getElem?_eq_none g] at hls
      have h3 := (hD ea.on hlt).1 hls
      simp only [Option.map_some] at h3
      rw [h3] at hen
      cases hen
    subst hji
    refine wpOp_step h0 (fun K' hK => h K' (fun a' w' hS' hW => hK a' w' ⟨hS', ?_⟩))
    exact HW.run hs hQ fs k l none (listed.setIfInBounds j true) a' w' hl hn (fun p hp => by cases hp) (by simpa using hsz) (fun m hm => by
      by_cases hmj : j = m
      · subst hmj
        have h1 : (listed.setIfInBounds j true).getD j false = true := by simp [hsz, hi]
        exact ⟨fun _ => by unfold doneB; simp [hik], fun _ => h1⟩
      · rw [getD_set_ne false hmj, hD m hm]
        unfold doneB
        have : ¬ m = j := fun e => hmj e.symm
        simp [this]) hB' hS' (hW hS')

/-- THE LAW: one order that is told serves every order. -/
theorem region_told {id : Nat} {a : Act} {w : World} {l : List Oper} (fs : List (Option Bool)) (S : World → Prop) (hm : P.follows .mixedOrders = true) (hs : Region.noSelect l.toArray = true)
    (hB : ordB fs 0 (l.map (infoOf l.toArray)) none = true) (hS : S w.drew) (h : HW P l.toArray (NoPanic Q) S fs l none a w.drew) : (Code.region id l.toArray true).wp P Q a w := by
  refine wp_region_noPanic (wp_region_held (S := S) hm ?_)
  have := HW.run hs (fun c a d v w h => h) fs 0 l none (Array.replicate l.toArray.size false) a w.drew (by simp) (by simp) (fun p hp => by cases hp) (by simp) (fun j hj => by unfold doneB; simp at hj ⊢; simp [hj]) hB hS h
  simpa using this
end
end Go.Proofs.Ytmciiobncfchlaa
end

/- A region that draws its order, walked by a plan: what reads is taken first; up to two operations are put off; where two can come, both orders are walked. Of no program. -/
section
namespace Go.Proofs.Ytmciiobncfchlaa
open Go
set_option linter.unusedVariables false

/-- A plan: take the next one, put it off, run the one put off, run the two put off in either order. -/
inductive Pl where
  | fin
  | take (p : Pl)
  | off (p : Pl)
  | go1 (p : Pl)
  | go2 (p q : Pl)
abbrev Inf := Option Tmp × List Tmp × List Nat
def doneP (k : Nat) (qs : List (Nat × Inf)) (e : Nat) : Bool := decide (e < k) && qs.all fun y => !(e == y.1)
def ordP : Pl → Nat → List Inf → List (Nat × Inf) → Bool
  | .fin, _, l, qs => l.isEmpty && qs.isEmpty
  | .take p, k, l, qs =>
    match l with
    | [] => false
    | x :: r => x.2.2.all (doneP k qs) && r.all (pairI k x) && qs.all (fun y => pairI k x y.2) && ordP p (k + 1) r qs
  | .off p, k, l, qs =>
    match l with
    | [] => false
    | x :: r => ordP p (k + 1) r (qs ++ [(k, x)])
  | .go1 p, k, l, qs =>
    match qs with
    | [y] => y.2.2.2.all (doneP k qs) && l.all (fun x => x.2.2.any fun e => !doneP k qs e) && ordP p k l []
    | _ => false
  | .go2 p q, k, l, qs =>
    match qs with
    | [y, z] => y.2.2.2.all (doneP k qs) && z.2.2.2.all (doneP k qs) && !(y.1 == z.1) && l.all (fun x => x.2.2.any fun e => !doneP k qs e) && ordP p k l [z] && ordP q k l [y]
    | _ => false
def HP (P : Program) (ops : Array Oper) (Q : Exit → Act → World → Prop) (S : World → Prop) : Pl → List Oper → List Oper → Act → World → Prop
  | .fin, _, _, a, w => Q .normal a w
  | .take p, l, qs, a, w =>
    match l with
    | [] => False
    | o :: r => ∃ v, YieldsIf P ops S o v a ∧ HP P ops Q S p r qs (a.put o.dst v) w
  | .off p, l, qs, a, w =>
    match l with
    | [] => False
    | o :: r => HP P ops Q S p r (qs ++ [o]) a w
  | .go1 p, l, qs, a, w =>
    match qs with
    | [o] => ∀ K' : Act → World → Prop, Shut (∀ a w, S w → (S w → HP P ops Q S p l [] a w) → K' a w) → if Region.wanted o (yielded ops a.tmps) = true then Oper.wp P o a w K' Q else K' (a.put o.dst undef) w
    | _ => False
  | .go2 p q, l, qs, a, w =>
    match qs with
    | [o, o'] => (∀ K' : Act → World → Prop, Shut (∀ a w, S w → (S w → HP P ops Q S p l [o'] a w) → K' a w) → if Region.wanted o (yielded ops a.tmps) = true then Oper.wp P o a w K' Q else K' (a.put o.dst undef) w) ∧
        ∀ K' : Act → World → Prop, Shut (∀ a w, S w → (S w → HP P ops Q S q l [o] a w) → K' a w) → if Region.wanted o' (yielded ops a.tmps) = true then Oper.wp P o' a w K' Q else K' (a.put o'.dst undef) w
    | _ => False

section
variable {P : Program} {ops : Array Oper} {Q : Exit → Act → World → Prop} {S : World → Prop}
theorem HP.end_ {l qs : List Oper} {a : Act} {w : World} (h : Q .normal a w) : HP P ops Q S .fin l qs a w := h
theorem HP.take' {p : Pl} {o : Oper} {r qs : List Oper} {a : Act} {w : World} (h : ∃ v, YieldsIf P ops S o v a ∧ HP P ops Q S p r qs (a.put o.dst v) w) : HP P ops Q S (.take p) (o :: r) qs a w := h
theorem HP.off {p : Pl} {o : Oper} {r qs : List Oper} {a : Act} {w : World} (h : HP P ops Q S p r (qs ++ [o]) a w) : HP P ops Q S (.off p) (o :: r) qs a w := h
theorem HP.go1 {p : Pl} {o : Oper} {l : List Oper} {a : Act} {w : World}
    (h : ∀ K' : Act → World → Prop, Shut (∀ a w, S w → (S w → HP P ops Q S p l [] a w) → K' a w) → if Region.wanted o (yielded ops a.tmps) = true then Oper.wp P o a w K' Q else K' (a.put o.dst undef) w) : HP P ops Q S (.go1 p) l [o] a w := h
theorem HP.go2 {p q : Pl} {o o' : Oper} {l : List Oper} {a : Act} {w : World}
    (h : ∀ K' : Act → World → Prop, Shut (∀ a w, S w → (S w → HP P ops Q S p l [o'] a w) → K' a w) → if Region.wanted o (yielded ops a.tmps) = true then Oper.wp P o a w K' Q else K' (a.put o.dst undef) w)
    (h' : ∀ K' : Act → World → Prop, Shut (∀ a w, S w → (S w → HP P ops Q S q l [o] a w) → K' a w) → if Region.wanted o' (yielded ops a.tmps) = true then Oper.wp P o' a w K' Q else K' (a.put o'.dst undef) w) : HP P ops Q S (.go2 p q) l [o, o'] a w := ⟨h, h'⟩

def infs (ops : Array Oper) (qs : List (Nat × Oper)) : List (Nat × Inf) := qs.map fun p => (p.1, infoOf ops p.2)
theorem doneP_iff {k : Nat} {qs : List (Nat × Oper)} {e : Nat} : doneP k (infs ops qs) e = true ↔ e < k ∧ ∀ p ∈ qs, e ≠ p.1 := by
  unfold doneP infs
  simp
/-- What holds of the walk: what lies ahead of k has come, but for those put off. -/
structure HI (ops : Array Oper) (k : Nat) (l : List Oper) (qs : List (Nat × Oper)) (listed : Array Bool) : Prop where
  rest : ∀ j, l[j]? = ops[k + j]?
  len : k + l.length = ops.size
  put : ∀ p ∈ qs, ops[p.1]? = some p.2 ∧ p.1 < k
  size : listed.size = ops.size
  come : ∀ j, j < ops.size → (listed.getD j false = true ↔ doneP k (infs ops qs) j = true)
theorem HI.un {k : Nat} {l : List Oper} {qs : List (Nat × Oper)} {listed : Array Bool} (h : HI ops k l qs listed) {j : Nat} (hj : j < ops.size) (hd : ¬ doneP k (infs ops qs) j = true) : listed.getD j true = false := by
  have h1 : ¬ listed.getD j false = true := fun e => hd ((h.come j hj).1 e)
  have := h.size
  simp [this, hj] at h1 ⊢
  exact h1
theorem HI.deps {k : Nat} {l : List Oper} {qs : List (Nat × Oper)} {listed : Array Bool} (h : HI ops k l qs listed) (hk : k ≤ ops.size) {o : Oper} (hd : (infoOf ops o).2.2.all (doneP k (infs ops qs)) = true) : ∀ e ∈ o.after, Region.binds .any e = true → listed.getD e.on false = true := by
  intro e he hb
  have hdn := List.all_eq_true.1 hd e.on (List.mem_map.2 ⟨e, List.mem_filter.2 ⟨Array.mem_toList_iff.2 he, hb⟩, rfl⟩)
  have hek := (doneP_iff.1 hdn).1
  exact (h.come e.on (by omega)).2 hdn
/-- Nothing of what lies behind can come while it waits for one that has not. -/
theorem HI.waits {k : Nat} {l : List Oper} {qs : List (Nat × Oper)} {listed : Array Bool} (h : HI ops k l qs listed) (hw : (l.map (infoOf ops)).all (fun x => x.2.2.any fun e => !doneP k (infs ops qs) e) = true) :
    ∀ j ∈ Region.ready .any ops listed, ∃ p ∈ qs, j = p.1 := by
  intro j hj
  obtain ⟨h1, oj, hoj, hall⟩ := mem_ready.1 hj
  have hjs : j < ops.size := (Array.getElem?_eq_some_iff.1 hoj).1
  have hnd : ¬ doneP k (infs ops qs) j = true := fun e => by
    have := (h.come j hjs).2 e
    have hsz := h.size
    simp [hsz, hjs] at this h1
    rw [h1] at this
    cases this
  rcases Nat.lt_or_ge j k with g | g
  · refine Classical.byContradiction fun hne => hnd (doneP_iff.2 ⟨g, fun p hp e => hne ⟨p, hp, e⟩⟩)
  · exfalso
    have hlj := h.rest (j - k)
    rw [show k + (j - k) = j by omega, hoj] at hlj
    have hx := List.all_eq_true.1 hw _ (List.mem_map.2 ⟨oj, List.mem_of_getElem? hlj, rfl⟩)
    obtain ⟨e, he, hen⟩ := List.any_eq_true.1 hx
    obtain ⟨ea, hea, rfl⟩ := List.mem_map.1 he
    obtain ⟨he1, he2⟩ := List.mem_filter.1 hea
    have hls := hall ea (Array.mem_toList_iff.1 he1) he2
    have hlt : ea.on < ops.size := by
      rcases Nat.lt_or_ge ea.on ops.size with g | g
      · exact g
      · have hsz := h.size
        rw [← hsz] at g; simp [Array.getElem?_eq_none g] at hls
    have h3 := (h.come ea.on hlt).1 hls
    rw [h3] at hen
    cases hen
theorem HI.set {k k' : Nat} {l l' : List Oper} {qs qs' : List (Nat × Oper)} {listed : Array Bool} (h : HI ops k l qs listed) {i : Nat} (hi : i < ops.size) (hr : ∀ j, l'[j]? = ops[k' + j]?) (hlen : k' + l'.length = ops.size) (hput : ∀ p ∈ qs', ops[p.1]? = some p.2 ∧ p.1 < k')
    (hd : ∀ j, doneP k' (infs ops qs') j = true ↔ (j = i ∨ doneP k (infs ops qs) j = true)) : HI ops k' l' qs' (listed.setIfInBounds i true) := by
  refine ⟨hr, hlen, hput, by simpa using h.size, fun j hj => ?_⟩
  rw [hd]
  by_cases q : i = j
  · subst q
    have h1 : (listed.setIfInBounds i true).getD i false = true := by simp [h.size, hi]
    exact ⟨fun _ => .inl rfl, fun _ => h1⟩
  · rw [getD_set_ne false q, h.come j hj]
    exact ⟨fun x => .inr x, fun x => x.resolve_left fun e => q e.symm⟩
theorem HP.run (hs : Region.noSelect ops = true) (hQ : ∀ c a d v w, Q (.panic c) (Act.put a d v) w → Q (.panic c) a w) : ∀ (p : Pl) (k : Nat) (l : List Oper) (qs : List (Nat × Oper)) (listed : Array Bool) (a : Act) (w : World),
    HI ops k l qs listed → ordP p k (l.map (infoOf ops)) (infs ops qs) = true → S w → HP P ops Q S p l (qs.map (·.2)) a w → wpAnyH P .any ops Q S (l.length + qs.length) listed a w
  | .fin, k, l, qs, listed, a, w, hI, hB, hS, h => by
    simp only [ordP, Bool.and_eq_true, List.isEmpty_iff, List.map_eq_nil_iff, infs] at hB
    obtain ⟨rfl, rfl⟩ := hB
    refine wpAnyH_done ?_ h _
    rw [List.eq_nil_iff_forall_not_mem]
    intro j hj
    obtain ⟨q, hq, _⟩ := hI.waits (by simp) j hj
    simp at hq
  | .take p, k, [], qs, listed, a, w, hI, hB, hS, h => by simp [ordP] at hB
  | .take p, k, o :: r, qs, listed, a, w, hI, hB, hS, h => by
    have h0 : ops[k]? = some o := by simpa using (hI.rest 0).symm
    have hk : k < ops.size := (Array.getElem?_eq_some_iff.1 h0).1
    simp only [List.map_cons, ordP, Bool.and_eq_true] at hB
    obtain ⟨⟨⟨hd, hp⟩, hpq⟩, hB'⟩ := hB
    obtain ⟨v, hy, hK⟩ := h
    have hnk : ∀ q ∈ qs, q.1 ≠ k := fun q hq => Nat.ne_of_lt (hI.put q hq).2
    have hkd : ¬ doneP k (infs ops qs) k = true := fun e => by have := (doneP_iff.1 e).1; omega
    have hun := hI.un hk hkd
    have hr : k ∈ Region.ready .any ops listed := mem_ready.2 ⟨hun, o, h0, hI.deps (by omega) hd⟩
    have hfree : ∀ j oj, ops[j]? = some oj → j ≠ k → listed.getD j true = false → (∀ e ∈ oj.after, Region.binds .any e = true → e.on ≠ k) → o.apart ops oj = true := by
      intro j oj hoj hne hju hno
      have hj : j < ops.size := (Array.getElem?_eq_some_iff.1 hoj).1
      have hsz := hI.size
      have hnd : ¬ doneP k (infs ops qs) j = true := fun e => by
        have := (hI.come j hj).2 e
        simp [hsz, hj] at this hju
        rw [this] at hju
        cases hju
      rcases Nat.lt_or_ge j k with g | g
      · obtain ⟨q, hq, e⟩ : ∃ q ∈ qs, j = q.1 := Classical.byContradiction fun hx => hnd (doneP_iff.2 ⟨g, fun q hq e => hx ⟨q, hq, e⟩⟩)
        have hqo := (hI.put q hq).1
        rw [← e, hoj] at hqo
        have e2 := Option.some.inj hqo
        have := List.all_eq_true.1 hpq (q.1, infoOf ops q.2) (List.mem_map.2 ⟨q, hq, rfl⟩)
        rw [← e2] at this
        exact apart_of this hno
      · have hlj := hI.rest (j - k)
        rw [show k + (j - k) = j by omega, hoj, show j - k = (j - k - 1) + 1 by omega, List.getElem?_cons_succ] at hlj
        exact apart_of (List.all_eq_true.1 hp _ (List.mem_map.2 ⟨oj, List.mem_of_getElem? hlj, rfl⟩)) hno
    have hlen := hI.len
    have hI' : HI ops (k + 1) r qs (listed.setIfInBounds k true) := hI.set hk (fun j => by
        have := hI.rest (j + 1)
        simpa [Nat.add_assoc, Nat.add_comm 1 j] using this) (by simp at hlen; omega) (fun q hq => ⟨(hI.put q hq).1, Nat.lt_succ_of_lt (hI.put q hq).2⟩) (fun j => by
        rw [doneP_iff, doneP_iff]
        constructor
        · rintro ⟨h1, h2⟩
          by_cases q : j = k
          · exact .inl q
          · exact .inr ⟨by omega, h2⟩
        · rintro (rfl | ⟨h1, h2⟩)
          · exact ⟨by omega, fun q hq e => hnk q hq e.symm⟩
          · exact ⟨by omega, h2⟩)
    have ih := HP.run hs hQ p (k + 1) r qs (listed.setIfInBounds k true) (a.put o.dst v) w hI' hB' hS hK
    rw [show (o :: r).length + qs.length = (r.length + qs.length) + 1 by simp; omega]
    exact wpAnyH_first h0 (Region.noSelect_spec hs) (fun c a w => hQ c a _ _ w) _ listed a w hfree hr hy hS ih
  | .off p, k, [], qs, listed, a, w, hI, hB, hS, h => by simp [ordP] at hB
  | .off p, k, o :: r, qs, listed, a, w, hI, hB, hS, h => by
    have h0 : ops[k]? = some o := by simpa using (hI.rest 0).symm
    have hlen := hI.len
    have hI' : HI ops (k + 1) r (qs ++ [(k, o)]) listed := ⟨fun j => by
        have := hI.rest (j + 1)
        simpa [Nat.add_assoc, Nat.add_comm 1 j] using this, by simp at hlen; omega, fun q hq => by
        rcases List.mem_append.1 hq with hq | hq
        · exact ⟨(hI.put q hq).1, Nat.lt_succ_of_lt (hI.put q hq).2⟩
        · simp at hq; subst hq; exact ⟨h0, Nat.lt_succ_self _⟩, hI.size, fun j hj => by
        rw [hI.come j hj, doneP_iff, doneP_iff]
        constructor
        · rintro ⟨h1, h2⟩
          refine ⟨by omega, fun q hq => ?_⟩
          rcases List.mem_append.1 hq with hq | hq
          · exact h2 q hq
          · simp at hq; subst hq; show j ≠ k; omega
        · rintro ⟨h1, h2⟩
          have h3 := h2 (k, o) (by simp)
          exact ⟨by simp only at h3; omega, fun q hq => h2 q (List.mem_append_left _ hq)⟩⟩
    have hB' : ordP p (k + 1) (r.map (infoOf ops)) (infs ops (qs ++ [(k, o)])) = true := by
      simp only [List.map_cons, ordP] at hB
      simpa [infs] using hB
    have ih := HP.run hs hQ p (k + 1) r (qs ++ [(k, o)]) listed a w hI' hB' hS (by simpa [HP] using h)
    rw [show (o :: r).length + qs.length = r.length + (qs ++ [(k, o)]).length by simp; omega]
    exact ih
  | .go1 p, k, l, [], listed, a, w, hI, hB, hS, h => by simp [ordP, infs] at hB
  | .go1 p, k, l, [(i, o)], listed, a, w, hI, hB, hS, h => by
    obtain ⟨h0, hik⟩ := hI.put (i, o) (by simp)
    simp only at h0 hik
    have hi : i < ops.size := (Array.getElem?_eq_some_iff.1 h0).1
    simp only [ordP, infs, List.map_cons, List.map_nil, Bool.and_eq_true] at hB
    obtain ⟨⟨hd, hw⟩, hB'⟩ := hB
    have hkl := hI.len
    have hr : i ∈ Region.ready .any ops listed := mem_ready.2 ⟨hI.un hi fun e => by have := (doneP_iff.1 e).2 (i, o) (by simp); exact this rfl, o, h0, hI.deps (by omega) hd⟩
    refine ⟨fun hz => (by rw [hz] at hr; cases hr), fun j hj => ?_⟩
    obtain ⟨q, hq, hji⟩ := hI.waits hw j hj
    simp at hq
    subst hq
    simp only at hji
    subst hji
    refine wpOp_step h0 (fun K' hK => h K' (fun a' w' hS' hW => hK a' w' ⟨hS', ?_⟩))
    have hI' : HI ops k l [] (listed.setIfInBounds j true) := hI.set hi hI.rest hI.len (by simp) (fun m => by
      rw [doneP_iff, doneP_iff]
      constructor
      · rintro ⟨h1, _⟩
        by_cases q : m = j
        · exact .inl q
        · exact .inr ⟨h1, fun p hp => by simp at hp; subst hp; exact q⟩
      · rintro (rfl | ⟨h1, _⟩)
        · exact ⟨hik, by simp⟩
        · exact ⟨h1, by simp⟩)
    exact HP.run hs hQ p k l [] _ a' w' hI' hB' hS' (hW hS')
  | .go1 p, k, l, _ :: _ :: _, listed, a, w, hI, hB, hS, h => by simp [ordP, infs] at hB
  | .go2 p q, k, l, [], listed, a, w, hI, hB, hS, h => by simp [ordP, infs] at hB
  | .go2 p q, k, l, [_], listed, a, w, hI, hB, hS, h => by simp [ordP, infs] at hB
  | .go2 p q, k, l, [(i, o), (i', o')], listed, a, w, hI, hB, hS, h => by
    obtain ⟨h0, hik⟩ := hI.put (i, o) (by simp)
    obtain ⟨h0', hik'⟩ := hI.put (i', o') (by simp)
    simp only at h0 hik h0' hik'
    have hi : i < ops.size := (Array.getElem?_eq_some_iff.1 h0).1
    have hi' : i' < ops.size := (Array.getElem?_eq_some_iff.1 h0').1
    simp only [ordP, infs, List.map_cons, List.map_nil, Bool.and_eq_true] at hB
    obtain ⟨⟨⟨⟨⟨hd, hd'⟩, hne⟩, hw⟩, hB1⟩, hB2⟩ := hB
    have hne' : i ≠ i' := by simpa using hne
    have hkl := hI.len
    have hr : i ∈ Region.ready .any ops listed := mem_ready.2 ⟨hI.un hi fun e => by have := (doneP_iff.1 e).2 (i, o) (by simp); exact this rfl, o, h0, hI.deps (by omega) hd⟩
    refine ⟨fun hz => (by rw [hz] at hr; cases hr), fun j hj => ?_⟩
    obtain ⟨x, hx, hji⟩ := hI.waits hw j hj
    simp at hx
    rcases hx with rfl | rfl
    · simp only at hji
      subst hji
      refine wpOp_step h0 (fun K' hK => h.1 K' (fun a' w' hS' hW => hK a' w' ⟨hS', ?_⟩))
      have hI' : HI ops k l [(i', o')] (listed.setIfInBounds j true) := hI.set hi hI.rest hI.len (fun p hp => hI.put p (by simp at hp; simp [hp])) (fun m => by
        rw [doneP_iff, doneP_iff]
        constructor
        · rintro ⟨h1, h2⟩
          by_cases q : m = j
          · exact .inl q
          · exact .inr ⟨h1, fun p hp => by
              simp at hp
              rcases hp with rfl | rfl
              · exact q
              · exact h2 _ (by simp)⟩
        · rintro (rfl | ⟨h1, h2⟩)
          · exact ⟨hik, fun p hp => by simp at hp; subst hp; exact hne'⟩
          · exact ⟨h1, fun p hp => h2 p (by simp at hp; simp [hp])⟩)
      have ih := HP.run hs hQ p k l [(i', o')] _ a' w' hI' hB1 hS' (hW hS')
      exact ih
    · simp only at hji
      subst hji
      refine wpOp_step h0' (fun K' hK => h.2 K' (fun a' w' hS' hW => hK a' w' ⟨hS', ?_⟩))
      have hI' : HI ops k l [(i, o)] (listed.setIfInBounds j true) := hI.set hi' hI.rest hI.len (fun p hp => hI.put p (by simp at hp; simp [hp])) (fun m => by
        rw [doneP_iff, doneP_iff]
        constructor
        · rintro ⟨h1, h2⟩
          by_cases q : m = j
          · exact .inl q
          · exact .inr ⟨h1, fun p hp => by
              simp at hp
              rcases hp with rfl | rfl
              · exact h2 _ (by simp)
              · exact q⟩
        · rintro (rfl | ⟨h1, h2⟩)
          · exact ⟨hik', fun p hp => by simp at hp; subst hp; exact fun e => hne' e.symm⟩
          · exact ⟨h1, fun p hp => h2 p (by simp at hp; simp [hp])⟩)
      have ih := HP.run hs hQ q k l [(i, o)] _ a' w' hI' hB2 hS' (hW hS')
      exact ih
  | .go2 p q, k, l, _ :: _ :: _ :: _, listed, a, w, hI, hB, hS, h => by simp [ordP, infs] at hB
/-- Two that may come in either order, each with what it gives: one way goes on. -/
theorem put_comm (a : Act) {d d' : Tmp} (hne : d ≠ d') (v v' : Value) : (a.put (some d') v').put (some d) v = (a.put (some d) v).put (some d') v' := by
  simp only [Act.put]
  congr 1
  exact (Array.setIfInBounds_comm _ _ hne).symm
theorem HP.both {p : Pl} {o o' : Oper} {l : List Oper} {a : Act} {w : World} (d d' : Tmp) (hd : o.dst = some d) (hd' : o'.dst = some d') (hne : d ≠ d') (φ φ' : Value → World → Prop)
    (hφ : ∀ v w1 w2, φ v w1 → Nw w1 w2 → φ v w2) (hφ' : ∀ v w1 w2, φ' v w1 → Nw w1 w2 → φ' v w2) (hS : S w)
    (h1 : ∀ w1, S w1 → ∀ K' : Act → World → Prop, (∀ v w', Nw w1 w' → φ v w' → K' (a.put (some d) v) w') → if Region.wanted o (yielded ops a.tmps) = true then Oper.wp P o a w1 K' Q else K' (a.put o.dst undef) w1)
    (h1' : ∀ u w1, S w1 → ∀ K' : Act → World → Prop, (∀ v w', Nw w1 w' → φ v w' → K' ((a.put (some d') u).put (some d) v) w') → if Region.wanted o (yielded ops (a.put (some d') u).tmps) = true then Oper.wp P o (a.put (some d') u) w1 K' Q else K' ((a.put (some d') u).put o.dst undef) w1)
    (h2 : ∀ w1, S w1 → ∀ K' : Act → World → Prop, (∀ v w', Nw w1 w' → φ' v w' → K' (a.put (some d') v) w') → if Region.wanted o' (yielded ops a.tmps) = true then Oper.wp P o' a w1 K' Q else K' (a.put o'.dst undef) w1)
    (h2' : ∀ u w1, S w1 → ∀ K' : Act → World → Prop, (∀ v w', Nw w1 w' → φ' v w' → K' ((a.put (some d) u).put (some d') v) w') → if Region.wanted o' (yielded ops (a.put (some d) u).tmps) = true then Oper.wp P o' (a.put (some d) u) w1 K' Q else K' ((a.put (some d) u).put o'.dst undef) w1)
    (hN : ∀ w1 w2, S w1 → Nw w1 w2 → S w2)
    (h : ∀ v v' w', S w' → φ v w' → φ' v' w' → HP P ops Q S p l [] ((a.put (some d) v).put (some d') v') w') : HP P ops Q S (.go2 (.go1 p) (.go1 p)) l [o, o'] a w := by
  refine HP.go2 (fun KK hKK => h1 w hS KK fun v w' g hv => hKK.out _ _ (hN _ _ hS g) fun _ => HP.go1 fun K2 hK2 => h2' v w' (hN _ _ hS g) K2 fun v2 w2 g2 hv2 => hK2.out _ _ (hN _ _ (hN _ _ hS g) g2) fun _ => h v v2 w2 (hN _ _ (hN _ _ hS g) g2) (hφ _ _ _ hv g2) hv2)
    (fun KK hKK => h2 w hS KK fun v w' g hv => hKK.out _ _ (hN _ _ hS g) fun _ => HP.go1 fun K2 hK2 => h1' v w' (hN _ _ hS g) K2 fun v2 w2 g2 hv2 => hK2.out _ _ (hN _ _ (hN _ _ hS g) g2) fun _ => ?_)
  rw [put_comm a hne]
  exact h v2 v w2 (hN _ _ (hN _ _ hS g) g2) hv2 (hφ' _ _ _ hv g2)
/-- THE LAW: a plan that is told serves every order. -/
theorem region_plan {id : Nat} {a : Act} {w : World} {l : List Oper} (p : Pl) (S : World → Prop) (hm : P.follows .mixedOrders = true) (hs : Region.noSelect l.toArray = true)
    (hB : ordP p 0 (l.map (infoOf l.toArray)) [] = true) (hS : S w.drew) (h : HP P l.toArray (NoPanic Q) S p l [] a w.drew) : (Code.region id l.toArray true).wp P Q a w := by
  refine wp_region_noPanic (wp_region_held (S := S) hm ?_)
  have := HP.run hs (fun c a d v w h => h) p 0 l [] (Array.replicate l.toArray.size false) a w.drew ⟨by simp, by simp, by simp, by simp, fun j hj => by rw [doneP_iff]; simp at hj ⊢; simp [hj]⟩ hB hS h
  simpa using this
end
end Go.Proofs.Ytmciiobncfchlaa
end

/- The developers' package queue: holds, waits, lockable, closures, the order of turns. -/
section
namespace Go.Proofs.Ytmciiobncfchlaa
open Go.RowKit
set_option linter.unusedVariables false      -- a contract need not use every name

theorem dHolds (R : Rq) (w : World) : Calls Try.prog 47 #[rqV R] w fun e w' => e = .returned (.bool (R.md != 0)) ∧ Nw w w' := by
  obtain ⟨a, b, m, n, s⟩ := R
  unfold rqV
  go_enter Try.func47, Try.ntmps47
  go_wp2
  go_ret
  exact ⟨rfl, (Nw.refl _).alloc _⟩
theorem dWaits (R : Rq) (w : World) : Calls Try.prog 42 #[rqV R] w fun e w' => e = .returned (.bool (decide (0 < R.sn))) ∧ Nw w w' := by
  obtain ⟨a, b, m, n, s⟩ := R
  unfold rqV
  go_enter Try.func42, Try.ntmps42
  go_wp2
  go_ret
  exact ⟨rfl, (Nw.refl _).alloc _⟩
theorem dKnown (m : Int) (w : World) : Calls Try.prog 69 #[.int .i64 m] w fun e w' => e = .returned (.bool (knI m)) ∧ Nw w w' := by
  by_cases h : 0 ≤ m ∧ m < 7
  · refine (known_yes m w h.1 h.2).mono ?_
    rintro e w' ⟨rfl, rfl⟩
    exact ⟨by rw [(knI_iff m).2 h], Nw.refl _⟩
  · refine (known_no m w (by omega)).mono ?_
    rintro e w' ⟨rfl, rfl⟩
    have : knI m = false := by
      cases e : knI m with
      | false => rfl
      | true => exact absurd ((knI_iff m).1 e) h
    exact ⟨by rw [this], Nw.refl _⟩
theorem dLockable (m : Int) (w : World) : Calls Try.prog 35 #[.int .i64 m] w fun e w' => e = .returned (.bool ((m != 0) && knI m)) ∧ Nw w w' := by
  cases h : (m != 0) with
  | false =>
    go_enter Try.func35, Try.ntmps35
    go_wp2
    go_ret
    exact ⟨rfl, Nw.refl _⟩
  | true =>
    have HK := Lib.hid (dKnown m)
    go_enter Try.func35, Try.ntmps35
    go_wp2_with (go_at_call 69; refine (HK.out _).mono ?_; rintro e w' ⟨rfl, hN⟩)
    go_ret
    exact ⟨rfl, hN⟩

/-- A function value that tells of each request whether it is one looked for. -/
def Tells (w : World) (f : Value) (p : Rq → Bool) : Prop := ∃ (g : Nat) (lb : Array Value), f = .func (.func g) #[] lb ∧ (∀ args w, (callFunc g args).run Try.prog w = .ok (.enter g args) w) ∧ ∀ (R : Rq) (w1 : World), Nw w w1 → Calls Try.prog g (#[rqV R] ++ lb) w1 fun e w' => e = .returned (.bool (p R)) ∧ Nw w1 w'
theorem Tells.nw {w w' : World} {f : Value} {p : Rq → Bool} (h : Tells w f p) (g : Nw w w') : Tells w' f p := by
  obtain ⟨k, lb, e, eg, hc⟩ := h
  exact ⟨k, lb, e, eg, fun R w1 h1 => hc R w1 (g.trans h1)⟩

theorem dWithID1 (i : Int) (R : Rq) (p : Nat) (w : World) (h : w.cell? ⟨p, 0, none⟩ = some (.int .i64 i)) : Calls Try.prog 71 #[rqV R, .pointer (some ⟨p, 0, none⟩)] w fun e w' => e = .returned (.bool (R.id == i)) ∧ Nw w w' := by
  obtain ⟨a, b, m, n, s⟩ := R
  unfold rqV
  have hp := World.block_lt_of_cell? _ _ h
  go_enter Try.func71, Try.ntmps71
  go_wp2
  go_ret
  exact ⟨rfl, (Nw.refl _).alloc _⟩
theorem dOfTxn1 (i : Int) (R : Rq) (p : Nat) (w : World) (h : w.cell? ⟨p, 0, none⟩ = some (.int .i64 i)) : Calls Try.prog 72 #[rqV R, .pointer (some ⟨p, 0, none⟩)] w fun e w' => e = .returned (.bool (R.txn == i)) ∧ Nw w w' := by
  obtain ⟨a, b, m, n, s⟩ := R
  unfold rqV
  have hp := World.block_lt_of_cell? _ _ h
  go_enter Try.func72, Try.ntmps72
  go_wp2
  go_ret
  exact ⟨rfl, (Nw.refl _).alloc _⟩
theorem dWithID (i : Int) (w : World) : Calls Try.prog 37 #[.int .i64 i] w fun e w' => ∃ p, e = .returned (.func (.func 71) #[] #[.pointer (some ⟨p, 0, none⟩)]) ∧ Nw w w' ∧ w'.cell? ⟨p, 0, none⟩ = some (.int .i64 i) := by
  go_enter Try.func37, Try.ntmps37
  go_wp2
  go_ret
  exact ⟨_, rfl, (Nw.refl _).alloc _, hcell (allocAt w _)⟩
theorem dOfTxn (i : Int) (w : World) : Calls Try.prog 38 #[.int .i64 i] w fun e w' => ∃ p, e = .returned (.func (.func 72) #[] #[.pointer (some ⟨p, 0, none⟩)]) ∧ Nw w w' ∧ w'.cell? ⟨p, 0, none⟩ = some (.int .i64 i) := by
  go_enter Try.func38, Try.ntmps38
  go_wp2
  go_ret
  exact ⟨_, rfl, (Nw.refl _).alloc _, hcell (allocAt w _)⟩
theorem Tells.withID {w : World} {i : Int} {p : Nat} (h : w.cell? ⟨p, 0, none⟩ = some (.int .i64 i)) : Tells w (.func (.func 71) #[] #[.pointer (some ⟨p, 0, none⟩)]) (fun R => R.id == i) :=
  ⟨_, _, rfl, enters_of Try.func71 (by kernel_rfl) rfl, fun R w1 g => dWithID1 i R p w1 (g.kp h)⟩
theorem Tells.ofTxn {w : World} {i : Int} {p : Nat} (h : w.cell? ⟨p, 0, none⟩ = some (.int .i64 i)) : Tells w (.func (.func 72) #[] #[.pointer (some ⟨p, 0, none⟩)]) (fun R => R.txn == i) :=
  ⟨_, _, rfl, enters_of Try.func72 (by kernel_rfl) rfl, fun R w1 g => dOfTxn1 i R p w1 (g.kp h)⟩
end Go.Proofs.Ytmciiobncfchlaa
end

/- Rows of int of the call's own; make([]int, n), append of one, Same[int], Pick. -/
section
namespace Go.Proofs.Ytmciiobncfchlaa
open Go.RowKit

abbrev IS (w : World) (v : Value) (l : List Int) : Prop := w.ownsRow 0 3 1 v l.length (l.map (Value.int .i64))
theorem IS.form {w : World} {v : Value} {l : List Int} (h : IS w v l) : (v = .slice none 0 0 ∧ l = []) ∨ ∃ g cap, v = .slice (some ⟨g, 0, none⟩) l.length cap := by
  rcases h.2 with ⟨rfl, h0⟩ | ⟨g, cap, cur, rfl, _⟩
  · exact .inl ⟨rfl, List.length_eq_zero_iff.1 h0⟩
  · exact .inr ⟨g, cap, rfl⟩
theorem IS.tch {S : Nat → Prop} {w w' : World} {v : Value} {l : List Int} (h : IS w v l) (k : Tch S w w') (hn : ∀ g, v.ownBlock = some g → ¬ S g) : IS w' v l := by
  refine ⟨h.1, ?_⟩
  rcases h.2 with h0 | ⟨g, cap, cur, rfl, hb, hg, rest⟩
  · exact .inl h0
  · exact .inr ⟨g, cap, cur, rfl, hb, (k.block g (Array.getElem?_eq_some_iff.1 hg).1 (hn g rfl)).trans hg, rest⟩
theorem IS.nw {w w' : World} {v : Value} {l : List Int} (h : IS w v l) (k : Nw w w') : IS w' v l := h.tch (Tch.nw (S := fun _ => False) k) (fun _ _ e => e)
theorem IS.nil (w : World) : IS w (.slice none 0 0) [] := World.ownsRow_nil _ _ _ _
theorem IS.nlen {w : World} {g cap n : Nat} {l : List Int} (h : IS w (.slice (some ⟨g, 0, none⟩) n cap) l) : n = l.length := by
  rcases h.2 with ⟨h', _⟩ | ⟨g', cap', cur, h', _⟩
  · simp at h'
  · simp only [Value.slice.injEq] at h'
    exact h'.2.1
theorem IS.cell {w : World} {g cap n : Nat} {l : List Int} (h : IS w (.slice (some ⟨g, 0, none⟩) n cap) l) (i : Nat) (hi : i < l.length) : w.cell? ⟨g, i, none⟩ = some (.int .i64 (l.getD i 0)) := by
  have e := h.nlen
  subst e
  exact (World.ownsRow.cellAt h i (by omega)).trans (by simp [List.getD, hi])
theorem IS.frozen {w : World} {g cap n : Nat} {l : List Int} (h : IS w (.slice (some ⟨g, 0, none⟩) n cap) l) (j : Nat) : w.frozen? ⟨g, j, none⟩ = false := by
  have e := h.nlen
  subst e
  exact World.ownsRow.frozenAt h j
theorem IS.lt {w : World} {v : Value} {l : List Int} (h : IS w v l) {k : Nat} (hk : v.ownBlock = some k) : k < w.heap.size := (World.ownsRow.lt h k hk).2
theorem IS.glt {w : World} {g cap n : Nat} {l : List Int} (h : IS w (.slice (some ⟨g, 0, none⟩) n cap) l) : g < w.heap.size := h.lt rfl
theorem IS.len {w : World} {v : Value} {l : List Int} (h : IS w v l) : l.length ≤ maxLen := by
  rcases h.2 with ⟨rfl, h0⟩ | ⟨g', cap', cur, h', _, _, h1, h2, _⟩
  · rw [h0]; exact Nat.zero_le _
  · exact Nat.le_trans h1 h2
theorem IS.set {w : World} {g cap n : Nat} {l : List Int} (h : IS w (.slice (some ⟨g, 0, none⟩) n cap) l) (i : Nat) (x : Int) : IS (w.setCell ⟨g, i, none⟩ (.int .i64 x)) (.slice (some ⟨g, 0, none⟩) n cap) (l.set i x) := by
  have e := h.nlen
  subst e
  have h1 := (World.ownsRow.stored h i (.int .i64 x)).1
  unfold IS
  rw [List.length_set, List.map_set]
  exact h1
theorem IS.box {w : World} {v : Value} {l : List Int} (h : IS w v l) : ∃ ao cap, v = .slice ao l.length cap ∧ (0 < l.length → ∃ g, ao = some ⟨g, 0, none⟩ ∧ v.ownBlock = some g) := by
  rcases h.form with ⟨rfl, rfl⟩ | ⟨g, cap, rfl⟩
  · exact ⟨none, 0, rfl, fun h => by simp at h⟩
  · exact ⟨_, cap, rfl, fun _ => ⟨g, rfl, rfl⟩⟩
theorem infoI : (Try.prog.info? 3).map (fun i => (i.zero, i.size, i.bytes)) = some (some (.int .i64 0), 1, 8) := by kernel_rfl
theorem IS.push (w : World) (v : Value) (l : List Int) (x : Int) (h : IS w v l) (hsm : l.length ≤ 100000) :
    ∃ v' w1, (Builtin.append_ #[36, 36] 36 #[v, .slice (some ⟨w.heap.size, 0, none⟩) 1 1]).run Try.prog (w.alloc (.cells #[.int .i64 x] 3)) = .ok v' w1 ∧ IS w1 v' (l ++ [x]) ∧ Tch (fun k => v.ownBlock = some k) w w1 ∧
      (∀ k, v'.ownBlock = some k → v.ownBlock = some k ∨ w.heap.size ≤ k) ∧ (∃ g cap, v' = .slice (some ⟨g, 0, none⟩) (l.length + 1) cap) := by
  obtain ⟨i0, hi, hz0, hz1, hz2⟩ := info_parts infoI
  have ha : IS (w.alloc (.cells #[.int .i64 x] 3)) v l := h.nw ((Nw.refl w).alloc _)
  have hc : (w.alloc (.cells #[.int .i64 x] 3)).cell? ⟨w.heap.size, 0, none⟩ = some (.int .i64 x) := by simp [go_sem]
  obtain ⟨v', w1, hrun, ho, hg, hp⟩ := run_append_fresh (P := Try.prog) (w.alloc (.cells #[.int .i64 x] 3)) 0 36 36 3 i0 _ 1 8 Try.underlying36 hi hz0 hz1 hz2 rfl (by decide) v l.length _ ha
    ⟨w.heap.size, 0, none⟩ 1 1 [.int .i64 x] rfl (by
      intro j u hu
      match j, hu with
      | 0, hu => simp at hu; subst hu; exact hc) (by simp [Value.oneCell']) (by unfold maxLen; omega) (by omega) (Nat.zero_le _)
  have hI : IS w1 v' (l ++ [x]) := by
    unfold IS
    rw [List.length_append, List.map_append]
    exact ho
  refine ⟨v', w1, hrun, hI, (Tch.alloc (Tch.refl _ w) _).grown hg (fun k e => .inl e), fun k e => ?_, ?_⟩
  · rcases hp with hp | hp
    · exact .inl (hp ▸ e)
    · rw [hp] at e
      simp at e
      exact .inr (by omega)
  · rcases hI.form with ⟨_, q⟩ | ⟨g, cap, rfl⟩
    · simp at q
    · exact ⟨g, cap, by simp⟩
theorem mk_ints (w : World) (N : Nat) (hN : N ≤ 1000) : (Instr.makeSlice 36 (.int .i64 N) (.int .i64 N)).run Try.prog w = .ok (.slice (some ⟨w.heap.size, 0, none⟩) N N) (w.alloc (.cells (Array.replicate N (.int .i64 0)) 3)) := by
  obtain ⟨i0, hi, hz0, hz1, hz2⟩ := info_parts infoI
  have h := run_make (P := Try.prog) w 36 3 i0 (.int .i64 0) Try.underlying36 hi hz0 .i64 .i64 N N (by omega) (Int.le_refl _) (by rw [hz2]; omega) (by omega)
  have e : madeCells (Value.int .i64 0).cells (N * 1) = Array.replicate N (.int .i64 0) := by
    apply Array.ext
    · simp [madeCells]
    · intro j h1 h2
      simp [madeCells, Value.cells, Nat.mod_one]
  rw [h, hz1]
  simp only [Int.toNat_natCast, e]
theorem is_made (w : World) (N : Nat) (hN : N ≤ 1000) : IS (w.alloc (.cells (Array.replicate N (.int .i64 0)) 3)) (.slice (some ⟨w.heap.size, 0, none⟩) N N) (List.replicate N 0) := by
  have h := World.ownsRow_lit (base := 0) (size := 1) (e := 3) w (Array.replicate N (.int .i64 0)) N (Nat.zero_le _) (by unfold maxLen; omega) (by simp)
  unfold IS
  simpa using h

set_option maxHeartbeats 1000000 in
theorem same_rows (g cap g' cap' : Nat) (l : List Int) (w : World) (h : IS w (.slice (some ⟨g, 0, none⟩) l.length cap) l) (h' : IS w (.slice (some ⟨g', 0, none⟩) l.length cap') l) :
    Calls Try.prog 17 #[.slice (some ⟨g, 0, none⟩) l.length cap, .slice (some ⟨g', 0, none⟩) l.length cap'] w fun e w' => e = .returned (.bool true) ∧ Nw w w' := by
  have hm := h.len
  unfold maxLen at hm
  have H := Lib.hid (And.intro h h')
  clear h h'
  go_enter Try.func17, Try.ntmps17
  go_wp2
  go_loopw [5] (fun i wr => ∃ k : Nat, k ≤ l.length ∧ i = .int .i64 k ∧ Nw w wr) (fun i _ => l.length - (intOf i).toNat)
  case atStart => exact ⟨0, Nat.zero_le _, rfl, Nw.refl _⟩
  case round =>
    obtain ⟨k, hk, rfl, hG⟩ := hrel
    by_cases hlt : k < l.length
    · have c0 := (H.out.1.nw hG).cell k hlt
      have d0 := (H.out.2.nw hG).cell k hlt
      generalize l.getD k 0 = x at *
      go_wp2_with fail
      go_quiet (fail)
      go_wp2
      go_roundw
      case rel => exact ⟨k + 1, by omega, by go_num, hG.drewN _⟩
      case measure => simp [intOf]; omega
    · go_wp2
      go_ret
      exact ⟨rfl, hG⟩
theorem same_nil (w : World) (v v' : Value) (h : (v = .slice none 0 0) ∨ ∃ g cap, v = .slice (some ⟨g, 0, none⟩) 0 cap) (h' : (v' = .slice none 0 0) ∨ ∃ g cap, v' = .slice (some ⟨g, 0, none⟩) 0 cap) :
    Calls Try.prog 17 #[v, v'] w fun e w' => e = .returned (.bool true) ∧ Nw w w' := by
  rcases h with rfl | ⟨g, cap, rfl⟩ <;> rcases h' with rfl | ⟨g', cap', rfl⟩
  all_goals
    go_enter Try.func17, Try.ntmps17
    go_wp2
    refine wp_loop_rounds 1 ?_
    repeat (rw [rounds_succ]; go_wp2)
    go_ret
    exact ⟨rfl, Nw.refl _⟩
theorem same_any (w : World) (v v' : Value) (l : List Int) (h : IS w v l) (h' : IS w v' l) :
    Calls Try.prog 17 #[v, v'] w fun e w' => e = .returned (.bool true) ∧ Nw w w' := by
  rcases h.form with ⟨rfl, rfl⟩ | ⟨g, cap, rfl⟩
  · rcases h'.form with ⟨rfl, _⟩ | ⟨g', cap', rfl⟩
    · exact same_nil w _ _ (.inl rfl) (.inl rfl)
    · exact same_nil w _ _ (.inl rfl) (.inr ⟨_, _, rfl⟩)
  · rcases h'.form with ⟨rfl, rfl⟩ | ⟨g', cap', rfl⟩
    · exact same_nil w _ _ (.inr ⟨_, _, rfl⟩) (.inl rfl)
    · exact same_rows g cap g' cap' l w h h'

theorem rem_bd (n m : Int) (hm : 0 < m) : -m < n.tmod m ∧ n.tmod m < m := by
  refine ⟨?_, Int.tmod_lt_of_pos n hm⟩
  have := Int.tmod_lt_of_pos (-n) hm
  rw [Int.neg_tmod] at this; omega
theorem rem_emod (n m : Int) (hm : 0 < m) : n % m = if n.tmod m < 0 then n.tmod m + m else n.tmod m := by
  have h1 : n.tmod m + m * n.tdiv m = n := Int.tmod_add_mul_tdiv n m
  have h2 := rem_bd n m hm
  generalize n.tmod m = r at *
  generalize n.tdiv m = q at *
  subst h1
  rw [Int.add_mul_emod_self_left]
  by_cases h : r < 0
  · rw [if_pos h, ← Int.add_emod_right, Int.emod_eq_of_lt (by omega) (by omega)]
  · rw [if_neg h, Int.emod_eq_of_lt (by omega) (by omega)]
theorem ret_int {k : IntKind} {a b : Int} (h : a = b) : Ending.returned (.int k a) = .returned (.int k b) := by rw [h]
/-- Pick(n, m) is n modulo m, from 0 on. -/
theorem pick_any (n m : Int) (w : World) (hm : 0 < m) (hm' : m ≤ 9223372036854775807) :
    Calls Try.prog 34 #[.int .i64 n, .int .i64 m] w fun e w' => e = .returned (.int .i64 (n % m)) ∧ w = w' := by
  have hr := Lib.hid (rem_emod n m hm)
  obtain ⟨b1, b2⟩ := rem_bd n m hm
  by_cases hneg : n.tmod m < 0
  · go_enter Try.func34, Try.ntmps34
    go_wp2
    go_ret
    exact ⟨ret_int (by rw [hr.out, if_pos hneg]), rfl⟩
  · go_enter Try.func34, Try.ntmps34
    go_wp2
    go_ret
    exact ⟨ret_int (by rw [hr.out, if_neg (by omega)]), rfl⟩
end Go.Proofs.Ytmciiobncfchlaa
end
