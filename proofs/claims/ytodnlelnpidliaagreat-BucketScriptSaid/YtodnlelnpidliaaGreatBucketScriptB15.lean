/- Texts merged: QuN, QuO -/
import Derived.Test.YtodnlelnpidliaaGreatBucketScriptB14

/- The document's own queue: Ask. -/
section
namespace Go.Proofs.YtodnlelnpidliaaGreat
open Go.RowKit
set_option linter.unusedVariables false      -- a contract need not use every name

/-- What a call gives that returns a head, whether it was granted, and an error. -/
def HR2 (X : Hq × Bool × Int) (w : World) (e : Ending) (w' : World) : Prop := ∃ v', e = .returned (.tuple #[hdV X.1.t X.1.r v' X.1.W, .bool X.2.1, .int .i64 X.2.2]) ∧ Nw w w' ∧ RqAt w' v' X.1.q ∧ capOk v'
/-- The same, and the row that is returned is new. -/
def HR2n (X : Hq × Bool × Int) (w : World) (e : Ending) (w' : World) : Prop := ∃ v', e = .returned (.tuple #[hdV X.1.t X.1.r v' X.1.W, .bool X.2.1, .int .i64 X.2.2]) ∧ Nw w w' ∧ RqAt w' v' X.1.q ∧ capOk v' ∧ newV w.heap.size v'
theorem HR2n.old {X : Hq × Bool × Int} {w : World} {e : Ending} {w' : World} (h : HR2n X w e w') : HR2 X w e w' := by
  obtain ⟨v, h1, h2, h3, h4, _⟩ := h
  exact ⟨v, h1, h2, h3, h4⟩
theorem free_iff {W : Int} {q : List Rq} (h : Ok W q) (m : Int) : free q m = true ↔ (∀ a ∈ q, ¬ isUp a) ∧ (∀ a ∈ q, a.md ≠ 0) ∧ fitI q m (-1) := by
  constructor
  · intro hf
    have hf' : ∀ a ∈ q, a.sn = 0 ∧ cpI a.md m = true := by
      intro a ha
      have := List.all_eq_true.1 hf a ha
      simpa using this
    exact ⟨fun a ha u => by have := (hf' a ha).1; have := u.2; omega, fun a ha => ((h.rt a ha).h (hf' a ha).1).1, fun k hk _ _ => (hf' _ (List.getElem_mem hk)).2⟩
  · rintro ⟨h1, h2, h3⟩
    refine List.all_eq_true.2 fun a ha => ?_
    obtain ⟨k, hk, rfl⟩ := List.getElem_of_mem ha
    have hm := h2 _ ha
    have s0 := (h.rt _ ha).s0
    have hs : q[k].sn = 0 := by
      have := h1 _ ha
      unfold isUp at this
      have : ¬ 0 < q[k].sn := fun e => this ⟨hm, e⟩
      omega
    simp [hs, h3 k hk (by omega) hm]
theorem ask_bad {h : Hq} {id txn m : Int} (e : id < 0 ∨ m = 0 ∨ knI m = false) : askR h id txn m = (noH, false, 2) := by
  unfold askR
  have : askE h.q id txn m = 2 := by unfold askE; rw [if_pos e]
  rw [this]; rfl
theorem ask_two {h : Hq} {id txn m : Int} (e : ¬ (id < 0 ∨ m = 0 ∨ knI m = false)) (a : (h.q.any fun r => r.id == id || r.txn == txn) = true) : askR h id txn m = (noH, false, 4) := by
  unfold askR
  have : askE h.q id txn m = 4 := by unfold askE; rw [if_neg e, if_pos a]
  rw [this]; rfl
theorem ask_yes {h : Hq} {id txn m : Int} (e : ¬ (id < 0 ∨ m = 0 ∨ knI m = false)) (a : (h.q.any fun r => r.id == id || r.txn == txn) = false) (f : free h.q m = true) : askR h id txn m = (⟨h.t, h.r, h.W, h.q ++ [⟨id, txn, m, m, 0⟩]⟩, true, 0) := by
  unfold askR
  have : askE h.q id txn m = 0 := by unfold askE; rw [if_neg e, if_neg (by rw [a]; simp)]
  rw [this, if_pos rfl]; unfold askQ; rw [if_pos f]
theorem ask_no {h : Hq} {id txn m : Int} (e : ¬ (id < 0 ∨ m = 0 ∨ knI m = false)) (a : (h.q.any fun r => r.id == id || r.txn == txn) = false) (f : ¬ free h.q m = true) : askR h id txn m = (⟨h.t, h.r, h.W + 1, h.q ++ [⟨id, txn, 0, m, h.W + 1⟩]⟩, false, 0) := by
  unfold askR
  have : askE h.q id txn m = 0 := by unfold askE; rw [if_neg e, if_neg (by rw [a]; simp)]
  rw [this, if_pos rfl]; unfold askQ; rw [if_neg f]
theorem any_take {p : Rq → Bool} {q : List Rq} {k : Nat} (hk : k < q.length) (h : p q[k] = true) : q.any p = true := List.any_eq_true.2 ⟨_, List.getElem_mem hk, h⟩
theorem any_none {p : Rq → Bool} {q : List Rq} (h : ∀ k (hk : k < q.length), p q[k] = false) : q.any p = false := by
  rw [List.any_eq_false]
  intro a ha
  obtain ⟨k, hk, rfl⟩ := List.getElem_of_mem ha
  simp [h k hk]
theorem box_row (w : World) (a b c d e : Int) (T : TypeId) : ∀ j u, (rqrow ⟨a, b, c, d, e⟩)[j]? = some u → (w.alloc (.cells #[.int .i64 a, .int .i64 b, .int .i64 c, .int .i64 d, .int .i64 e] T)).cell? ⟨w.heap.size, j, none⟩ = some u := by
  intro j u hu
  rw [hcell (allocAt w _), ← Array.getElem?_toList]
  exact hu
/-- An append of one request to the row of a head's own. -/
theorem push_one {w z : World} {g0 pb n1 k1 : Nat} {a1 : Option Addr} {q : List Rq} (hz : Nw w z) (hg : w.heap.size ≤ g0) (h : RqOwn z g0 (.slice a1 n1 k1) q) (hl : q.length ≤ 1000) (a b c d e : Int) (hpb : pb < z.heap.size) (hg0 : g0 ≤ z.heap.size) (hne : ∀ g, (Value.slice a1 n1 k1).ownBlock = some g → g ≠ pb) :
    ∃ a2 n2 k2 w2, (Builtin.append_ #[54, 54] 54 #[.slice a1 n1 k1, .slice (some ⟨z.heap.size, 0, none⟩) 1 1]).run Tryz.prog (z.alloc (.cells #[.int .i64 a, .int .i64 b, .int .i64 c, .int .i64 d, .int .i64 e] 47)) = .ok (.slice a2 n2 k2) w2 ∧
      RqOwn w2 g0 (.slice a2 n2 k2) (q ++ [⟨a, b, c, d, e⟩]) ∧ Nw w w2 ∧ (∀ x, x < z.heap.size → (∀ g, (Value.slice a1 n1 k1).ownBlock = some g → x ≠ g) → w2.heap[x]? = z.heap[x]?) ∧ (∀ x, (Value.slice a2 n2 k2).ownBlock = some x → x ≠ pb) := by
  have hN : Nw z (z.alloc (.cells #[.int .i64 a, .int .i64 b, .int .i64 c, .int .i64 d, .int .i64 e] 47)) := (Nw.refl z).alloc _
  obtain ⟨v', w2, hrun, hR, hG, hbk, g2, k2, hv⟩ := Own.push elemRq (onw h hN) ⟨a, b, c, d, e⟩ z.heap.size 1 (box_row z a b c d e _) (by omega) (Nat.le_trans hg0 hN.sz)
  subst hv
  refine ⟨_, _, _, w2, hrun, hR, (hz.trans hN).gro hG (fun x hx => Nat.le_trans hg (oge h hx)), fun x hx hxg => (hG.block x (Nat.lt_of_lt_of_le hx hN.sz) (fun e => hxg x e.symm rfl)).trans (hN.block x hx), fun x hx e => ?_⟩
  subst e
  have hs : (z.alloc (.cells #[.int .i64 a, .int .i64 b, .int .i64 c, .int .i64 d, .int .i64 e] 47)).heap.size = z.heap.size + 1 := by simp
  rcases hbk with q1 | q1
  · rw [hx] at q1; exact hne x q1.symm rfl
  · rw [hx] at q1; have e2 : x = (z.alloc (.cells #[.int .i64 a, .int .i64 b, .int .i64 c, .int .i64 d, .int .i64 e] 47)).heap.size := Option.some.inj q1; omega
set_option maxRecDepth 100000 in
set_option maxHeartbeats 8000000 in
theorem r9askN (t r W id x m : Int) (v : Value) (q : List Rq) (w : World) (hl : q.length ≤ 1000) (hok : Ok W q) (h : RqAt w v q) :
    Calls Tryz.prog 83 #[hdV t r v W, .int .i64 id, .int .i64 x, .int .i64 m] w (HR2n (askR ⟨t, r, W, q⟩ id x m) w) := by
  have HOk := Lib.hid hok
  clear hok
  obtain ⟨X, hX⟩ : ∃ X, askR ⟨t, r, W, q⟩ id x m = X := ⟨_, rfl⟩
  rw [hX]
  have HXx := Lib.hid hX
  clear hX
  have HU := Lib.hid (fun (w1 : World) (g : Nw w w1) => r9upgrading t r W v q w1 hl (h.nw g))
  have HWa := Lib.hid (fun (w1 : World) (g : Nw w w1) => r9waiting t r W v q w1 hl (h.nw g))
  have HF := Lib.hid (fun (w1 : World) (g : Nw w w1) => r9fits t r W m (-1) v q w1 hl (h.nw g))
  have HCp := Lib.hid (fun (w1 : World) (g : Nw w w1) => r9copied t r W v q w1 hl (h.nw g))
  have HAs := Lib.hid (fun w => r9asked m w)
  unfold hdV at HCp HU HWa HF
  unfold HR2n hdV
  obtain ⟨a, c, rfl, h⟩ := h
  have HH := Lib.hid h
  clear h
  have HX := Lib.hid (two_boxes w (.cells #[.int .i64 t, .int .i64 r, .slice a q.length c, .int .i64 W] 56) (.cells #[.int .i64 0, .int .i64 0, .slice none 0 0, .int .i64 0] 56))
  by_cases hid : id < 0
  · have hR := HXx.out.symm.trans (ask_bad (h := ⟨t, r, W, q⟩) (.inl hid))
    subst hR
    have HN0 := HX.out.2.2.1
    have hq0 := HX.out.2.1
    have d0 := hcell (j := 0) hq0
    have d1 := hcell (j := 1) hq0
    have d2 := hcell (j := 2) hq0
    have d3 := hcell (j := 3) hq0
    have fz := fun k => hfz (j := k) hq0
    have hsl2 := hlt hq0
    have HQ := Lib.hid HN0
    clear HN0 hq0 HOk HXx HU HWa HF HCp HH HX
    go_enter Tryz.func83, Tryz.ntmps83
    go_wp2
    refine bodyPost_ret (v := .tuple #[.agg #[.int .i64 0, .int .i64 0, .slice none 0 0, .int .i64 0], .bool false, .int .i64 2]) (by simp [results, Tryz.results83, go_sem, *]) rfl ⟨_, rfl, by first | exact HQ.out | exact fill_nw HQ.out (Nat.le_succ _) _ _ _ _, Rd.nil _, Nat.le_refl _, newV_nil _⟩
  have hid2 : decide (id < 0) = false := by simpa using hid
  obtain ⟨y, hy⟩ : ∃ y, ((m != 0) && knI m) = y := ⟨_, rfl⟩
  rw [hy] at HAs
  cases y
  · have hR := HXx.out.symm.trans (ask_bad (h := ⟨t, r, W, q⟩) (.inr (by cases e : knI m with | false => exact .inr rfl | true => rw [e, Bool.and_true] at hy; exact .inl (by simpa using hy))))
    subst hR
    go_enter Tryz.func83, Tryz.ntmps83
    go_wp2_with fail
    refine (HAs.out _).mono ?_
    rintro e w1 ⟨rfl, g1⟩
    have hq1 := g1.at' HX.out.2.1
    have HQ := Lib.hid (HX.out.2.2.1.trans g1)
    have d0 := hcell (j := 0) hq1
    have d1 := hcell (j := 1) hq1
    have d2 := hcell (j := 2) hq1
    have d3 := hcell (j := 3) hq1
    have fz := fun k => hfz (j := k) hq1
    have hsl2 := hlt hq1
    clear g1 hq1 hy HAs HOk HXx HU HWa HF HCp HH HX
    go_wp2
    refine bodyPost_ret (v := .tuple #[.agg #[.int .i64 0, .int .i64 0, .slice none 0 0, .int .i64 0], .bool false, .int .i64 2]) (by simp [results, Tryz.results83, go_sem, *]) rfl ⟨_, rfl, fill_nw HQ.out (Nat.le_succ _) _ _ _ _, Rd.nil _, Nat.le_refl _, newV_nil _⟩
  have hgood : ¬ (id < 0 ∨ m = 0 ∨ knI m = false) := by
    rw [Bool.and_eq_true] at hy
    rintro (e | e | e)
    · exact hid e
    · rw [e] at hy; exact absurd hy.1 (by simp)
    · rw [hy.2] at e; cases e
  have HTw := Lib.hid (fun a => ask_two (h := ⟨t, r, W, q⟩) (txn := x) hgood a)
  have HYes := Lib.hid (fun a f => ask_yes (h := ⟨t, r, W, q⟩) (txn := x) hgood a f)
  have HNo := Lib.hid (fun a f => ask_no (h := ⟨t, r, W, q⟩) (txn := x) hgood a f)
  have HFr := Lib.hid (free_iff HOk.out m)
  have HWB := Lib.hid (And.intro HOk.out.w0 HOk.out.wB)
  clear hgood hy
  go_enter Tryz.func83, Tryz.ntmps83
  go_wp2_with fail
  refine (HAs.out _).mono ?_
  rintro e w1 ⟨rfl, g1⟩
  have hp1 := g1.at' HX.out.1
  have hq1 := g1.at' HX.out.2.1
  have HN1 := Lib.hid (HX.out.2.2.1.trans g1)
  have HP1 := Lib.hid (And.intro hp1 hq1)
  have c0 := hcell (j := 0) hp1
  have c1 := hcell (j := 1) hp1
  have c2 := hcell (j := 2) hp1
  have c3 := hcell (j := 3) hp1
  have hsl := hlt hp1
  have hsl2 := hlt hq1
  clear hp1 hq1 g1 HAs HX HOk
  go_wp2
  go_loopw [11] (fun i wr => ∃ k : Nat, k ≤ q.length ∧ i = .int .i64 k ∧ (∀ n (hn : n < q.length), n < k → (q[n].id == id || q[n].txn == x) = false) ∧ Nw w1 wr) (fun i _ => q.length - (intOf i).toNat)
  case atStart => exact ⟨0, Nat.zero_le _, rfl, fun n _ h => absurd h (Nat.not_lt_zero _), Nw.refl _⟩
  case round =>
    clear c0 c1 c2 c3 hsl hsl2
    obtain ⟨k, hk, rfl, hf, hG⟩ := hrel
    have hp2 := hG.at' HP1.out.1
    have hq2 := hG.at' HP1.out.2
    have HN2 := Lib.hid (HN1.out.trans hG)
    have c0 := hcell (j := 0) hp2
    have c1 := hcell (j := 1) hp2
    have c2 := hcell (j := 2) hp2
    have c3 := hcell (j := 3) hp2
    have hsl := hlt hp2
    have hsl2 := hlt hq2
    by_cases hlk : k < q.length
    · rcases HH.out with ⟨e, _⟩ | ⟨b, o, rfl, hc⟩
      · subst e; simp at hlk
      have hce := (hc.nw HN2.out).cell k hlk
      have hAny := Lib.hid (fun e => HTw.out (any_take (p := fun r => r.id == id || r.txn == x) hlk e))
      have hSm := Lib.hid (show (q[k].id == id || q[k].txn == x) = false → ∀ n (hn : n < q.length), n < k + 1 → (q[n].id == id || q[n].txn == x) = false from fun e n hn hnk => by
        rcases Nat.lt_or_ge n k with g | g
        · exact hf n hn g
        · obtain rfl : n = k := by omega
          exact e)
      generalize q[k] = A at *
      obtain ⟨f0, f1, f2, f3, f4⟩ := A
      have e0 := hce 0 _ rfl
      have e1 := hce 1 _ rfl
      have e2 := hce 2 _ rfl
      have e3 := hce 3 _ rfl
      have e4 := hce 4 _ rfl
      simp only [Nat.add_zero] at e0
      have HG := Lib.hid hG
      clear hce hf hG HU HWa HF HCp HYes HNo HFr hc HH
      by_cases h1 : f0 = id
      · have d : (f0 == id) = true := by simpa using h1
        have hR := HXx.out.symm.trans (hAny.out (by simp [h1]))
        subst hR
        have d0 := hcell (j := 0) hq2
        have d1 := hcell (j := 1) hq2
        have d2 := hcell (j := 2) hq2
        have d3 := hcell (j := 3) hq2
        have fz := fun k => hfz (j := k) hq2
        clear h1 hAny hSm HTw HXx
        go_wp2
        refine bodyPost_ret (v := .tuple #[.agg #[.int .i64 0, .int .i64 0, .slice none 0 0, .int .i64 0], .bool false, .int .i64 4]) (by simp [results, Tryz.results83, go_sem, *]) rfl ⟨_, rfl, fill_nw HN2.out (Nat.le_succ _) _ _ _ _, Rd.nil _, Nat.le_refl _, newV_nil _⟩
      have d : (f0 == id) = false := by simpa using h1
      by_cases h2 : f1 = x
      · have d2 : (f1 == x) = true := by simpa using h2
        have hR := HXx.out.symm.trans (hAny.out (by simp [h2]))
        subst hR
        have d0 := hcell (j := 0) hq2
        have d1 := hcell (j := 1) hq2
        have d2 := hcell (j := 2) hq2
        have d3 := hcell (j := 3) hq2
        have fz := fun k => hfz (j := k) hq2
        clear h1 h2 hAny hSm HTw HXx
        go_wp2
        refine bodyPost_ret (v := .tuple #[.agg #[.int .i64 0, .int .i64 0, .slice none 0 0, .int .i64 0], .bool false, .int .i64 4]) (by simp [results, Tryz.results83, go_sem, *]) rfl ⟨_, rfl, fill_nw HN2.out (Nat.le_succ _) _ _ _ _, Rd.nil _, Nat.le_refl _, newV_nil _⟩
      have d2 : (f1 == x) = false := by simpa using h2
      have HS2 := Lib.hid (hSm.out (by simp [h1, h2]))
      clear h1 h2 hAny hSm HTw HXx
      go_wp2
      go_roundw
      case rel => exact ⟨k + 1, by omega, by go_num, HS2.out, HG.out⟩
      case measure => simp [intOf]; omega
    · obtain rfl : k = q.length := by omega
      have hany : (q.any fun r => r.id == id || r.txn == x) = false := any_none (fun n hn => hf n hn hn)
      have HYs := Lib.hid (fun f => HXx.out.symm.trans (HYes.out hany f))
      have HNs := Lib.hid (fun f => HXx.out.symm.trans (HNo.out hany f))
      have HQ1 := Lib.hid (And.intro hp2 hq2)
      clear hf hany HTw HYes HNo HXx hp2 hq2 hG HH
      go_wp2_with fail
      refine (HCp.out _ HN2.out).mono ?_
      rintro e w4 ⟨v1, rfl, g4, hO⟩
      obtain ⟨a1, k1, hv1⟩ := (RqOwn.rd hO).form
      subst hv1
      have hq4 := g4.at' HQ1.out.2
      have hp4 := g4.at' HQ1.out.1
      have hal := allocAt w4 (.cells #[.int .i64 t, .int .i64 r, .slice a1 q.length k1, .int .i64 W] 56)
      have hNa : Nw w4 (w4.alloc (.cells #[.int .i64 t, .int .i64 r, .slice a1 q.length k1, .int .i64 W] 56)) := (Nw.refl w4).alloc _
      have HNy := Lib.hid (HN2.out.trans (g4.trans hNa))
      have hOy := onw hO hNa
      have hqy := hNa.at' hq4
      have hpy := hNa.at' hp4
      have hs4 := g4.sz
      have hs1 : w.heap.size + 1 < wr.heap.size := hsl2
      obtain ⟨pb, hpb⟩ : ∃ pb, w4.heap.size = pb := ⟨_, rfl⟩
      rw [hpb] at hal
      have hne : ∀ g, (Value.slice a1 q.length k1).ownBlock = some g → g ≠ pb := fun g hg e => by have := olt hO hg; omega
      have hge : ∀ g, (Value.slice a1 q.length k1).ownBlock = some g → wr.heap.size ≤ g := fun g hg => oge hO hg
      have hrp : ¬ (w.heap.size + 1 = pb) := by omega
      have hrp2 : ¬ (pb = w.heap.size + 1) := by omega
      have HA := Lib.hid (And.intro hal (And.intro hqy (And.intro hOy (And.intro hne (And.intro hge (And.intro (show w.heap.size ≤ pb ∧ w.heap.size ≤ wr.heap.size ∧ w.heap.size + 1 < wr.heap.size ∧ wr.heap.size ≤ pb from ⟨by omega, by omega, hs1, by omega⟩) hpy))))))
      clear c0 c1 c2 c3 hsl hsl2 hO g4 hq4 hs4 HQ1 hal hqy hOy hne hge hs1
      have c0 := hcell (j := 0) hp4
      have c1 := hcell (j := 1) hp4
      have c2 := hcell (j := 2) hp4
      have c3 := hcell (j := 3) hp4
      have hsl := hlt hp4
      clear hp4
      have HPb := Lib.hid hpb
      clear hpb
      go_wp2_with fail
      rw [HPb.out]
      clear HPb
      generalize w4.alloc (.cells #[.int .i64 t, .int .i64 r, .slice a1 q.length k1, .int .i64 W] 56) = y at *
      clear hNa hpy c0 c1 c2 c3 hsl
      have hpy := HA.out.2.2.2.2.2.2
      have c0 := hcell (j := 0) hpy
      have c1 := hcell (j := 1) hpy
      have c2 := hcell (j := 2) hpy
      have c3 := hcell (j := 3) hpy
      have hsl := hlt hpy
      clear hpy
      refine (HU.out _ HNy.out).mono ?_
      rintro e w5 ⟨ju, rfl, g5, hju⟩
      rcases hju with ⟨rfl, hju⟩ | ⟨mu, rfl, _, hmu, hum, _⟩
      rotate_left
      · have hR := HNs.out (fun e => ((HFr.out.1 e).1 _ (List.getElem_mem hmu)) hum)
        subst hR
        have du : decide ((mu : Int) < 0) = false := by simp
        have hal := g5.at' HA.out.1
        have hqz := g5.at' HA.out.2.1
        have hOz := onw HA.out.2.2.1 g5
        have hNz := HNy.out.trans g5
        have hpl := hlt hal
        have hw0 := HWB.out.1
        have hw1 := HWB.out.2
        have hwr : IntKind.i64.wrap (W + 1) = W + 1 := by rw [IntKind.wrap_i64] <;> omega
        have hal2 : (w5.setCell ⟨pb, 3, none⟩ (.int .i64 (W + 1))).heap[pb]? = some (.cells #[.int .i64 t, .int .i64 r, .slice a1 q.length k1, .int .i64 (W + 1)] 56 (0, 0)) := hset (j := 3) (.int .i64 (W + 1)) hal
        have hqz2 : (w5.setCell ⟨pb, 3, none⟩ (.int .i64 (W + 1))).heap[w.heap.size + 1]? = _ := (Below.heap_setCell _ _ _ _ (fun e => hrp e)).trans hqz
        have hOz2 := okeep hOz (sgrown w5 ⟨pb, 3, none⟩ (.int .i64 (W + 1))) (fun x hx e => HA.out.2.2.2.1 x hx (Option.some.inj e).symm)
        have hNz2 : Nw w (w5.setCell ⟨pb, 3, none⟩ (.int .i64 (W + 1))) := hNz.st HA.out.2.2.2.2.2.1.1 _
        have hsz2 : (w5.setCell ⟨pb, 3, none⟩ (.int .i64 (W + 1))).heap.size = w5.heap.size := by simp [World.setCell]
        obtain ⟨a2, n2, k2, w8, hrun, hR8, hN8, hK8, hb8⟩ := push_one hNz2 HA.out.2.2.2.2.2.1.2.1 hOz2 hl id x 0 m (W + 1) (by rw [hsz2]; exact hpl) (by rw [hsz2]; have := HA.out.2.2.2.2.2.1.2.2.2; omega) HA.out.2.2.2.1
        rw [hsz2] at hrun
        have hal8 := (hK8 pb (by rw [hsz2]; exact hpl) (fun x hx e => HA.out.2.2.2.1 x hx e.symm)).trans hal2
        have hq8 := (hK8 _ (by rw [hsz2]; exact hlt hqz) (fun x hx e => by have := HA.out.2.2.2.2.1 x hx; have := HA.out.2.2.2.2.2.1.2.2.1; omega)).trans hqz2
        have p0 := hcell (j := 0) hal
        have p1 := hcell (j := 1) hal
        have p2 := hcell (j := 2) hal
        have p3 := hcell (j := 3) hal
        have pz := fun j => hfz (j := j) hal
        have x0 := hcell (j := 0) hal8
        have x1 := hcell (j := 1) hal8
        have x2 := hcell (j := 2) hal8
        have x3 := hcell (j := 3) hal8
        have xz := fun j => hfz (j := j) hal8
        have d0 := hcell (j := 0) hq8
        have d1 := hcell (j := 1) hq8
        have d2 := hcell (j := 2) hq8
        have d3 := hcell (j := 3) hq8
        have fz := fun k => hfz (j := k) hq8
        have HR := Lib.hid hrun
        have HO8 := Lib.hid (And.intro hR8 (And.intro hN8 hb8))
        clear hrun hR8 hN8 hK8 hb8 hal8 hq8 hal2 hqz2 hOz2 hNz2 hsz2 hal hqz hOz hNz hw0 hw1 c0 c1 c2 c3 hsl HU HWa HF HNs HYs HFr
        go_wp2_with (at_builtin; refine wpl_app (by rfl) (.tmp 78) (.tmp 85) 54 rfl _ _ _ _ rfl rfl HR.out ?_)
        refine bodyPost_ret (v := .tuple #[.agg #[.int .i64 t, .int .i64 r, .slice a2 n2 k2, .int .i64 (W + 1)], .bool false, .int .i64 0]) (by simp [results, Tryz.results83, go_sem, *]) rfl ⟨_, rfl, fill_nw (HO8.out.2.1.st HA.out.2.2.2.2.2.1.1 _) (Nat.le_succ _) _ _ _ _, ?_, ?_⟩
        · have hO5 := okeep HO8.out.1 (sgrown w8 ⟨pb, 2, none⟩ (.slice a2 n2 k2)) (fun x hx e => HO8.out.2.2 x hx (Option.some.inj e).symm)
          exact RqOwn.rd (fill_own hO5 HA.out.2.2.2.2.2.1.2.2.1 _ _ _ _)
        · exact ⟨HO8.out.1.cap, RqOwn.newV HO8.out.1 (by have := HA.out.2.2.2.2.2.1.2.2.1; omega)⟩
      have hpy := g5.at' HA.out.2.2.2.2.2.2
      clear c0 c1 c2 c3 hsl
      have c0 := hcell (j := 0) hpy
      have c1 := hcell (j := 1) hpy
      have c2 := hcell (j := 2) hpy
      have c3 := hcell (j := 3) hpy
      have hsl := hlt hpy
      clear hpy
      go_wp2_with fail
      refine (HWa.out _ (HNy.out.trans g5)).mono ?_
      rintro e w6 ⟨jw, rfl, g6, hjw⟩
      rcases hjw with ⟨rfl, hjw⟩ | ⟨mw, rfl, hmw, hwm, _⟩
      rotate_left
      · have hR := HNs.out (fun e => ((HFr.out.1 e).2.1 _ (List.getElem_mem hmw)) hwm)
        subst hR
        have dw : decide ((mw : Int) < 0) = false := by simp
        have g56 := g5.trans g6
        have hal := g56.at' HA.out.1
        have hqz := g56.at' HA.out.2.1
        have hOz := onw HA.out.2.2.1 g56
        have hNz := HNy.out.trans g56
        have hpl := hlt hal
        have hw0 := HWB.out.1
        have hw1 := HWB.out.2
        have hwr : IntKind.i64.wrap (W + 1) = W + 1 := by rw [IntKind.wrap_i64] <;> omega
        have hal2 : (w6.setCell ⟨pb, 3, none⟩ (.int .i64 (W + 1))).heap[pb]? = some (.cells #[.int .i64 t, .int .i64 r, .slice a1 q.length k1, .int .i64 (W + 1)] 56 (0, 0)) := hset (j := 3) (.int .i64 (W + 1)) hal
        have hqz2 : (w6.setCell ⟨pb, 3, none⟩ (.int .i64 (W + 1))).heap[w.heap.size + 1]? = _ := (Below.heap_setCell _ _ _ _ (fun e => hrp e)).trans hqz
        have hOz2 := okeep hOz (sgrown w6 ⟨pb, 3, none⟩ (.int .i64 (W + 1))) (fun x hx e => HA.out.2.2.2.1 x hx (Option.some.inj e).symm)
        have hNz2 : Nw w (w6.setCell ⟨pb, 3, none⟩ (.int .i64 (W + 1))) := hNz.st HA.out.2.2.2.2.2.1.1 _
        have hsz2 : (w6.setCell ⟨pb, 3, none⟩ (.int .i64 (W + 1))).heap.size = w6.heap.size := by simp [World.setCell]
        obtain ⟨a2, n2, k2, w8, hrun, hR8, hN8, hK8, hb8⟩ := push_one hNz2 HA.out.2.2.2.2.2.1.2.1 hOz2 hl id x 0 m (W + 1) (by rw [hsz2]; exact hpl) (by rw [hsz2]; have := HA.out.2.2.2.2.2.1.2.2.2; omega) HA.out.2.2.2.1
        rw [hsz2] at hrun
        have hal8 := (hK8 pb (by rw [hsz2]; exact hpl) (fun x hx e => HA.out.2.2.2.1 x hx e.symm)).trans hal2
        have hq8 := (hK8 _ (by rw [hsz2]; exact hlt hqz) (fun x hx e => by have := HA.out.2.2.2.2.1 x hx; have := HA.out.2.2.2.2.2.1.2.2.1; omega)).trans hqz2
        have p0 := hcell (j := 0) hal
        have p1 := hcell (j := 1) hal
        have p2 := hcell (j := 2) hal
        have p3 := hcell (j := 3) hal
        have pz := fun j => hfz (j := j) hal
        have x0 := hcell (j := 0) hal8
        have x1 := hcell (j := 1) hal8
        have x2 := hcell (j := 2) hal8
        have x3 := hcell (j := 3) hal8
        have xz := fun j => hfz (j := j) hal8
        have d0 := hcell (j := 0) hq8
        have d1 := hcell (j := 1) hq8
        have d2 := hcell (j := 2) hq8
        have d3 := hcell (j := 3) hq8
        have fz := fun k => hfz (j := k) hq8
        have HR := Lib.hid hrun
        have HO8 := Lib.hid (And.intro hR8 (And.intro hN8 hb8))
        clear hrun hR8 hN8 hK8 hb8 hal8 hq8 hal2 hqz2 hOz2 hNz2 hsz2 hal hqz hOz hNz hw0 hw1 c0 c1 c2 c3 hsl HU HWa HF HNs HYs HFr
        go_wp2_with (at_builtin; refine wpl_app (by rfl) (.tmp 78) (.tmp 85) 54 rfl _ _ _ _ rfl rfl HR.out ?_)
        refine bodyPost_ret (v := .tuple #[.agg #[.int .i64 t, .int .i64 r, .slice a2 n2 k2, .int .i64 (W + 1)], .bool false, .int .i64 0]) (by simp [results, Tryz.results83, go_sem, *]) rfl ⟨_, rfl, fill_nw (HO8.out.2.1.st HA.out.2.2.2.2.2.1.1 _) (Nat.le_succ _) _ _ _ _, ?_, ?_⟩
        · have hO5 := okeep HO8.out.1 (sgrown w8 ⟨pb, 2, none⟩ (.slice a2 n2 k2)) (fun x hx e => HO8.out.2.2 x hx (Option.some.inj e).symm)
          exact RqOwn.rd (fill_own hO5 HA.out.2.2.2.2.2.1.2.2.1 _ _ _ _)
        · exact ⟨HO8.out.1.cap, RqOwn.newV HO8.out.1 (by have := HA.out.2.2.2.2.2.1.2.2.1; omega)⟩
      have g56 := g5.trans g6
      have hpy := g56.at' HA.out.2.2.2.2.2.2
      clear c0 c1 c2 c3 hsl
      have c0 := hcell (j := 0) hpy
      have c1 := hcell (j := 1) hpy
      have c2 := hcell (j := 2) hpy
      have c3 := hcell (j := 3) hpy
      have hsl := hlt hpy
      clear hpy
      go_wp2_with fail
      refine (HF.out _ (HNy.out.trans g56)).mono ?_
      rintro e w7 ⟨f, rfl, g7, hff⟩
      have g57 := g56.trans g7
      have hall := fun a ha u => hju a (by rw [List.take_length]; exact ha) u
      cases f
      · have hR := HNs.out (fun e => by have := hff.2 (HFr.out.1 e).2.2; cases this)
        subst hR
        clear hff hall hju hjw
        have hal := g57.at' HA.out.1
        have hqz := g57.at' HA.out.2.1
        have hOz := onw HA.out.2.2.1 g57
        have hNz := HNy.out.trans g57
        have hpl := hlt hal
        have hw0 := HWB.out.1
        have hw1 := HWB.out.2
        have hwr : IntKind.i64.wrap (W + 1) = W + 1 := by rw [IntKind.wrap_i64] <;> omega
        have hal2 : (w7.setCell ⟨pb, 3, none⟩ (.int .i64 (W + 1))).heap[pb]? = some (.cells #[.int .i64 t, .int .i64 r, .slice a1 q.length k1, .int .i64 (W + 1)] 56 (0, 0)) := hset (j := 3) (.int .i64 (W + 1)) hal
        have hqz2 : (w7.setCell ⟨pb, 3, none⟩ (.int .i64 (W + 1))).heap[w.heap.size + 1]? = _ := (Below.heap_setCell _ _ _ _ (fun e => hrp e)).trans hqz
        have hOz2 := okeep hOz (sgrown w7 ⟨pb, 3, none⟩ (.int .i64 (W + 1))) (fun x hx e => HA.out.2.2.2.1 x hx (Option.some.inj e).symm)
        have hNz2 : Nw w (w7.setCell ⟨pb, 3, none⟩ (.int .i64 (W + 1))) := hNz.st HA.out.2.2.2.2.2.1.1 _
        have hsz2 : (w7.setCell ⟨pb, 3, none⟩ (.int .i64 (W + 1))).heap.size = w7.heap.size := by simp [World.setCell]
        obtain ⟨a2, n2, k2, w8, hrun, hR8, hN8, hK8, hb8⟩ := push_one hNz2 HA.out.2.2.2.2.2.1.2.1 hOz2 hl id x 0 m (W + 1) (by rw [hsz2]; exact hpl) (by rw [hsz2]; have := HA.out.2.2.2.2.2.1.2.2.2; omega) HA.out.2.2.2.1
        rw [hsz2] at hrun
        have hal8 := (hK8 pb (by rw [hsz2]; exact hpl) (fun x hx e => HA.out.2.2.2.1 x hx e.symm)).trans hal2
        have hq8 := (hK8 _ (by rw [hsz2]; exact hlt hqz) (fun x hx e => by have := HA.out.2.2.2.2.1 x hx; have := HA.out.2.2.2.2.2.1.2.2.1; omega)).trans hqz2
        have p0 := hcell (j := 0) hal
        have p1 := hcell (j := 1) hal
        have p2 := hcell (j := 2) hal
        have p3 := hcell (j := 3) hal
        have pz := fun j => hfz (j := j) hal
        have x0 := hcell (j := 0) hal8
        have x1 := hcell (j := 1) hal8
        have x2 := hcell (j := 2) hal8
        have x3 := hcell (j := 3) hal8
        have xz := fun j => hfz (j := j) hal8
        have d0 := hcell (j := 0) hq8
        have d1 := hcell (j := 1) hq8
        have d2 := hcell (j := 2) hq8
        have d3 := hcell (j := 3) hq8
        have fz := fun k => hfz (j := k) hq8
        have HR := Lib.hid hrun
        have HO8 := Lib.hid (And.intro hR8 (And.intro hN8 hb8))
        clear hrun hR8 hN8 hK8 hb8 hal8 hq8 hal2 hqz2 hOz2 hNz2 hsz2 hal hqz hOz hNz hw0 hw1 c0 c1 c2 c3 hsl HU HWa HF HNs HYs HFr
        go_wp2_with (at_builtin; refine wpl_app (by rfl) (.tmp 78) (.tmp 85) 54 rfl _ _ _ _ rfl rfl HR.out ?_)
        refine bodyPost_ret (v := .tuple #[.agg #[.int .i64 t, .int .i64 r, .slice a2 n2 k2, .int .i64 (W + 1)], .bool false, .int .i64 0]) (by simp [results, Tryz.results83, go_sem, *]) rfl ⟨_, rfl, fill_nw (HO8.out.2.1.st HA.out.2.2.2.2.2.1.1 _) (Nat.le_succ _) _ _ _ _, ?_, ?_⟩
        · have hO5 := okeep HO8.out.1 (sgrown w8 ⟨pb, 2, none⟩ (.slice a2 n2 k2)) (fun x hx e => HO8.out.2.2 x hx (Option.some.inj e).symm)
          exact RqOwn.rd (fill_own hO5 HA.out.2.2.2.2.2.1.2.2.1 _ _ _ _)
        · exact ⟨HO8.out.1.cap, RqOwn.newV HO8.out.1 (by have := HA.out.2.2.2.2.2.1.2.2.1; omega)⟩
      · have hR := HYs.out (HFr.out.2 ⟨hall, hjw, hff.1 rfl⟩)
        subst hR
        clear hff hall hju hjw
        have hal := g57.at' HA.out.1
        have hqz := g57.at' HA.out.2.1
        have hOz := onw HA.out.2.2.1 g57
        have hNz := HNy.out.trans g57
        have hpl := hlt hal
        have hw0 := HWB.out.1
        have hw1 := HWB.out.2
        obtain ⟨a2, n2, k2, w8, hrun, hR8, hN8, hK8, hb8⟩ := push_one hNz HA.out.2.2.2.2.2.1.2.1 hOz hl id x m m 0 hpl (by have := HA.out.2.2.2.2.2.1.2.2.2; omega) HA.out.2.2.2.1
        have hal8 := (hK8 pb hpl (fun x hx e => HA.out.2.2.2.1 x hx e.symm)).trans hal
        have hq8 := (hK8 _ (hlt hqz) (fun x hx e => by have := HA.out.2.2.2.2.1 x hx; have := HA.out.2.2.2.2.2.1.2.2.1; omega)).trans hqz
        have p0 := hcell (j := 0) hal
        have p1 := hcell (j := 1) hal
        have p2 := hcell (j := 2) hal
        have p3 := hcell (j := 3) hal
        have pz := fun j => hfz (j := j) hal
        have x0 := hcell (j := 0) hal8
        have x1 := hcell (j := 1) hal8
        have x2 := hcell (j := 2) hal8
        have x3 := hcell (j := 3) hal8
        have xz := fun j => hfz (j := j) hal8
        have d0 := hcell (j := 0) hq8
        have d1 := hcell (j := 1) hq8
        have d2 := hcell (j := 2) hq8
        have d3 := hcell (j := 3) hq8
        have fz := fun k => hfz (j := k) hq8
        have HR := Lib.hid hrun
        have HO8 := Lib.hid (And.intro hR8 (And.intro hN8 hb8))
        clear hrun hR8 hN8 hK8 hb8 hal8 hq8 hal hqz hOz hNz hw0 hw1 c0 c1 c2 c3 hsl HU HWa HF HNs HYs HFr
        go_wp2_with (at_builtin; refine wpl_app (by rfl) (.tmp 63) (.tmp 69) 54 rfl _ _ _ _ rfl rfl HR.out ?_)
        refine bodyPost_ret (v := .tuple #[.agg #[.int .i64 t, .int .i64 r, .slice a2 n2 k2, .int .i64 W], .bool true, .int .i64 0]) (by simp [results, Tryz.results83, go_sem, *]) rfl ⟨_, rfl, fill_nw (HO8.out.2.1.st HA.out.2.2.2.2.2.1.1 _) (Nat.le_succ _) _ _ _ _, ?_, ?_⟩
        · have hO5 := okeep HO8.out.1 (sgrown w8 ⟨pb, 2, none⟩ (.slice a2 n2 k2)) (fun x hx e => HO8.out.2.2 x hx (Option.some.inj e).symm)
          exact RqOwn.rd (fill_own hO5 HA.out.2.2.2.2.2.1.2.2.1 _ _ _ _)
        · exact ⟨HO8.out.1.cap, RqOwn.newV HO8.out.1 (by have := HA.out.2.2.2.2.2.1.2.2.1; omega)⟩
end Go.Proofs.YtodnlelnpidliaaGreat
end

/- The checker's kit on heads: Own, OwnHead, LightHeads. -/
section
namespace Go.Proofs.YtodnlelnpidliaaGreat
open Go.RowKit
set_option linter.unusedVariables false      -- a contract need not use every name

end Go.Proofs.YtodnlelnpidliaaGreat
end
