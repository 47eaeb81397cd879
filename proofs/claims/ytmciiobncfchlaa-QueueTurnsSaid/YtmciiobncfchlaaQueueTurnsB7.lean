/- Texts merged: QvB, QvD, QvE, QuK, QvF, QvG, QvH, QuL -/
import Derived.Test.YtmciiobncfchlaaQueueTurnsB6
import Derived.Maps.OwnSet
import Derived.Maps.RangeWalk
import Derived.StillTailTactics
import Derived.Deep.RegionLaw

/- The developers' package queue: IndexFunc, ContainsFunc, find. -/
section
namespace Go.Proofs.Ytmciiobncfchlaa
open Go.RowKit
set_option linter.unusedVariables false      -- a contract need not use every name

/-- The place of the first request that is looked for; -1. -/
def plc (p : Rq → Bool) : List Rq → Int
  | [] => -1
  | a :: r => if p a = true then 0 else if plc p r = -1 then -1 else plc p r + 1
theorem plc_form (p : Rq → Bool) : ∀ q : List Rq, (plc p q = -1 ∧ ∀ a ∈ q, p a = false) ∨ ∃ k : Nat, plc p q = k ∧ ∃ h : k < q.length, p q[k] = true ∧ ∀ i (hi : i < q.length), i < k → p q[i] = false
  | [] => .inl ⟨rfl, by simp⟩
  | a :: r => by
    unfold plc
    cases e : p a with
    | true => exact .inr ⟨0, rfl, by simp, e, fun i _ h => by omega⟩
    | false =>
      rcases plc_form p r with ⟨h1, h2⟩ | ⟨k, h1, h2, h3, h4⟩
      · rw [h1]
        refine .inl ⟨rfl, fun x hx => ?_⟩
        rcases List.mem_cons.1 hx with rfl | hx
        · exact e
        · exact h2 x hx
      · rw [h1]
        refine .inr ⟨k + 1, ?_, by simpa using h2, h3, fun i hi hik => ?_⟩
        · simp only [Bool.false_eq_true, if_false]
          rw [if_neg (by omega)]; rfl
        · cases i with
          | zero => exact e
          | succ i => exact h4 i (by simpa using hi) (by omega)
theorem plc_hit {p : Rq → Bool} {q : List Rq} {k : Nat} (hk : k < q.length) (h : p q[k] = true) (hb : ∀ i (hi : i < q.length), i < k → p q[i] = false) : plc p q = k := by
  rcases plc_form p q with ⟨_, h2⟩ | ⟨j, h1, h2, h3, h4⟩
  · rw [h2 _ (List.getElem_mem hk)] at h; cases h
  · rw [h1]
    rcases Nat.lt_trichotomy j k with g | g | g
    · rw [hb j h2 g] at h3; cases h3
    · rw [g]
    · rw [h4 k hk g] at h; cases h
theorem plc_none {p : Rq → Bool} {q : List Rq} (h : ∀ i (hi : i < q.length), p q[i] = false) : plc p q = -1 := by
  rcases plc_form p q with ⟨h1, _⟩ | ⟨j, h1, h2, h3, _⟩
  · exact h1
  · rw [h j h2] at h3; cases h3
theorem plc_any (p : Rq → Bool) (q : List Rq) : decide (0 ≤ plc p q) = q.any p := by
  rcases plc_form p q with ⟨h1, h2⟩ | ⟨k, h1, h2, h3, _⟩
  · rw [h1]
    symm
    rw [show decide ((0 : Int) ≤ -1) = false from rfl, List.any_eq_false]
    intro x hx; rw [h2 x hx]; simp
  · rw [h1]
    symm
    rw [show decide ((0 : Int) ≤ (k : Int)) = true by simp, List.any_eq_true]
    exact ⟨q[k], List.getElem_mem h2, h3⟩
set_option maxRecDepth 100000 in
set_option maxHeartbeats 2000000 in
theorem dIndex (v f : Value) (p : Rq → Bool) (q : List Rq) (w : World) (hl : q.length ≤ 1000) (h : RqAt w v q) (hf : Tells w f p) :
    Calls Try.prog 70 #[v, f] w fun e w' => e = .returned (.int .i64 (plc p q)) ∧ Nw w w' := by
  obtain ⟨g, lb, rfl, eg, hT⟩ := hf
  have HT := Lib.hid hT
  clear hT
  obtain ⟨a, c, rfl, ⟨rfl, _⟩ | ⟨b, o, rfl, hc⟩⟩ := h
  · go_enter Try.func70, Try.ntmps70
    go_wp2
    refine wp_loop_rounds 1 ?_
    repeat (rw [rounds_succ]; go_wp2)
    go_ret
    exact ⟨rfl, Nw.refl _⟩
  · have H := Lib.hid hc
    clear hc
    obtain ⟨V, hV⟩ : ∃ V, plc p q = V := ⟨_, rfl⟩
    rw [hV]
    have HV := Lib.hid hV
    clear hV
    go_enter Try.func70, Try.ntmps70
    go_wp2
    go_loopw [8] (fun i wr => ∃ k : Nat, k ≤ q.length ∧ i = .int .i64 k ∧ (∀ i (hi : i < q.length), i < k → p q[i] = false) ∧ Nw w wr) (fun i _ => q.length - (intOf i).toNat)
    case atStart => exact ⟨0, Nat.zero_le _, rfl, fun _ _ h => by omega, Nw.refl _⟩
    case round =>
      obtain ⟨k, hk, rfl, hF, hN⟩ := hrel
      by_cases hlt : k < q.length
      · have hce := (H.out.nw hN).cell k hlt
        obtain ⟨R, hR⟩ : ∃ R, q[k] = R := ⟨_, rfl⟩
        rw [hR] at hce
        have HC := Lib.hid (HT.out R)
        have HS := Lib.hid hR
        have HF := Lib.hid hF
        have HN := Lib.hid hN
        clear hR hF hN
        obtain ⟨B, hB⟩ : ∃ B, p R = B := ⟨_, rfl⟩
        rw [hB] at HC
        have HB := Lib.hid hB
        clear hB
        obtain ⟨b0, b1, b2, b3, b4⟩ := R
        have e0 := hce 0 _ rfl
        have e1 := hce 1 _ rfl
        have e2 := hce 2 _ rfl
        have e3 := hce 3 _ rfl
        have e4 := hce 4 _ rfl
        simp only [Nat.add_zero] at e0
        clear hce
        cases B
        case true =>
          go_wp2_with (go_at_fn g; refine (HC.out _ HN.out).mono ?_; rintro e w1 ⟨rfl, g1⟩)
          go_ret
          exact ⟨by rw [← HV.out, plc_hit hlt (by rw [HS.out]; exact HB.out) HF.out]; rfl, HN.out.trans g1⟩
        case false =>
          go_wp2_with (go_at_fn g; refine (HC.out _ HN.out).mono ?_; rintro e w1 ⟨rfl, g1⟩)
          go_roundw
          case rel =>
            refine ⟨k + 1, by omega, by go_num, fun i hi hik => ?_, HN.out.trans g1⟩
            by_cases q : i < k
            · exact HF.out i hi q
            · have : i = k := by omega
              subst this
              rw [HS.out]; exact HB.out
          case measure => simp [intOf]; omega
      · have HF := Lib.hid hF
        have HN := Lib.hid hN
        clear hF hN
        go_wp2
        go_ret
        exact ⟨by rw [← HV.out, plc_none fun i hi => HF.out i hi (by omega)]; rfl, HN.out⟩
theorem dContains (v f : Value) (p : Rq → Bool) (q : List Rq) (w : World) (hl : q.length ≤ 1000) (h : RqAt w v q) (hf : Tells w f p) :
    Calls Try.prog 74 #[v, f] w fun e w' => e = .returned (.bool (q.any p)) ∧ Nw w w' := by
  have HI := Lib.hid (dIndex v f p q w hl h hf)
  obtain ⟨a, c, rfl⟩ := h.form
  obtain ⟨g, lb, rfl, _⟩ := hf
  rw [← plc_any]
  clear h
  go_enter Try.func74, Try.ntmps74
  go_wp2_with (go_at_call 70; refine HI.out.mono ?_; rintro e w1 ⟨rfl, g1⟩)
  go_ret
  exact ⟨rfl, g1⟩
theorem dFind (t r W : Int) (v f : Value) (p : Rq → Bool) (q : List Rq) (w : World) (hl : q.length ≤ 1000) (h : RqAt w v q) (hf : Tells w f p) :
    Calls Try.prog 36 #[hdV t r v W, f] w fun e w' => e = .returned (.int .i64 (plc p q)) ∧ Nw w w' := by
  have HI := Lib.hid (fun (w1 : World) (g : Nw w w1) => dIndex v f p q w1 hl (h.nw g) (hf.nw g))
  obtain ⟨a, c, rfl⟩ := h.form
  obtain ⟨g, lb, rfl, _⟩ := hf
  unfold hdV
  clear h
  have hN : Nw w (w.alloc (.cells #[.int .i64 t, .int .i64 r, .slice a q.length c, .int .i64 W] 27)) := (Nw.refl w).alloc _
  go_enter Try.func36, Try.ntmps36
  go_wp2_with (go_at_call 70; refine (HI.out _ hN).mono ?_; rintro e w1 ⟨rfl, g1⟩)
  go_ret
  exact ⟨rfl, hN.trans g1⟩
end Go.Proofs.Ytmciiobncfchlaa
end

/- The developers' package queue: how many hold each mode: a map of counts; fits. -/
section
namespace Go.Proofs.Ytmciiobncfchlaa
open Go.RowKit Go.Maps Go.ChangeMaps
set_option linter.unusedVariables false      -- a contract need not use every name

theorem lawM : Keyed Try.prog 32 := int_keyed Try.underlying32
theorem wfM {k : Int} (h0 : -9223372036854775808 ≤ k) (h1 : k ≤ 9223372036854775807) : (Lit.int .i64 k).wf = true := WalkArith.wf_i64 (by omega)
theorem keyM {k : Int} (h : knI k = true) : keyOf Try.prog 32 (.int .i64 k) = some (.int .i64 k) := by
  have := (knI_iff k).1 h
  exact keyOf_int_mk Try.underlying32 (wfM (by omega) (by omega))
theorem isKeyM {k : Int} (h : knI k = true) : WideAt.IsKeyLit (.int .i64 k) := lawM.key (keyM h)
theorem zeroI (w : World) : (zeroValue 3).run Try.prog w = .ok (.int .i64 0) w := by kernel_rfl
/-- The map in block b holds these counts. -/
def HeldC (w : World) (b n : Nat) (c : Int → Int) : Prop :=
  ∃ D : DataW Unit, w.ownsMap Try.prog 32 (plainElem Try.prog 3) b n D ∧ (∀ k, D.atKey (.int .i64 k) (.lit (.int .i64 0)) = .lit (.int .i64 (c k))) ∧ ∀ k, Maps.has D (.int .i64 k) = true → knI k = true
def setC (c : Int → Int) (k x : Int) : Int → Int := fun y => if y = k then x else c y
section
variable {w w' : World} {b n : Nat} {c : Int → Int}
theorem HeldC.kept {row : Option Nat} (h : HeldC w b n c) (hg : w.grownBy w' row) (hne : some b ≠ row) : HeldC w' b n c := by
  obtain ⟨D, h1, h2, h3⟩ := h
  exact ⟨D, h1.kept hg hne, h2, h3⟩
theorem HeldC.nw (h : HeldC w b n c) (g : Nw w w') : HeldC w' b n c := h.kept (g.grownBy none) (by simp)
theorem HeldC.lt (h : HeldC w b n c) : b < w.heap.size := by obtain ⟨D, h1, _⟩ := h; exact h1.lt
theorem HeldC.obj (h : HeldC w b n c) : ∃ es k, w.heap[b]? = some (.map es k) := by obtain ⟨D, ⟨es, k, h, _⟩, _⟩ := h; exact ⟨es, k, h⟩
theorem HeldC.made (w : World) : HeldC (w.alloc (.map #[] 0)) w.heap.size 0 (fun _ => 0) :=
  ⟨_, World.ownsMap_made _ _ _ _, fun k => atKey_of_not_has rfl _, fun k h => by cases h⟩
set_option maxRecDepth 100000 in
theorem HeldC.look (h : HeldC w b n c) {k : Int} (hk : knI k = true) : (Instr.lookup 72 (.map (some b)) (.int .i64 k) false).run Try.prog w = .ok (.int .i64 (c k)) w := by
  obtain ⟨D, o, h2, h3⟩ := h
  obtain ⟨x, hrun, hat, _⟩ := o.lookup_int (t := 72) lawM Try.underlying72 Try.underlying3 (zeroI w) (keyM hk)
  rw [h2 k] at hat
  injection hat with hat
  injection hat with _ hat
  rw [hat]; exact hrun
theorem litM_ne {a b : Int} (h : a ≠ b) : (Lit.int .i64 a) ≠ .int .i64 b := fun e => h (by injection e)
set_option maxRecDepth 100000 in
theorem HeldC.put (h : HeldC w b n c) (hn : n < 1000000) {k x : Int} (hk : knI k = true) (h0 : -100 ≤ x) (h1 : x ≤ 1000000) :
    ∃ w', (Instr.mapUpdate 72 (.map (some b)) (.int .i64 k) (.int .i64 x)).run Try.prog w = .ok () w' ∧ HeldC w' b (n + 1) (setC c k x) ∧ w.grownBy w' (some b) := by
  obtain ⟨D, o, h2, h3⟩ := h
  have hw : (Lit.int .i64 x).wf = true := wfM (by omega) (by omega)
  obtain ⟨w', hr, o', hg⟩ := o.update (t := 72) lawM Try.underlying72 (by unfold maxLen; omega) (keyM hk) (plainElem_int Try.underlying3 hw)
  refine ⟨w', hr, ⟨_, o', fun y => ?_, fun y hy => ?_⟩, hg⟩
  · unfold setC
    by_cases q : y = k
    · subst q
      rw [if_pos rfl, atKey_put_same o.isMap (isKeyM hk)]
    · rw [if_neg q, atKey_put_other (litM_ne q), h2 y]
  · by_cases q : y = k
    · rw [q]; exact hk
    · rw [has_put_other (litM_ne q)] at hy
      exact h3 y hy
end
theorem dCp (a b : Int) (w : World) (ha : knI a = true) (hb : knI b = true) : Calls Try.prog 51 #[.int .i64 a, .int .i64 b] w fun e w' => e = .returned (.bool (cpI a b)) ∧ Nw w w' := by
  have h1 := (knI_iff a).1 ha
  have h2 := (knI_iff b).1 hb
  rw [cp_kn a b ha hb]
  exact cmp_in a b w h1.1 h1.2 h2.1 h2.2

set_option maxHeartbeats 400000 in
theorem dCpA (a b : Int) (w : World) (ha : knI a = true) : Calls Try.prog 51 #[.int .i64 a, .int .i64 b] w fun e w' => e = .returned (.bool (cpI a b)) ∧ Nw w w' := by
  by_cases hb : knI b = true
  · exact dCp a b w ha hb
  · have h1 := (knI_iff a).1 ha
    have h2 : b < 0 ∨ 7 ≤ b := by
      have : ¬ (0 ≤ b ∧ b < 7) := fun e => hb ((knI_iff b).2 e)
      omega
    have hc : cpI a b = false := by
      unfold cpI
      cases e : knI b with
      | true => exact absurd e hb
      | false => simp
    rw [hc]
    clear hc hb
    go_enter Try.func51, Try.ntmps51
    go_wp2_with fail
    go_at_call 69
    refine (known_yes a _ h1.1 h1.2).mono ?_
    rintro e w' ⟨rfl, rfl⟩
    go_wp2_with (go_at_call 69; refine (known_no b _ h2).mono ?_; rintro e w' ⟨rfl, rfl⟩)
    go_ret
    exact ⟨rfl, Nw.refl _⟩
/-- Does a mode fit beside the counts, but one that has own? -/
def okK (c : Int → Int) (own m k : Int) : Bool := decide (c k - (if k = own then 1 else 0) ≤ 0) || cpI k m
def fitB (c : Int → Int) (own m : Int) : Bool := (List.range 7).all fun k => okK c own m k
theorem fitB_iff (c : Int → Int) (own m : Int) : fitB c own m = true ↔ ∀ k, knI k = true → okK c own m k = true := by
  unfold fitB
  rw [List.all_eq_true]
  constructor
  · intro h k hk
    obtain ⟨h0, h7⟩ := (knI_iff k).1 hk
    obtain ⟨j, rfl⟩ := Int.eq_ofNat_of_zero_le h0
    exact h j (by simp; omega)
  · intro h j hj
    simp at hj
    exact h j ((knI_iff _).2 ⟨by omega, by omega⟩)
theorem same_int (a b : Int) : (Lit.int .i64 a).sameKey (.int .i64 b) = (a == b) := by
  simp [Lit.sameKey]
  rfl
set_option maxRecDepth 100000 in
set_option maxHeartbeats 400000 in
theorem dFitsA (p b n : Nat) (c : Int → Int) (own m : Int) (u0 u1 u2 u3 : Value) (fr : Nat × Nat) (w : World) (hp : w.heap[p]? = some (.cells #[u0, u1, u2, u3, .map (some b)] 74 fr)) (hc : HeldC w b n c) (hb : ∀ k, 0 ≤ c k ∧ c k ≤ 100000) :
    Calls Try.prog 73 #[.pointer (some ⟨p, 0, none⟩), .int .i64 own, .int .i64 m] w fun e w' => e = .returned (.bool (fitB c own m)) ∧ Nw w w' := by
  obtain ⟨D, hown, hD, hK⟩ := hc
  have hc4 := hcell (j := 4) hp
  have hpl := hlt hp
  clear hp
  obtain ⟨V, hV⟩ : ∃ V, fitB c own m = V := ⟨_, rfl⟩
  rw [hV]
  have HV := Lib.hid hV
  have HD := Lib.hid hD
  have HK := Lib.hid hK
  have HB := Lib.hid hb
  clear hV hD hK hb
  go_enter Try.func73, Try.ntmps73
  go_wp2_with (first
    | (at_range; refine wpList_range_own _ rfl _ 72 rfl 32 3 lawM Try.underlying72 _ b n _ rfl hown ?_; intro w0 hrg0 hg0 hs0)
    | go_in)
  go_frame
  go_loopw [7] (fun _ wr => ∃ (left : Lit → Bool) (cnt : Nat), wr.ranges Try.prog 32 (plainElem Try.prog 3) b w.heap.size n D left cnt ∧ (∀ k, left (.int .i64 k) = false → Maps.has D (.int .i64 k) = true → okK c own m k = true) ∧ Nw w wr)
    (fun _ wr => wr.rangeLeft b w.heap.size)
  case atStart => exact ⟨_, _, hrg0, (fun k h1 h2 => by rw [h1] at h2; cases h2), ⟨hg0.os, hg0.tape, hg0.output, hg0.size, fun i hi => hg0.block i hi (by simp)⟩⟩
  case round =>
    obtain ⟨left, cnt, hrg, hI, hN⟩ := hrel
    have HI := Lib.hid hI
    have HN := Lib.hid hN
    clear hI hN
    go_wp2_with (first
      | (at_next; refine wpList_next_ranges_ii _ rfl _ rfl 32 3 .i64 .i64 lawM Try.underlying32 Try.underlying3 b w.heap.size n _ _ _ rfl hrg ?_ ?_)
      | go_in)
    · -- nothing is left
      intro _ hl0
      have e : V = true := by
        rw [← HV.out, fitB_iff]
        intro k hk
        cases hh : Maps.has D (.int .i64 k) with
        | true => exact HI.out k (hl0 _) hh
        | false =>
          have := HD.out k
          rw [atKey_of_not_has hh] at this
          injection this with this
          injection this with _ this
          unfold okK
          rw [← this]
          have : decide ((0 : Int) - (if k = own then 1 else 0) ≤ 0) = true := by
            rw [decide_eq_true_iff]; split <;> omega
          rw [this]; rfl
      subst e
      go_wp2
      go_ret
      exact ⟨rfl, HN.out⟩
    · intro x y w1 cnt1 hwx hwc hlx hat hrg1 hlt hg1 hs1 hen
      have hxk : y = c x := by
        have h1 := hat (.lit (.int .i64 0))
        rw [HD.out x] at h1
        injection h1 with h1
        injection h1 with _ h1
        exact h1.symm
      have hx : knI x = true := by
        refine HK.out x ?_
        cases hh : Maps.has D (.int .i64 x) with
        | true => rfl
        | false =>
          have h1 := hat (.lit (.int .i64 (y + 1)))
          rw [atKey_of_not_has hh] at h1
          injection h1 with h1
          injection h1 with _ h1
          omega
      subst hxk
      have hbx := HB.out x
      have hG1 : Nw w w1 := HN.out.gro hg1 (fun k hk => by rw [← Option.some.inj hk]; exact Nat.le_refl _)
      have HG1 := Lib.hid hG1
      have HI1 : Hid (okK c own m x = true → ∀ k, (fun z : Lit => left z && !z.sameKey (.int .i64 x)) (.int .i64 k) = false → Maps.has D (.int .i64 k) = true → okK c own m k = true) := Lib.hid fun hok k hl hh => by
        by_cases q : k = x
        · rw [q]; exact hok
        · refine HI.out k ?_ hh
          have e : (k == x) = false := by simpa using q
          simpa [same_int, e] using hl
      have HC := Lib.hid (fun w => dCpA x m w hx)
      have HF : Hid (okK c own m x = false → V = false) := Lib.hid fun e => by
        rw [← HV.out]
        cases h : fitB c own m with
        | false => rfl
        | true => rw [(fitB_iff c own m).1 h x hx] at e; cases e
      unfold okK at HI1 HF
      simp only at HI1
      generalize c x = y at *
      generalize cpI x m = z at *
      have HRG := Lib.hid (And.intro hrg hrg1)
      clear hrg hrg1 hg1 hat hlx hwx hwc hs1 hx hG1 hown hrg0 hg0 hs0
      by_cases hxo : x = own
      · have dx : (x == own) = true := by simpa using hxo
        obtain ⟨t, ht⟩ : ∃ t, y - 1 = t := ⟨_, rfl⟩
        have hw : IntKind.i64.wrap (y - 1) = t := by rw [IntKind.wrap_i64]; omega
        by_cases hp0 : 0 < t
        · have dp : decide (0 < t) = true := by simpa using hp0
          cases z
          · obtain rfl : V = false := HF.out (by simp [hxo]; omega)
            clear HI1 HF hp0 ht hxo hbx
            go_wp2_with (go_at_call 51; refine (HC.out _).mono ?_; rintro e w2 ⟨rfl, g2⟩)
            go_ret
            exact ⟨rfl, HG1.out.trans g2⟩
          · have HI2 := Lib.hid (HI1.out (by simp))
            clear HI1 HF hp0 ht hxo hbx
            go_wp2_with (go_at_call 51; refine (HC.out _).mono ?_; rintro e w2 ⟨rfl, g2⟩)
            have hrg2 := HRG.out.2.kept (g2.grownBy none) (by simp) (by simp)
            go_roundw
            case rel => exact ⟨_, cnt1, hrg2, HI2.out, HG1.out.trans g2⟩
            case measure => rw [hrg2.left_eq, HRG.out.1.left_eq]; omega
        · have dp : decide (0 < t) = false := by simpa using hp0
          have HI2 := Lib.hid (HI1.out (by simp [hxo]; omega))
          clear HI1 HF hp0 ht hxo hbx
          go_wp2
          go_roundw
          case rel => exact ⟨_, cnt1, HRG.out.2, HI2.out, HG1.out⟩
          case measure => rw [HRG.out.2.left_eq, HRG.out.1.left_eq]; omega
      · have dx : (x == own) = false := by simpa using hxo
        by_cases hp0 : 0 < y
        · have dp : decide (0 < y) = true := by simpa using hp0
          cases z
          · obtain rfl : V = false := HF.out (by simp [hxo]; omega)
            clear HI1 HF hp0 hxo hbx
            go_wp2_with (go_at_call 51; refine (HC.out _).mono ?_; rintro e w2 ⟨rfl, g2⟩)
            go_ret
            exact ⟨rfl, HG1.out.trans g2⟩
          · have HI2 := Lib.hid (HI1.out (by simp))
            clear HI1 HF hp0 hxo hbx
            go_wp2_with (go_at_call 51; refine (HC.out _).mono ?_; rintro e w2 ⟨rfl, g2⟩)
            have hrg2 := HRG.out.2.kept (g2.grownBy none) (by simp) (by simp)
            go_roundw
            case rel => exact ⟨_, cnt1, hrg2, HI2.out, HG1.out.trans g2⟩
            case measure => rw [hrg2.left_eq, HRG.out.1.left_eq]; omega
        · have dp : decide (0 < y) = false := by simpa using hp0
          have HI2 := Lib.hid (HI1.out (by simp [hxo]; omega))
          clear HI1 HF hp0 hxo hbx
          go_wp2
          go_roundw
          case rel => exact ⟨_, cnt1, HRG.out.2, HI2.out, HG1.out⟩
          case measure => rw [HRG.out.2.left_eq, HRG.out.1.left_eq]; omega
theorem dFits (p b n : Nat) (c : Int → Int) (own m : Int) (u0 u1 u2 u3 : Value) (fr : Nat × Nat) (w : World) (hp : w.heap[p]? = some (.cells #[u0, u1, u2, u3, .map (some b)] 74 fr)) (hc : HeldC w b n c) (hb : ∀ k, 0 ≤ c k ∧ c k ≤ 100000) (hm : knI m = true) :
    Calls Try.prog 73 #[.pointer (some ⟨p, 0, none⟩), .int .i64 own, .int .i64 m] w fun e w' => e = .returned (.bool (fitB c own m)) ∧ Nw w w' := dFitsA p b n c own m u0 u1 u2 u3 fr w hp hc hb
end Go.Proofs.Ytmciiobncfchlaa
end

/- The developers' package queue: Clone; a line in memory; lineOf. -/
section
namespace Go.Proofs.Ytmciiobncfchlaa
open Go.RowKit Go.Maps Go.ChangeMaps
set_option linter.unusedVariables false      -- a contract need not use every name

theorem wpl_mapUp {P : Program} {w : World} {ops : Array Oper} {rest : List Oper} {o : Oper} {a : Act} {Q : Exit → Act → World → Prop}
    (hg : o.guard = none) (m x u : Operand) (t : TypeId) (hop : o.op = Op.mapUpdate t m x u) (M K V : Value) (w' : World) (hm : a.eval m = M) (hx : a.eval x = K) (hu : a.eval u = V)
    (hr : (Instr.mapUpdate t M K V).run P w = .ok () w') (h : wpList P ops Q rest (a.put o.dst undef) w') : wpList P ops Q (o :: rest) a w := by
  refine wpList_plain hg fun K' hK' => ?_
  unfold Oper.wp
  simp [execOp, hop, hm, hx, hu, hr, Result.andThen]
  exact hK' _ _ h
set_option maxRecDepth 100000 in
set_option maxHeartbeats 1000000 in
theorem dClone (v : Value) (q : List Rq) (w : World) (hl : q.length ≤ 1000) (h : RqAt w v q) :
    Calls Try.prog 48 #[v] w fun e w' => ∃ v', e = .returned v' ∧ Nw w w' ∧ RqOwn w' w.heap.size v' q := by
  obtain ⟨v', w1, hrun, hO, hN⟩ := own_clone elemRq h (by omega)
  obtain ⟨a, c, rfl, h⟩ := h
  have en := fun (w : World) (a : Option Addr) (n c n' c' : Nat) => Lib.run_eql_slice_nil (P := Try.prog) w 25 41 a n c n' c' Try.underlying25
  have HR := Lib.hid hrun
  have HO := Lib.hid (And.intro hN hO)
  clear hrun hO hN
  cases a with
  | none =>
    rcases h with ⟨rfl, h0⟩ | ⟨b, o, e, _⟩
    · obtain rfl := h0 rfl
      go_enter Try.func48, Try.ntmps48
      go_wp2
      go_ret
      exact ⟨_, rfl, Nw.refl _, World.ownsRow_nil _ _ _ _⟩
    · cases e
  | some ad =>
    clear h
    go_enter Try.func48, Try.ntmps48
    go_wp2_with (at_builtin; refine wpl_app (by rfl) (.tmp 5) (.tmp 6) 25 rfl _ _ _ _ rfl rfl HR.out ?_)
    go_ret
    exact ⟨_, rfl, HO.out.1, HO.out.2⟩

/-- A line in memory: its own row of requests, its own map of counts. -/
structure Ln (w : World) (g0 p : Nat) (t r W : Int) (v : Value) (b n : Nat) (q : List Rq) (c : Int → Int) : Prop where
  obj : w.heap[p]? = some (.cells #[.int .i64 t, .int .i64 r, v, .int .i64 W, .map (some b)] 74 (0, 0))
  own : RqOwn w g0 v q
  map : HeldC w b n c
  gp : g0 ≤ p
  gb : g0 ≤ b
/-- How many have a mode. -/
def cntQ (q : List Rq) : Int → Int := fun k => ((q.countP fun R => R.md == k : Nat) : Int)
theorem cntQ_snoc (q : List Rq) (R : Rq) : cntQ (q ++ [R]) = setC (cntQ q) R.md (cntQ q R.md + 1) := by
  funext k
  unfold cntQ setC
  rw [List.countP_append]
  by_cases e : k = R.md
  · rw [if_pos e, e]; simp
  · rw [if_neg e]
    have : (R.md == k) = false := by simpa using fun q => e q.symm
    simp [this]
theorem cntQ_bd (q : List Rq) (k : Int) : 0 ≤ cntQ q k ∧ cntQ q k ≤ q.length := by
  unfold cntQ
  have := List.countP_le_length (p := fun R : Rq => R.md == k) (l := q)
  omega
section
variable {w w' : World} {g0 p : Nat} {t r W : Int} {v : Value} {b n : Nat} {q : List Rq} {c : Int → Int}
theorem Ln.nw (h : Ln w g0 p t r W v b n q c) (g : Nw w w') : Ln w' g0 p t r W v b n q c := ⟨g.at' h.obj, onw h.own g, h.map.nw g, h.gp, h.gb⟩
theorem Ln.bp (h : Ln w g0 p t r W v b n q c) : b ≠ p := fun e => by
  obtain ⟨es, k, ho⟩ := h.map.obj
  rw [e, h.obj] at ho; cases ho
theorem Ln.vb (h : Ln w g0 p t r W v b n q c) : v.ownBlock ≠ some b := fun e => by
  obtain ⟨es, k, ho⟩ := h.map.obj
  obtain ⟨cs, hc⟩ := oheap h.own e
  rw [ho] at hc; cases hc
theorem types_ne : 41 ≠ 74 := by decide
theorem Ln.vp (h : Ln w g0 p t r W v b n q c) : v.ownBlock ≠ some p := fun e => by
  obtain ⟨cs, hc⟩ := oheap h.own e
  have := h.obj
  rw [hc] at this
  injection this with this
  injection this with _ this
  exact absurd this types_ne
/-- A store into the map. -/
theorem Ln.put (h : Ln w g0 p t r W v b n q c) {n' : Nat} {c' : Int → Int} (hm : HeldC w' b n' c') (hg : w.grownBy w' (some b)) : Ln w' g0 p t r W v b n' q c' :=
  ⟨(hg.block p (hlt h.obj) (by simp; exact h.bp.symm)).trans h.obj, okeep h.own hg (fun g hv e => h.vb (by rw [hv, ← e])), hm, h.gp, h.gb⟩
end
theorem heap_lt' {w : World} {B : Nat} {o : Obj} (hb : w.heap[B]? = some o) : B < w.heap.size := hlt hb
/-- A request of a row that the call owns. -/
theorem RqOwn.at {w : World} {g0 : Nat} {v : Value} {q : List Rq} (h : RqOwn w g0 v q) {k : Nat} (hk : k < q.length) : ∃ g cap, v = .slice (some ⟨g, 0, none⟩) q.length cap ∧ g0 ≤ g ∧ g < w.heap.size ∧ ∀ j u, (rqrow q[k])[j]? = some u → w.cell? ⟨g, k * 5 + j, none⟩ = some u := by
  rcases oform h with ⟨_, e⟩ | ⟨g, cap, rfl⟩
  · omega
  · refine ⟨g, cap, rfl, oge h rfl, olt h rfl, fun j u hu => ?_⟩
    obtain ⟨a, c, e, hh | ⟨b, o, rfl, hc⟩⟩ := RqOwn.rd h
    · obtain ⟨rfl, _⟩ := hh; simp at hk
    · simp only [Value.slice.injEq, Option.some.injEq, Addr.mk.injEq] at e
      obtain ⟨⟨rfl, rfl, _⟩, _, _⟩ := e
      have := hc.cell k hk j u hu
      rwa [Nat.zero_add] at this
set_option maxRecDepth 100000 in
set_option maxHeartbeats 1000000 in
theorem dLineOf (t r W : Int) (v : Value) (q : List Rq) (w : World) (hl : q.length ≤ 1000) (hkn : ∀ R ∈ q, knI R.md = true) (h : RqAt w v q) :
    Calls Try.prog 39 #[hdV t r v W] w fun e w' => ∃ p v' b n, e = .returned (.pointer (some ⟨p, 0, none⟩)) ∧ Nw w w' ∧ Ln w' w.heap.size p t r W v' b n q (cntQ q) ∧ n ≤ q.length := by
  have hmm := @run_makeMap Try.prog
  have HCl := Lib.hid (fun (w1 : World) (g : Nw w w1) => dClone v q w1 hl (h.nw g))
  have HK := Lib.hid hkn
  clear hkn
  unfold hdV
  obtain ⟨a, c, rfl, _⟩ := h
  obtain ⟨w3, hw3⟩ : ∃ w3, ((w.alloc (.cells #[.int .i64 t, .int .i64 r, .slice a q.length c, .int .i64 W] 27)).alloc (.map #[] 0)).alloc (.cells #[.int .i64 t, .int .i64 r, .slice a q.length c, .int .i64 W, .map (some (w.heap.size + 1))] 74) = w3 := ⟨_, rfl⟩
  have hN3 : Nw w w3 := by rw [← hw3]; exact (((Nw.refl w).alloc _).alloc _).alloc _
  have hs1 : (w.alloc (.cells #[.int .i64 t, .int .i64 r, .slice a q.length c, .int .i64 W] 27)).heap.size = w.heap.size + 1 := by simp
  have hs2 : ((w.alloc (.cells #[.int .i64 t, .int .i64 r, .slice a q.length c, .int .i64 W] 27)).alloc (.map #[] 0)).heap.size = w.heap.size + 1 + 1 := by simp
  have hB : HBox w3 w.heap.size t r (.slice a q.length c) W := by rw [← hw3]; exact (HBox.made w t r (.slice a q.length c) W 27).nw (((Nw.refl _).alloc _).alloc _)
  have hM : HeldC w3 (w.heap.size + 1) 0 (fun _ => 0) := by
    have := HeldC.made (w.alloc (.cells #[.int .i64 t, .int .i64 r, .slice a q.length c, .int .i64 W] 27))
    rw [hs1] at this
    rw [← hw3]; exact this.nw ((Nw.refl _).alloc _)
  have hL : w3.heap[w.heap.size + 1 + 1]? = some (.cells #[.int .i64 t, .int .i64 r, .slice a q.length c, .int .i64 W, .map (some (w.heap.size + 1))] 74) := by
    have := allocAt ((w.alloc (.cells #[.int .i64 t, .int .i64 r, .slice a q.length c, .int .i64 W] 27)).alloc (.map #[] 0)) (.cells #[.int .i64 t, .int .i64 r, .slice a q.length c, .int .i64 W, .map (some (w.heap.size + 1))] 74)
    rw [hs2] at this
    rw [← hw3]; exact this
  have HW3 := Lib.hid hw3
  clear hw3 hs1 hs2
  go_enter Try.func39, Try.ntmps39
  go_wp2_with fail
  go_at_call 48
  rw [HW3.out]
  refine (HCl.out _ hN3).mono ?_
  rintro e w4 ⟨v1, rfl, g4, hO4⟩
  have hL4 := g4.at' hL
  have h5 := hset (j := 2) v1 hL4
  have hN5 : Nw w (w4.setCell ⟨w.heap.size + 1 + 1, 2, none⟩ v1) := (hN3.trans g4).st (by show w.heap.size ≤ w.heap.size + 1 + 1; omega) v1
  have hO5 : RqOwn (w4.setCell ⟨w.heap.size + 1 + 1, 2, none⟩ v1) w.heap.size v1 q := olow (own_st hO4 (p := ⟨w.heap.size + 1 + 1, 2, none⟩) (hlt hL) v1) (fun g hg => by have := oge hO4 hg; have := hN3.sz; omega)
  have hM5 : HeldC (w4.setCell ⟨w.heap.size + 1 + 1, 2, none⟩ v1) (w.heap.size + 1) 0 (fun _ => 0) := (hM.nw g4).kept (sgrown w4 _ v1) (by simp)
  have hLn : Ln (w4.setCell ⟨w.heap.size + 1 + 1, 2, none⟩ v1) w.heap.size (w.heap.size + 1 + 1) t r W v1 (w.heap.size + 1) 0 q (fun _ => 0) := ⟨h5, hO5, hM5, by omega, by omega⟩
  obtain ⟨a1, c1, rfl⟩ := (RqOwn.rd hO5).form
  have l0 := hcell (j := 0) hL4
  have l1 := hcell (j := 1) hL4
  have l2 := hcell (j := 2) hL4
  have l3 := hcell (j := 3) hL4
  have l4 := hcell (j := 4) hL4
  have fz := fun k => hfz (j := k) hL4
  have hsl := hlt hL4
  have HLn := Lib.hid (And.intro hN5 hLn)
  clear hLn hN5 hO5 hM5 h5 hO4 hM hB hL4 hL hN3 g4
  go_wp2
  have hp5 : w.heap.size + 1 + 1 < (w4.setCell ⟨w.heap.size + 1 + 1, 2, none⟩ (.slice a1 q.length c1)).heap.size := hlt HLn.out.2.obj
  generalize w4.setCell ⟨w.heap.size + 1 + 1, 2, none⟩ (.slice a1 q.length c1) = w5 at *
  obtain ⟨p, hp⟩ : ∃ p, w.heap.size + 1 + 1 = p := ⟨_, rfl⟩
  obtain ⟨b, hb⟩ : ∃ b, w.heap.size + 1 = b := ⟨_, rfl⟩
  rw [hp, hb] at HLn
  rw [hp, hb] 
  rw [hp] at hp5
  clear HW3 HCl l0 l1 l2 l3 l4 fz hsl hp hb hmm
  go_loopw [23] (fun i wr => ∃ (k n : Nat), k ≤ q.length ∧ i = .int .i64 k ∧ n = k ∧ Ln wr w.heap.size p t r W (.slice a1 q.length c1) b n q (cntQ (q.take k)) ∧ Nw w wr) (fun i _ => q.length - (intOf i).toNat)
  case atStart => exact ⟨0, 0, Nat.zero_le _, rfl, rfl, HLn.out.2, HLn.out.1⟩
  case round =>
    obtain ⟨k, n, hk, rfl, hn, hLn, hN⟩ := hrel
    by_cases hlt : k < q.length
    · obtain ⟨g, cap, e, hg1, hg2, hce⟩ := RqOwn.at hLn.own hlt
      simp only [Value.slice.injEq, true_and] at e
      obtain ⟨rfl, rfl⟩ := e
      have hkR := HK.out _ (List.getElem_mem hlt)
      have hTk : cntQ (q.take (k + 1)) = setC (cntQ (q.take k)) q[k].md (cntQ (q.take k) q[k].md + 1) := by
        rw [← cntQ_snoc, List.take_add_one, List.getElem?_eq_getElem hlt]; rfl
      have hbd := cntQ_bd (q.take k) q[k].md
      have htl := List.length_take_le k q
      generalize q[k] = R at *
      obtain ⟨b0, b1, b2, b3, b4⟩ := R
      simp only at hkR hTk hbd
      have e0 := hce 0 _ rfl
      have e1 := hce 1 _ rfl
      have e2 := hce 2 _ rfl
      have e3 := hce 3 _ rfl
      have e4 := hce 4 _ rfl
      simp only [Nat.add_zero] at e0
      have g6 : Nw wr (wr.alloc (.cells #[.int .i64 b0, .int .i64 b1, .int .i64 b2, .int .i64 b3, .int .i64 b4] 41)) := (Nw.refl wr).alloc _
      have hq6 := RqB.made wr b0 b1 b2 b3 b4 41
      obtain ⟨w6, hw6⟩ : ∃ w6, wr.alloc (.cells #[.int .i64 b0, .int .i64 b1, .int .i64 b2, .int .i64 b3, .int .i64 b4] 41) = w6 := ⟨_, rfl⟩
      rw [hw6] at g6 hq6
      have HW6 := Lib.hid hw6
      have hL6 := hLn.nw g6
      obtain ⟨hlq, -, -, q2, -, -⟩ := hq6
      have hp6 := heap_lt' hL6.obj
      have m4 := hcell (j := 4) hL6.obj
      have hlk := (hL6.map.nw (Nw.refl w6).drew1).look hkR
      obtain ⟨x, hx⟩ : ∃ x, cntQ (q.take k) b2 = x := ⟨_, rfl⟩
      rw [hx] at hlk hTk hbd
      obtain ⟨x1, hx1⟩ : ∃ x1, x + 1 = x1 := ⟨_, rfl⟩
      have hwx : IntKind.i64.wrap (x + 1) = x1 := by rw [IntKind.wrap_i64]; omega
      obtain ⟨w7, r7, hM7, hG7⟩ := (hL6.map.nw (Nw.refl w6).drew1).put (by omega) hkR (x := x1) (by omega) (by omega)
      have hL7 := (hL6.nw (Nw.refl w6).drew1).put hM7 hG7
      rw [← hx1, ← hTk] at hL7
      have hN7 : Nw w w7 := (hN.trans (g6.trans (Nw.refl w6).drew1)).gro hG7 (fun k hk => by rw [← Option.some.inj hk]; exact hLn.gb)
      have HL7 := Lib.hid (And.intro hL7 hN7)
      have H7 := Lib.hid r7
      clear hLn hN hce hg1 hkR hTk hL6 hx r7 hM7 hG7 hL7 hN7 hbd htl hw6 g6 hx1
      go_wp2
      rw [HW6.out]
      refine wp_region_still_tail 8 (by kernel_rfl) (by kernel_rfl) ?_
      simp only [List.take_succ_cons, List.take_zero, List.drop_succ_cons, List.drop_zero]
      repeat still_step
      try refine wpStill_nil ?_
      change wpList _ _ _ _ _ w6.drew
      go_wp2_with (at_mapUpdate; refine wpl_mapUp rfl (.tmp 30) (.tmp 32) (.tmp 34) 72 rfl _ _ _ _ rfl rfl rfl H7.out ?_)
      go_roundw
      case rel => exact ⟨k + 1, _, by omega, by go_num, by omega, HL7.out.1, HL7.out.2⟩
      case measure => simp [intOf]; omega
    · obtain rfl : k = q.length := by omega
      rw [List.take_length] at hLn
      have HF := Lib.hid (And.intro hN hLn)
      clear hN hLn
      go_wp2
      go_ret
      exact ⟨_, _, _, _, rfl, HF.out.1, HF.out.2, by omega⟩
end Go.Proofs.Ytmciiobncfchlaa
end

/- The document's own queue: Abandon, Hand. -/
section
namespace Go.Proofs.Ytmciiobncfchlaa
open Go.RowKit
set_option linter.unusedVariables false      -- a contract need not use every name

theorem set_in {A M B : List Value} {j : Nat} (hj : j < M.length) (u : Value) : (A ++ (M ++ B)).set (A.length + j) u = A ++ (M.set j u ++ B) := by
  rw [List.set_append_right _ _ (by omega), Nat.add_sub_cancel_left, List.set_append_left _ _ hj]
theorem rows_mid (q : List Rq) (k : Nat) (hk : k < q.length) : rowsOf rqrow q = rowsOf rqrow (q.take k) ++ (rqrow q[k] ++ rowsOf rqrow (q.drop (k + 1))) := by
  have e : q = q.take k ++ q[k] :: q.drop (k + 1) := by rw [← List.drop_eq_getElem_cons hk, List.take_append_drop]
  conv => lhs; rw [e]
  rw [rows_app]
  rfl
theorem rows_upd (q : List Rq) (k : Nat) (hk : k < q.length) (j : Nat) (hj : j < 5) (u : Value) (new : Rq) (e : (rqrow q[k]).set j u = rqrow new) : (rowsOf rqrow q).set (k * 5 + j) u = rowsOf rqrow (q.set k new) := by
  have hA : (rowsOf rqrow (q.take k)).length = k * 5 := by rw [rows_len (sz := 5) (fun _ => rfl), List.length_take, Nat.min_eq_left (Nat.le_of_lt hk)]
  have h2 := rows_mid (q.set k new) k (by rw [List.length_set]; exact hk)
  rw [List.take_set_of_le (Nat.le_refl k), List.drop_set_of_lt (Nat.lt_succ_self k), List.getElem_set_self] at h2
  rw [rows_mid q k hk, h2, ← hA, set_in (by exact hj) u, e]
theorem own_upd {w : World} {g0 g cap n : Nat} {q : List Rq} (h : RqOwn w g0 (.slice (some ⟨g, 0, none⟩) n cap) q) (hn : n = q.length) (k : Nat) (hk : k < q.length) (j : Nat) (hj : j < 5) (u : Value) (new : Rq) (e : (rqrow q[k]).set j u = rqrow new) :
    RqOwn (w.setCell ⟨g, k * 5 + j, none⟩ u) g0 (.slice (some ⟨g, 0, none⟩) n cap) (q.set k new) := by
  subst hn
  have h1 := (World.ownsRow.stored h (k * 5 + j) u).1
  unfold RqOwn Own
  rw [List.length_set, ← rows_upd q k hk j hj u new e]
  exact h1
theorem own_cell {w : World} {g0 g cap n : Nat} {q : List Rq} (h : RqOwn w g0 (.slice (some ⟨g, 0, none⟩) n cap) q) (hn : n = q.length) (k : Nat) (hk : k < q.length) (j : Nat) (u : Value) (hu : (rqrow q[k])[j]? = some u) : w.cell? ⟨g, k * 5 + j, none⟩ = some u := by
  subst hn
  have hj : j < 5 := by have := (List.getElem?_eq_some_iff.1 hu).1; simpa [rqrow] using this
  refine (World.ownsRow.cellAt h (k * 5 + j) (by omega)).trans ?_
  rw [rows_at' (sz := 5) (fun _ => rfl) q k j hk hj]; exact hu
theorem own_frz {w : World} {g0 g cap n : Nat} {q : List Rq} (h : RqOwn w g0 (.slice (some ⟨g, 0, none⟩) n cap) q) (hn : n = q.length) (j : Nat) : w.frozen? ⟨g, j, none⟩ = false := by
  subst hn
  exact World.ownsRow.frozenAt h j
theorem ab_at {W : Int} {q : List Rq} {k : Nat} (h : Ok W q) (hk : k < q.length) (hm : q[k].md ≠ 0) : abQ q[k] q = q.set k (abR q[k]) := by
  unfold abQ
  rw [if_neg hm, chg_set h abR k hk]
theorem ab_lv {W : Int} {q : List Rq} {k : Nat} (h : Ok W q) (hk : k < q.length) (hm : q[k].md = 0) : abQ q[k] q = q.take k ++ q.drop (k + 1) := by
  unfold abQ
  rw [if_pos hm, lv_erase h k hk]

set_option maxRecDepth 100000 in
set_option maxHeartbeats 8000000 in
theorem r9abandon (t r W id : Int) (v : Value) (q : List Rq) (w : World) (hl : q.length ≤ 1000) (hok : Ok W q) (hcap : capOk v) (h : RqAt w v q) :
    Calls Try.prog 27 #[hdV t r v W, .int .i64 id] w (HR1 (abRes ⟨t, r, W, q⟩ id) w) := by
  have HOk := Lib.hid hok
  clear hok
  obtain ⟨X, hX⟩ : ∃ X, abRes ⟨t, r, W, q⟩ id = X := ⟨_, rfl⟩
  rw [hX]
  have HXx := Lib.hid hX
  clear hX
  have HA := Lib.hid (fun (w1 : World) (g : Nw w w1) => r9at t r W id v q w1 hl (h.nw g))
  have HCp := Lib.hid (fun (w1 : World) (g : Nw w w1) => r9copied t r W v q w1 hl (h.nw g))
  unfold hdV at HA HCp
  unfold HR1 hdV
  obtain ⟨a, c, rfl, h⟩ := h
  have HH := Lib.hid h
  have hcq : q.length ≤ c := hcap
  clear h hcap
  have HX := Lib.hid (two_boxes w (.cells #[.int .i64 t, .int .i64 r, .slice a q.length c, .int .i64 W] 27) (.cells #[.int .i64 0, .int .i64 0, .slice none 0 0, .int .i64 0] 27))
  go_enter Try.func27, Try.ntmps27
  go_wp2_with fail
  refine (HA.out _ HX.out.2.2.1).mono ?_
  rintro e w1 ⟨i, rfl, g1, hi⟩
  have hp1 := g1.at' HX.out.1
  have hq1 := g1.at' HX.out.2.1
  have HN1 := Lib.hid (HX.out.2.2.1.trans g1)
  have c0 := hcell (j := 0) hp1
  have c1 := hcell (j := 1) hp1
  have c2 := hcell (j := 2) hp1
  have c3 := hcell (j := 3) hp1
  have hsl := hlt hp1
  have hsl2 := hlt hq1
  rcases hi with ⟨rfl, hf⟩ | ⟨k, rfl, hk, hf⟩
  · have hR := HXx.out.symm.trans (show abRes ⟨t, r, W, q⟩ id = (noH, 5) by unfold abRes; rw [hf])
    subst hR
    have d0 := hcell (j := 0) hq1
    have d1 := hcell (j := 1) hq1
    have d2 := hcell (j := 2) hq1
    have d3 := hcell (j := 3) hq1
    have fz := fun k => hfz (j := k) hq1
    clear hf hp1 hq1 g1 HA HCp HX HOk HXx HH
    go_wp2
    refine bodyPost_ret (v := .tuple #[.agg #[.int .i64 0, .int .i64 0, .slice none 0 0, .int .i64 0], .int .i64 5]) (by simp [results, Try.results27, go_sem, *]) rfl ⟨_, rfl, fill_nw HN1.out (Nat.le_succ _) _ _ _ _, Rd.nil _, Nat.le_refl _⟩
  · rcases HH.out with ⟨e, _⟩ | ⟨b, o, rfl, hc⟩
    · subst e; simp at hk
    have hC1 := hc.nw HN1.out
    have hce := hC1.cell k hk
    have hki : (k : Int) < (q.length : Int) := by omega
    have HNw := Lib.hid (show ¬ 0 < q[k].sn → abRes ⟨t, r, W, q⟩ id = (noH, 7) from fun e => by unfold abRes; rw [hf]; exact if_neg e)
    have HLv := Lib.hid (show 0 < q[k].sn → q[k].md = 0 → abRes ⟨t, r, W, q⟩ id = (⟨t, r, W, q.take k ++ q.drop (k + 1)⟩, 0) from fun e m => by unfold abRes; rw [hf]; simp only [if_pos e]; rw [ab_lv HOk.out hk m])
    have HAb := Lib.hid (show 0 < q[k].sn → q[k].md ≠ 0 → abRes ⟨t, r, W, q⟩ id = (⟨t, r, W, q.set k (abR q[k])⟩, 0) from fun e m => by unfold abRes; rw [hf]; simp only [if_pos e]; rw [ab_at HOk.out hk m])
    have HWo := Lib.hid (fun (w2 : World) (g : Nw w w2) => r9without t r W b o c k q w2 hl hk hcq (hc.nw g))
    unfold hdV at HWo
    have HOC := Lib.hid (fun (w2 : World) (g0 g cap : Nat) (h : RqOwn w2 g0 (.slice (some ⟨g, 0, none⟩) q.length cap) q) => own_cell h rfl k hk)
    have HOU := Lib.hid (fun (w2 : World) (g0 g cap : Nat) (md wt : Int) (h : RqOwn w2 g0 (.slice (some ⟨g, 0, none⟩) q.length cap) q) (hm : md = q[k].md) => own_upd (own_upd h rfl k hk 3 (by decide) (.int .i64 md) ⟨q[k].id, q[k].txn, q[k].md, md, q[k].sn⟩ rfl) (by rw [List.length_set]) k (by rw [List.length_set]; exact hk) 4 (by decide) (.int .i64 0) (abR q[k]) (by rw [List.getElem_set_self, hm]; rfl))
    simp only [List.set_set] at HOU
    have hIdx := hk
    generalize q[k] = R at *
    obtain ⟨b0, b1, b2, b3, b4⟩ := R
    have e0 := hce 0 _ rfl
    have e1 := hce 1 _ rfl
    have e2 := hce 2 _ rfl
    have e3 := hce 3 _ rfl
    have e4 := hce 4 _ rfl
    simp only [Nat.add_zero] at e0
    clear hce
    have HC := Lib.hid hc
    clear hc hC1 hf HA HX HH
    go_wp2_with fail
    refine (r9waits _ _ _ _ _ _).mono ?_
    rintro e w2 ⟨rfl, g2⟩
    have hp2 := g2.at' hp1
    have hq2 := g2.at' hq1
    have HN2 := Lib.hid (HN1.out.trans g2)
    clear c0 c1 c2 c3
    have c0 := hcell (j := 0) hp2
    have c1 := hcell (j := 1) hp2
    have c2 := hcell (j := 2) hp2
    have c3 := hcell (j := 3) hp2
    have hsl := hlt hp2
    have hsl2 := hlt hq2
    replace e0 := g2.kp e0
    replace e1 := g2.kp e1
    replace e2 := g2.kp e2
    replace e3 := g2.kp e3
    replace e4 := g2.kp e4
    by_cases hs : 0 < b4
    rotate_left
    · have d : decide (0 < b4) = false := by simpa using hs
      have hR := HXx.out.symm.trans (HNw.out (by first | exact hs | exact Int.not_lt.1 hs))
      subst hR
      have d0 := hcell (j := 0) hq2
      have d1 := hcell (j := 1) hq2
      have d2 := hcell (j := 2) hq2
      have d3 := hcell (j := 3) hq2
      have fz := fun k => hfz (j := k) hq2
      clear hs HNw HLv HAb HXx HOk HWo HOC HOU HCp HC
      go_wp2
      refine bodyPost_ret (v := .tuple #[.agg #[.int .i64 0, .int .i64 0, .slice none 0 0, .int .i64 0], .int .i64 7]) (by simp [results, Try.results27, go_sem, *]) rfl ⟨_, rfl, fill_nw HN2.out (Nat.le_succ _) _ _ _ _, Rd.nil _, Nat.le_refl _⟩
    have d : decide (0 < b4) = true := by simpa using hs
    clear HNw
    go_wp2_with fail
    refine (r9holds _ _ _ _ _ _).mono ?_
    rintro e w3 ⟨rfl, g3⟩
    have hp3 := g3.at' hp2
    have hq3 := g3.at' hq2
    have HN3 := Lib.hid (HN2.out.trans g3)
    clear c0 c1 c2 c3
    have c0 := hcell (j := 0) hp3
    have c1 := hcell (j := 1) hp3
    have c2 := hcell (j := 2) hp3
    have c3 := hcell (j := 3) hp3
    have hsl := hlt hp3
    have hsl2 := hlt hq3
    by_cases hm : b2 = 0
    · have d2 : (b2 != 0) = false := by simpa using hm
      have hR := HXx.out.symm.trans (HLv.out hs hm)
      subst hR
      have hs1 : w.heap.size + 1 < w3.heap.size := hsl2
      have HQ1 := Lib.hid hq3
      clear hs hm HLv HAb HXx HOk HOC HOU HCp hp1 hp2 hq1 hq2 hp3 hq3 g1 g2 g3
      go_wp2_with fail
      refine (HWo.out _ HN3.out).mono ?_
      rintro e w4 ⟨v2, rfl, g4, hO⟩
      have hq4 := g4.at' HQ1.out
      obtain ⟨a2, k2, hv2⟩ := (RqOwn.rd hO).form
      have HO := Lib.hid hO
      have HN4 := Lib.hid (HN3.out.trans g4)
      obtain ⟨n2, hn2⟩ : ∃ n, (q.take k ++ q.drop (k + 1)).length = n := ⟨_, rfl⟩
      rw [hn2] at hv2
      subst hv2
      have d0 := hcell (j := 0) hq4
      have d1 := hcell (j := 1) hq4
      have d2 := hcell (j := 2) hq4
      have d3 := hcell (j := 3) hq4
      have fz := fun k => hfz (j := k) hq4
      have hsl3 := hlt hq4
      clear hO g4 hq4 hn2 HWo HQ1
      go_wp2
      refine bodyPost_ret (v := .tuple #[.agg #[.int .i64 t, .int .i64 r, .slice a2 n2 k2, .int .i64 W], .int .i64 0]) (by simp [results, Try.results27, go_sem, *]) rfl ⟨_, rfl, fill_nw HN4.out (Nat.le_succ _) _ _ _ _, (fill_own HO.out (by omega) _ _ _ _).rd, HO.out.cap⟩
    · have d2 : (b2 != 0) = true := by simpa using hm
      have hR := HXx.out.symm.trans (HAb.out hs hm)
      subst hR
      have hs1 : w.heap.size + 1 < w3.heap.size := hsl2
      have HQ1 := Lib.hid hq3
      clear hs hm HLv HAb HXx HOk HWo hp1 hp2 hq1 hq2 hp3 hq3 g1 g2 g3 e0 e1 e2 e3 e4
      go_wp2_with fail
      refine (HCp.out _ HN3.out).mono ?_
      rintro e w4 ⟨v1, rfl, g4, hO⟩
      rcases oform hO with ⟨_, q0⟩ | ⟨g, cap, rfl⟩
      · omega
      have hq4 := g4.at' HQ1.out
      have hg0 := oge hO (g := g) rfl
      have hgl := olt hO (g := g) rfl
      have hal := allocAt w4 (.cells #[.int .i64 t, .int .i64 r, .slice (some ⟨g, 0, none⟩) q.length cap, .int .i64 W] 27)
      have hNa : Nw w4 (w4.alloc (.cells #[.int .i64 t, .int .i64 r, .slice (some ⟨g, 0, none⟩) q.length cap, .int .i64 W] 27)) := (Nw.refl w4).alloc _
      have HNy := Lib.hid (HN3.out.trans (g4.trans hNa))
      have hOy := onw hO hNa
      have hqy := hNa.at' hq4
      have hs4 := g4.sz
      obtain ⟨pb, hpb⟩ : ∃ pb, w4.heap.size = pb := ⟨_, rfl⟩
      rw [hpb] at hal hgl
      clear hO
      go_wp2_with fail
      try rw [hpb]
      have hpl4 : w4.heap.size = pb := hpb
      generalize w4.alloc (.cells #[.int .i64 t, .int .i64 r, .slice (some ⟨g, 0, none⟩) q.length cap, .int .i64 W] 27) = y at *
      have hpc : ∀ j, y.cell? ⟨pb, j, none⟩ = _ := fun j => hcell (j := j) hal
      have p0 := hpc 0
      have p1 := hpc 1
      have p2 := hpc 2
      have p3 := hpc 3
      have pz := fun j => hfz (j := j) hal
      have r2 := HOC.out _ _ _ _ hOy 2 _ rfl
      have r3 := HOC.out _ _ _ _ hOy 3 _ rfl
      have r4 := HOC.out _ _ _ _ hOy 4 _ rfl
      have rz := own_frz hOy rfl
      have hU := HOU.out _ _ _ _ b2 b3 hOy rfl
      have d0 := hcell (j := 0) hqy
      have d1 := hcell (j := 1) hqy
      have d2 := hcell (j := 2) hqy
      have d3 := hcell (j := 3) hqy
      have fz := fun k => hfz (j := k) hqy
      have n1 : ¬ (w.heap.size + 1 = g) := by omega
      have n2 : ¬ (g = w.heap.size + 1) := by omega
      have n3 : ¬ (pb = g) := by omega
      have n4 : ¬ (g = pb) := by omega
      have hgw : w.heap.size ≤ g := by omega
      have hrb : w.heap.size + 1 < w3.heap.size := hs1
      have HU := Lib.hid hU
      have HG := Lib.hid (And.intro hgw hrb)
      clear hU hpc hOy hal hqy hNa g4 hq4 hgw hrb HCp HOC HOU HQ1 hg0 hgl hpb hpl4 hs4 hs1 hsl hsl2 c0 c1 c2 c3
      obtain ⟨y0, hy0⟩ : ∃ y0, y.drew = y0 := ⟨_, rfl⟩
      obtain ⟨S, hSe⟩ : ∃ S : World → Prop, S = fun x => x = y0 ∨ x = y0.setCell ⟨g, k * 5 + 3, none⟩ (.int .i64 b2) ∨ x = (y0.setCell ⟨g, k * 5 + 3, none⟩ (.int .i64 b2)).setCell ⟨g, k * 5 + 4, none⟩ (.int .i64 0) := ⟨_, rfl⟩
      have s0 : y0.cell? ⟨pb, 0, none⟩ = some (.int .i64 t) := by subst hy0; exact p0
      have s1 : y0.cell? ⟨pb, 1, none⟩ = some (.int .i64 r) := by subst hy0; exact p1
      have s2 : y0.cell? ⟨pb, 2, none⟩ = some (.slice (some ⟨g, 0, none⟩) q.length cap) := by subst hy0; exact p2
      have s3 : y0.cell? ⟨pb, 3, none⟩ = some (.int .i64 W) := by subst hy0; exact p3
      have s4 : y0.cell? ⟨g, k * 5 + 2, none⟩ = some (.int .i64 b2) := by subst hy0; exact r2
      have s5 : y0.cell? ⟨g, k * 5 + 3, none⟩ = some (.int .i64 b3) := by subst hy0; exact r3
      have s6 : y0.cell? ⟨g, k * 5 + 4, none⟩ = some (.int .i64 b4) := by subst hy0; exact r4
      have s7 : ∀ j, y0.frozen? ⟨g, j, none⟩ = false := by subst hy0; exact rz
      have s8 : ∀ j, y0.cell? ⟨w.heap.size + 1, j, none⟩ = _ := fun j => (by subst hy0; rfl : y0.cell? ⟨w.heap.size + 1, j, none⟩ = y.cell? ⟨w.heap.size + 1, j, none⟩)
      have t0 : ∀ x, Hs S x → x.cell? ⟨pb, 0, none⟩ = some (.int .i64 t) := fun x h => by subst hSe; rcases h with rfl | rfl | rfl <;> simp [go_sem, s0]
      have t1 : ∀ x, Hs S x → x.cell? ⟨pb, 1, none⟩ = some (.int .i64 r) := fun x h => by subst hSe; rcases h with rfl | rfl | rfl <;> simp [go_sem, s1]
      have t2 : ∀ x, Hs S x → x.cell? ⟨pb, 2, none⟩ = some (.slice (some ⟨g, 0, none⟩) q.length cap) := fun x h => by subst hSe; rcases h with rfl | rfl | rfl <;> simp [go_sem, s2]
      have t3 : ∀ x, Hs S x → x.cell? ⟨pb, 3, none⟩ = some (.int .i64 W) := fun x h => by subst hSe; rcases h with rfl | rfl | rfl <;> simp [go_sem, s3]
      have t4 : ∀ x, Hs S x → x.cell? ⟨g, k * 5 + 2, none⟩ = some (.int .i64 b2) := fun x h => by subst hSe; rcases h with rfl | rfl | rfl <;> simp [go_sem, s4]
      have hS0 : Hs S y.drew := by rw [hy0, hSe]; exact .inl rfl
      have hS1 : Hs S (y0.setCell ⟨g, k * 5 + 3, none⟩ (.int .i64 b2)) := by rw [hSe]; exact .inr (.inl rfl)
      have hS2 : Hs S ((y0.setCell ⟨g, k * 5 + 3, none⟩ (.int .i64 b2)).setCell ⟨g, k * 5 + 4, none⟩ (.int .i64 0)) := by rw [hSe]; exact .inr (.inr rfl)
      clear hSe
      refine region_plan (.take (.take (.take (.take (.take (.take (.take (.take (.take (.take (.take (.take (.take (.take (.off (.go1 (.take (.take (.off (.go1 .fin)))))))))))))))))))) (Hs S) (by kernel_rfl) (by kernel_rfl) (by kernel_rfl) hS0 ?_
      rw [hy0]
      iterate 14 (refine HP.take' ?_; (first | (refine ⟨undef, Or.inr ⟨by rfl, rfl⟩, ?_⟩) | (apply Exists.intro; refine ⟨Or.inl ⟨by rfl, ?_⟩, ?_⟩; (intro x hx'; go_simp; first | done | with_reducible rfl))); (try simp only [Act.put, List.setIfInBounds_toArray, List.set_cons_zero, List.set_cons_succ]))
      refine HP.off ?_
      refine HP.go1 (fun KK hKK => ?_)
      go_simp
      refine hKK.out _ _ hS1 ?_
      intro _
      clear hKK KK
      (try simp only [Act.put, List.setIfInBounds_toArray, List.set_cons_zero, List.set_cons_succ])
      iterate 2 (refine HP.take' ?_; (first | (refine ⟨undef, Or.inr ⟨by rfl, rfl⟩, ?_⟩) | (apply Exists.intro; refine ⟨Or.inl ⟨by rfl, ?_⟩, ?_⟩; (intro x hx'; go_simp; first | done | with_reducible rfl))); (try simp only [Act.put, List.setIfInBounds_toArray, List.set_cons_zero, List.set_cons_succ]))
      refine HP.off ?_
      refine HP.go1 (fun KK hKK => ?_)
      go_simp
      refine hKK.out _ _ hS2 ?_
      intro _
      clear hKK KK
      (try simp only [Act.put, List.setIfInBounds_toArray, List.set_cons_zero, List.set_cons_succ])
      refine HP.end_ ?_
      refine NoPanic.normal ?_
      subst hy0
      clear hS0 hS1 hS2 t0 t1 t2 t3 t4 s0 s1 s2 s3 s4 s5 s6 s7 s8
      go_wp2
      refine bodyPost_ret (v := .tuple #[.agg #[.int .i64 t, .int .i64 r, .slice (some ⟨g, 0, none⟩) q.length cap, .int .i64 W], .int .i64 0]) (by simp [results, Try.results27, go_sem, *]) rfl ⟨_, rfl, (fill_nw ((HNy.out.st HG.out.1 _).st HG.out.1 _) (Nat.le_succ _) _ _ _ _).dr, ?_, ?_⟩
      · have := (fill_own HU.out HG.out.2 (.int .i64 t) (.int .i64 r) (.slice (some ⟨g, 0, none⟩) q.length cap) (.int .i64 W)).rd.nw (Nw.refl _).dr
        exact this
      · exact HU.out.cap
end Go.Proofs.Ytmciiobncfchlaa
end

/- The developers' package queue: a grant; a request more. -/
section
namespace Go.Proofs.Ytmciiobncfchlaa
open Go.RowKit Go.Maps Go.ChangeMaps
set_option linter.unusedVariables false      -- a contract need not use every name

theorem cntQ_set (q : List Rq) (k : Nat) (hk : k < q.length) (R : Rq) : cntQ (q.set k R) = setC (setC (cntQ q) q[k].md (cntQ q q[k].md - 1)) R.md (setC (cntQ q) q[k].md (cntQ q q[k].md - 1) R.md + 1) := by
  have e : q = q.take k ++ q[k] :: q.drop (k + 1) := by rw [← List.drop_eq_getElem_cons hk, List.take_append_drop]
  have hs : q.set k R = q.take k ++ R :: q.drop (k + 1) := by
    have := set_mid (q.take k) (q.drop (k + 1)) q[k] R k (by simp; omega)
    rwa [← e] at this
  have c1 : ∀ x, cntQ (q.set k R) x = ((q.take k).countP fun R => R.md == x : Nat) + ((q.drop (k + 1)).countP fun R => R.md == x : Nat) + (if R.md = x then 1 else 0) := by
    intro x
    unfold cntQ
    rw [hs, List.countP_append, List.countP_cons]
    simp only [beq_iff_eq]
    split <;> omega
  have c2 : ∀ x, cntQ q x = ((q.take k).countP fun R => R.md == x : Nat) + ((q.drop (k + 1)).countP fun R => R.md == x : Nat) + (if q[k].md = x then 1 else 0) := by
    intro x
    have : cntQ q x = cntQ (q.take k ++ q[k] :: q.drop (k + 1)) x := by rw [← e]
    rw [this]
    unfold cntQ
    rw [List.countP_append, List.countP_cons]
    simp only [beq_iff_eq]
    split <;> omega
  funext x
  rw [c1 x]
  unfold setC
  have h2 := c2 x
  have h3 := c2 R.md
  have h4 := c2 q[k].md
  simp only [if_true] at h4
  by_cases a : x = R.md
  · subst a
    rw [if_pos rfl]
    by_cases d : R.md = q[k].md
    · rw [if_pos d, ← d]; rw [← d] at h2; simp only [if_true] at h2 ⊢; omega
    · rw [if_neg d]; rw [if_neg (fun e => d e.symm)] at h2; simp only [if_true]; omega
  · rw [if_neg a, if_neg (fun e => a e.symm)]
    by_cases d : x = q[k].md
    · rw [if_pos d, ← d]; rw [← d] at h2; simp only [if_true] at h2; omega
    · rw [if_neg d]; rw [if_neg (fun e => d e.symm)] at h2; omega
theorem Ln.row {w : World} {g0 p : Nat} {t r W : Int} {v : Value} {b n : Nat} {q q' : List Rq} {c : Int → Int} (h : Ln w g0 p t r W v b n q c) {a : Addr} (ha : v.ownBlock = some a.block) (u : Value) (ho : RqOwn (w.setCell a u) g0 v q') : Ln (w.setCell a u) g0 p t r W v b n q' c :=
  ⟨((sgrown w a u).block p (hlt h.obj) (fun e => h.vp (ha.trans e.symm))).trans h.obj, ho, h.map.kept (sgrown w a u) (fun e => h.vb (ha.trans e.symm)), h.gp, h.gb⟩
set_option maxRecDepth 100000 in
set_option maxHeartbeats 2000000 in
theorem dGrant {w : World} {g0 p g cap b n : Nat} {t r W : Int} {q : List Rq} {c : Int → Int} (h : Ln w g0 p t r W (.slice (some ⟨g, 0, none⟩) q.length cap) b n q c) (k : Nat) (hk : k < q.length) (hkm : knI q[k].md = true) (hkw : knI q[k].wt = true) (hb : ∀ x, 0 ≤ c x ∧ c x ≤ 100000) (hn : n < 900000) (hl : q.length ≤ 1000) :
    Calls Try.prog 75 #[.pointer (some ⟨p, 0, none⟩), .int .i64 k] w fun e w' => e = .returned (.tuple #[]) ∧
      Ln w' g0 p t r W (.slice (some ⟨g, 0, none⟩) q.length cap) b (n + 2) (q.set k (grtR q[k])) (setC (setC c q[k].md (c q[k].md - 1)) q[k].wt (setC c q[k].md (c q[k].md - 1) q[k].wt + 1)) ∧ Tch (fun i => i = b ∨ i = g) w w' := by
  have hbd := hb q[k].md
  have hbd2 : -1 ≤ setC c q[k].md (c q[k].md - 1) q[k].wt ∧ setC c q[k].md (c q[k].md - 1) q[k].wt ≤ 100000 := by
    unfold setC
    have := hb q[k].wt
    split <;> omega
  have hki : (k : Int) < (q.length : Int) := by omega
  have hLd := h.nw (Nw.refl w).drew1
  have hlk := hLd.map.look hkm
  obtain ⟨x, hx⟩ : ∃ x, c q[k].md = x := ⟨_, rfl⟩
  rw [hx] at hlk hbd hbd2 ⊢
  obtain ⟨x1, hx1⟩ : ∃ x1, x - 1 = x1 := ⟨_, rfl⟩
  rw [hx1] at hbd2 ⊢
  have hwx : IntKind.i64.wrap (x - 1) = x1 := by rw [IntKind.wrap_i64]; omega
  obtain ⟨w1, r1, hM1, hG1⟩ := hLd.map.put (by omega) hkm (x := x1) (by omega) (by omega)
  have hL1 := hLd.put hM1 hG1
  -- the row's cells
  have hcs : ∀ (x : World), RqOwn x g0 (.slice (some ⟨g, 0, none⟩) q.length cap) q → ∀ j u, (rqrow q[k])[j]? = some u → x.cell? ⟨g, k * 5 + j, none⟩ = some u := fun x ho j u hu => own_cell ho rfl k hk j u hu
  have hcw := hcs _ h.own
  have hc1 := hcs _ hL1.own
  have hf1 := fun j => own_frz hL1.own rfl j
  have hup := own_upd (own_upd hL1.own rfl k hk 2 (by decide) (.int .i64 q[k].wt) ⟨q[k].id, q[k].txn, q[k].wt, q[k].wt, q[k].sn⟩ rfl) (by rw [List.length_set]) k (by rw [List.length_set]; exact hk) 4 (by decide) (.int .i64 0) (grtR q[k]) (by rw [List.getElem_set_self]; rfl)
  rw [List.set_set] at hup
  have hup1 := own_upd hL1.own rfl k hk 2 (by decide) (.int .i64 q[k].wt) ⟨q[k].id, q[k].txn, q[k].wt, q[k].wt, q[k].sn⟩ rfl
  have hL2' := hL1.row (a := ⟨g, k * 5 + 2, none⟩) rfl (.int .i64 q[k].wt) hup1
  have hL2 := hL2'.row (a := ⟨g, k * 5 + 4, none⟩) rfl (.int .i64 0) hup
  obtain ⟨w2, hw2⟩ : ∃ w2, (w1.setCell ⟨g, k * 5 + 2, none⟩ (.int .i64 q[k].wt)).setCell ⟨g, k * 5 + 4, none⟩ (.int .i64 0) = w2 := ⟨_, rfl⟩
  have hT2 : Tch (fun i => i = b ∨ i = g) w w2 := by
    rw [← hw2]
    exact (((Tch.nw (Nw.refl w).drew1).grown hG1 (fun k hk => .inl (.inl (Option.some.inj hk).symm))).set (p := ⟨g, k * 5 + 2, none⟩) (.inl (.inr rfl)) _).set (p := ⟨g, k * 5 + 4, none⟩) (.inl (.inr rfl)) _
  rw [hw2] at hL2
  have hLd2 := hL2.nw (Nw.refl w2).drew1
  have hlk2 := hLd2.map.look hkw
  obtain ⟨y, hy⟩ : ∃ y, setC c q[k].md x1 q[k].wt = y := ⟨_, rfl⟩
  rw [hy] at hlk2 hbd2 ⊢
  obtain ⟨y1, hy1⟩ : ∃ y1, y + 1 = y1 := ⟨_, rfl⟩
  rw [hy1]
  have hwy : IntKind.i64.wrap (y + 1) = y1 := by rw [IntKind.wrap_i64]; omega
  obtain ⟨w3, r3, hM3, hG3⟩ := hLd2.map.put (by omega) hkw (x := y1) (by omega) (by omega)
  have hL3 := hLd2.put hM3 hG3
  have hT3 : Tch (fun i => i = b ∨ i = g) w w3 := (hT2.drewN 1).grown hG3 (fun k hk => .inl (.inl (Option.some.inj hk).symm))
  have HE := Lib.hid (And.intro hL3 hT3)
  have hpl := hlt h.obj
  have hgl := olt h.own rfl
  have p2 := hcell (j := 2) h.obj
  have p4 := hcell (j := 4) h.obj
  have hpl1 := hlt hL1.obj
  have hgl1 := olt hL1.own rfl
  have p12 := hcell (j := 2) hL1.obj
  have p14 := hcell (j := 4) hL1.obj
  have hpl2 := hlt hL2.obj
  have hgl2 := olt hL2.own rfl
  have p22 := hcell (j := 2) hL2.obj
  have p24 := hcell (j := 4) hL2.obj
  have hc2 := own_cell hL2.own (by rw [List.length_set]) k (by rw [List.length_set]; exact hk) 2 (.int .i64 q[k].wt) (by rw [List.getElem_set_self]; rfl)
  have R1 := Lib.hid r1
  have R3 := Lib.hid r3
  have HW2 := Lib.hid hw2
  have a2 := hcw 2 _ rfl
  have a3 := hcw 3 _ rfl
  have b2 := hc1 2 _ rfl
  have b3 := hc1 3 _ rfl
  have b4 := hc1 4 _ rfl
  clear h hb hLd hx hx1 hbd hbd2 hM1 hG1 hL1 hcs hcw hc1 hup hup1 hL2' hL2 hw2 hT2 hLd2 hy hy1 hM3 hG3 hL3 hT3 r1 r3 hkm hkw hn hl
  generalize q[k] = R at *
  obtain ⟨d0, d1, d2, d3, d4⟩ := R
  simp only at *
  go_enter Try.func75, Try.ntmps75
  go_wp2
  refine wp_region_still_tail 10 (by kernel_rfl) (by kernel_rfl) ?_
  simp only [List.take_succ_cons, List.take_zero, List.drop_succ_cons, List.drop_zero]
  repeat still_step
  try refine wpStill_nil ?_
  change wpList _ _ _ _ _ w.drew
  go_wp2_with (at_mapUpdate; refine wpl_mapUp rfl (.tmp 15) (.tmp 19) (.tmp 21) 72 rfl _ _ _ _ rfl rfl rfl R1.out ?_)
  rw [HW2.out]
  refine wp_region_still_tail 10 (by kernel_rfl) (by kernel_rfl) ?_
  simp only [List.take_succ_cons, List.take_zero, List.drop_succ_cons, List.drop_zero]
  repeat still_step
  try refine wpStill_nil ?_
  change wpList _ _ _ _ _ w2.drew
  go_wp2_with (at_mapUpdate; refine wpl_mapUp rfl (.tmp 35) (.tmp 39) (.tmp 41) 72 rfl _ _ _ _ rfl rfl rfl R3.out ?_)
  exact bodyPost_end (results_none rfl _ _ _) rfl ⟨rfl, HE.out⟩
end Go.Proofs.Ytmciiobncfchlaa
end

/- The developers' package queue: a request more. -/
section
namespace Go.Proofs.Ytmciiobncfchlaa
open Go.RowKit Go.Maps Go.ChangeMaps
set_option linter.unusedVariables false      -- a contract need not use every name

theorem step_app {P : Program} {ops : Array Oper} {o : Oper} {a : Act} {w : World} {K : Act → World → Prop} {Q : Exit → Act → World → Prop} {E : Prop} (hgd : o.guard = none) (s x : Operand) (t : TypeId)
    (ho : o.op = .call { callee := .builtin .append, args := #[s, x], argTypes := #[t, t] }) (v u v' : Value) (w' : World) (hs : a.eval s = v) (hx : a.eval x = u) (hr : (Builtin.append_ #[t, t] o.type #[v, u]).run P w = .ok v' w')
    (h : K (a.put o.dst v') w') : if Region.wanted o (yielded ops a.tmps) = true then Oper.wp P o a w K Q else E := by
  have hw : Region.wanted o (yielded ops a.tmps) = true := by simp [Region.wanted, hgd]
  rw [if_pos hw]
  unfold Oper.wp execOp
  simp only [ho, resolve, invoke, builtin, Sem.run_bind, Sem.run_pure, Result.andThen_ok, List.map_toArray, List.map_cons, List.map_nil, hs, hx, hr]
  exact h
theorem Tch.st {S : Nat → Prop} {a b : World} (h : Tch S a b) {p : Nat} (hp : S p) (j : Nat) (u : Value) : Tch S a (b.setCell ⟨p, j, none⟩ u) := h.set (p := ⟨p, j, none⟩) (.inl hp) u
set_option maxRecDepth 100000 in
set_option maxHeartbeats 4000000 in
theorem dAdd {w : World} {g0 p b n : Nat} {t r W : Int} {v : Value} {q : List Rq} {c : Int → Int} (h : Ln w g0 p t r W v b n q c) (R : Rq) (hkm : knI R.md = true) (hb : ∀ x, 0 ≤ c x ∧ c x ≤ 100000) (hn : n < 900000) (hl : q.length ≤ 1000) :
    Calls Try.prog 41 #[.pointer (some ⟨p, 0, none⟩), rqV R] w fun e w' => e = .returned (.int .i64 q.length) ∧ ∃ v', Ln w' g0 p t r W v' b (n + 1) (q ++ [R]) (setC c R.md (c R.md + 1)) ∧ Below g0 w w' := by
  have hbd := hb R.md
  obtain ⟨d0, d1, d2, d3, d4⟩ := R
  simp only at *
  have g1 : Nw w (w.alloc (.cells #[.int .i64 d0, .int .i64 d1, .int .i64 d2, .int .i64 d3, .int .i64 d4] 41)) := (Nw.refl w).alloc _
  have hq1 := RqB.made w d0 d1 d2 d3 d4 41
  obtain ⟨w1, hw1⟩ : ∃ w1, w.alloc (.cells #[.int .i64 d0, .int .i64 d1, .int .i64 d2, .int .i64 d3, .int .i64 d4] 41) = w1 := ⟨_, rfl⟩
  rw [hw1] at g1 hq1
  have hL1 := h.nw g1
  have g2 : Nw w1 ((w1.alloc (.cells #[.int .i64 d0, .int .i64 d1, .int .i64 d2, .int .i64 d3, .int .i64 d4] 41)).drew) := ((Nw.refl w1).alloc _).drewN 1
  have hbx := RqB.made w1 d0 d1 d2 d3 d4 41
  have hL2 := hL1.nw g2
  have hg2 : g0 ≤ w1.heap.size := by have := hL1.gp; have := hlt hL1.obj; omega
  obtain ⟨v', w3, r3, hO3, hG3, hv3, ⟨g', cap', hv'⟩⟩ := Own.push elemRq hL2.own ⟨d0, d1, d2, d3, d4⟩ w1.heap.size 1 (fun j u hu => (hbx.nw ((Nw.refl _).drewN 1)).cells j u hu) (by omega) (Nat.le_trans hg2 g2.sz)
  have hvp := hL2.vp
  have hvb := hL2.vb
  have ho3 : w3.heap[p]? = some _ := (hG3.block p (hlt hL2.obj) (fun e => hvp e.symm)).trans hL2.obj
  have hM3 := hL2.map.kept hG3 (fun e => hvb e.symm)
  have hb3 := hset (j := 2) v' ho3
  have hp3 : v'.ownBlock ≠ some p := fun e => by
    obtain ⟨cs, hc⟩ := oheap hO3 e
    rw [ho3] at hc
    injection hc with hc
    injection hc with _ hc
    exact absurd hc.symm types_ne
  have hL4 : Ln (w3.setCell ⟨p, 2, none⟩ v') g0 p t r W v' b n (q ++ [⟨d0, d1, d2, d3, d4⟩]) c :=
    ⟨hb3, okeep hO3 (sgrown w3 _ v') (fun g hv e => hp3 (hv.trans e.symm)), hM3.kept (sgrown w3 _ v') (fun e => hL2.bp (Option.some.inj e)), hL2.gp, hL2.gb⟩
  have hB4 : Below g0 w (w3.setCell ⟨p, 2, none⟩ v') := by
    have b2 : Tch (fun i => g0 ≤ i) w ((w1.alloc (.cells #[.int .i64 d0, .int .i64 d1, .int .i64 d2, .int .i64 d3, .int .i64 d4] 41)).drew) := Tch.nw (g1.trans g2)
    have b3 := (b2.grown hG3 (fun k hk => .inl (oge h.own hk))).set (p := ⟨p, 2, none⟩) (.inl h.gp) v'
    exact ⟨b3.os, b3.tape, b3.output, b3.size, fun k hk => b3.block k (by have := h.gp; have := hlt h.obj; omega) (by omega)⟩
  obtain ⟨w4, hw4⟩ : ∃ w4, w3.setCell ⟨p, 2, none⟩ v' = w4 := ⟨_, rfl⟩
  rw [hw4] at hL4 hB4
  have hlk := (hL4.map.nw (Nw.refl w4).drew1).look hkm
  obtain ⟨x, hx⟩ : ∃ x, c d2 = x := ⟨_, rfl⟩
  rw [hx] at hlk hbd ⊢
  obtain ⟨x1, hx1⟩ : ∃ x1, x + 1 = x1 := ⟨_, rfl⟩
  rw [hx1]
  have hwx : IntKind.i64.wrap (x + 1) = x1 := by rw [IntKind.wrap_i64]; omega
  obtain ⟨w5, r5, hM5, hG5⟩ := (hL4.map.nw (Nw.refl w4).drew1).put (by omega) hkm (x := x1) (by omega) (by omega)
  have hL5 := (hL4.nw (Nw.refl w4).drew1).put hM5 hG5
  have hB5 : Below g0 w w5 := by
    have b3 : Tch (fun i => g0 ≤ i) w w5 := (((⟨hB4.os, hB4.tape, hB4.output, hB4.size, fun k _ hk => hB4.block k (by omega)⟩ : Tch (fun i => g0 ≤ i) w w4)).drewN 1).grown hG5 (fun k hk => .inl (by rw [← Option.some.inj hk]; exact h.gb))
    exact ⟨b3.os, b3.tape, b3.output, b3.size, fun k hk => b3.block k (by have := h.gp; have := hlt h.obj; omega) (by omega)⟩
  have HE := Lib.hid (And.intro hL5 hB5)
  have hwq : IntKind.i64.wrap (q.length : Int) = (q.length : Int) := by rw [IntKind.wrap_i64]; omega
  have hwq2 : wrap64 (q.length : Int) = (q.length : Int) := by unfold wrap64; omega
  obtain ⟨a0, c0, hvf⟩ := (RqOwn.rd hL1.own).form
  have hpl1 := hlt hL1.obj
  have p12 := hcell (j := 2) hL1.obj
  have hpl4 := hlt hL4.obj
  have p44 := hcell (j := 4) hL4.obj
  have hpl5 := hlt hL5.obj
  have p52 := hcell (j := 2) hL5.obj
  obtain ⟨hlq1, y0, y1, y2, y3, y4⟩ := hq1
  have hB34 : w4.cell? ⟨w.heap.size, 2, none⟩ = some (.int .i64 d2) := by
    have hne : w.heap.size ≠ p := fun e => by have := hlt h.obj; omega
    have hnv : v.ownBlock ≠ some w.heap.size := fun e => by have := olt h.own e; omega
    have e3 : w3.heap[w.heap.size]? = w1.heap[w.heap.size]? := (hG3.block _ (Nat.lt_of_lt_of_le hlq1 g2.sz) (fun e => hnv e.symm)).trans (g2.block _ hlq1)
    have e4 : w4.heap[w.heap.size]? = w1.heap[w.heap.size]? := by
      rw [← hw4]
      exact ((sgrown w3 ⟨p, 2, none⟩ v').block _ (Nat.lt_of_lt_of_le hlq1 (Nat.le_trans g2.sz hG3.size)) (fun e => hne (Option.some.inj e))).trans e3
    exact (World.cell?_of_block e4).trans y2
  have hB34l : w.heap.size < w4.heap.size := World.block_lt_of_cell? _ _ hB34
  have R3 := Lib.hid r3
  have R5 := Lib.hid r5
  have HW1 := Lib.hid hw1
  have HW4 := Lib.hid hw4
  have hc3 := hcell (j := 2) ho3
  have hf3 := hfz (j := 2) ho3
  subst hvf hv'
  clear h hb hL1 g1 g2 hbx hL2 hg2 hO3 hG3 hv3 hvp hvb ho3 hM3 hb3 hp3 hL4 hB4 hx hx1 hbd hM5 hG5 hL5 hB5 r3 r5 hw1 hw4 hkm hn hl
  unfold rqV
  go_enter Try.func41, Try.ntmps41
  go_wp2
  rw [HW1.out]
  go_region_law (refine step_app rfl (.tmp 10) (.tmp 12) 25 rfl _ _ _ _ rfl rfl R3.out ?_)
  all_goals
    go_wp2
    rw [HW4.out]
    refine wp_region_still_tail 8 (by kernel_rfl) (by kernel_rfl) ?_
    simp only [List.take_succ_cons, List.take_zero, List.drop_succ_cons, List.drop_zero]
    repeat still_step
    try refine wpStill_nil ?_
    change wpList _ _ _ _ _ w4.drew
    go_wp2_with (at_mapUpdate; refine wpl_mapUp rfl (.tmp 20) (.tmp 22) (.tmp 24) 72 rfl _ _ _ _ rfl rfl rfl R5.out ?_)
    go_ret
    exact ⟨rfl, _, HE.out⟩
end Go.Proofs.Ytmciiobncfchlaa
end

/- The developers' package queue: enter. -/
section
namespace Go.Proofs.Ytmciiobncfchlaa
open Go.RowKit Go.Maps Go.ChangeMaps
set_option linter.unusedVariables false      -- a contract need not use every name

def enR (R : Rq) (W : Int) : Rq := ⟨R.id, R.txn, R.md, R.wt, W + 1⟩
def ahB (q : List Rq) (R : Rq) : Bool := q.any fun X => decide (0 < X.sn) && decide (toI X R < 0)
theorem cntQ_same (q : List Rq) (k : Nat) (hk : k < q.length) (R : Rq) (hm : R.md = q[k].md) : cntQ (q.set k R) = cntQ q := by
  rw [cntQ_set q k hk R]
  funext x
  unfold setC
  rw [hm]
  by_cases e : x = q[k].md
  · rw [if_pos e, if_pos rfl, e]; omega
  · rw [if_neg e, if_neg e]
theorem Ln.eq {w : World} {g0 p : Nat} {t r W : Int} {v : Value} {b n : Nat} {q : List Rq} {c c' : Int → Int} (h : Ln w g0 p t r W v b n q c) (e : c = c') : Ln w g0 p t r W v b n q c' := e ▸ h
theorem Ln.wts {w : World} {g0 p : Nat} {t r W : Int} {v : Value} {b n : Nat} {q : List Rq} {c : Int → Int} (h : Ln w g0 p t r W v b n q c) (W' : Int) : Ln (w.setCell ⟨p, 3, none⟩ (.int .i64 W')) g0 p t r W' v b n q c :=
  ⟨hset (j := 3) _ h.obj, okeep h.own (sgrown w _ _) (fun g hv e => h.vp (hv.trans e.symm)), h.map.kept (sgrown w _ _) (fun e => h.bp (Option.some.inj e)), h.gp, h.gb⟩
theorem below_st {g0 : Nat} {w w' : World} (h : Below g0 w w') {p : Nat} (hp : g0 ≤ p) (j : Nat) (u : Value) : Below g0 w (w'.setCell ⟨p, j, none⟩ u) := Below.setCell h hp u
set_option maxRecDepth 100000 in
set_option maxHeartbeats 4000000 in
theorem dEnter {w : World} {g0 p b n : Nat} {t r W : Int} {v : Value} {q : List Rq} (h : Ln w g0 p t r W v b n q (cntQ q)) (k : Nat) (hk : k < q.length) (hW : 0 ≤ W ∧ W ≤ 4611686018427387904) (hkn : ∀ R ∈ q, knI R.md = true) (hkw : knI q[k].wt = true) (hn : n < 800000) (hl : q.length ≤ 1000)
    (B1 B2 : Bool) (hB1 : fitB (cntQ q) q[k].md q[k].wt = B1) (hB2 : ahB (q.set k (enR q[k] W)) (enR q[k] W) = B2) :
    Calls Try.prog 40 #[.pointer (some ⟨p, 0, none⟩), .int .i64 k] w fun e w' => e = .returned (.bool (B1 && !B2)) ∧ Below g0 w w' ∧ ∃ n', n' ≤ n + 2 ∧
      (if (B1 && !B2) = true then Ln w' g0 p t r W v b n' (q.set k ⟨q[k].id, q[k].txn, q[k].wt, q[k].wt, 0⟩) (cntQ (q.set k ⟨q[k].id, q[k].txn, q[k].wt, q[k].wt, 0⟩)) else Ln w' g0 p t r (W + 1) v b n' (q.set k (enR q[k] W)) (cntQ (q.set k (enR q[k] W)))) := by
  obtain ⟨g, cap, rfl, hg0, hgl, hce⟩ := RqOwn.at h.own hk
  have hki : (k : Int) < (q.length : Int) := by omega
  have hf0 := fun j => own_frz h.own rfl j
  have hup1 := own_upd h.own rfl k hk 4 (by decide) (.int .i64 (W + 1)) (enR q[k] W) rfl
  have hL1 := (h.row (a := ⟨g, k * 5 + 4, none⟩) rfl (.int .i64 (W + 1)) hup1).eq (cntQ_same q k hk (enR q[k] W) rfl).symm
  obtain ⟨w1, hw1⟩ : ∃ w1, w.setCell ⟨g, k * 5 + 4, none⟩ (.int .i64 (W + 1)) = w1 := ⟨_, rfl⟩
  have hb1 : Below g0 w w1 := by
    have b3 := (Tch.refl (fun i => g0 ≤ i) w).set (p := ⟨g, k * 5 + 4, none⟩) (.inl hg0) (.int .i64 (W + 1))
    rw [hw1] at b3
    exact ⟨b3.os, b3.tape, b3.output, b3.size, fun k hk => b3.block k (by have := h.gp; have := hlt h.obj; omega) (by omega)⟩
  rw [hw1] at hL1
  have hlen1 : (q.set k (enR q[k] W)).length = q.length := by simp
  obtain ⟨q1, hq1⟩ : ∃ q1, q.set k (enR q[k] W) = q1 := ⟨_, rfl⟩
  rw [hq1] at hL1 hB2 hlen1 ⊢
  have hk1 : k < q1.length := by omega
  have hq1k : q1[k] = enR q[k] W := by subst hq1; simp
  have hcnt : cntQ q1 = cntQ q := by rw [← hq1]; exact cntQ_same q k hk _ rfl
  have hmd : knI q[k].md = true := hkn _ (List.getElem_mem hk)
  have hset : q1.set k ⟨q[k].id, q[k].txn, q[k].wt, q[k].wt, 0⟩ = q.set k ⟨q[k].id, q[k].txn, q[k].wt, q[k].wt, 0⟩ := by rw [← hq1, List.set_set]
  have hmin : min W 9223372036854775806 = W := by omega
  have hwW : IntKind.i64.wrap (W + 1) = W + 1 := by rw [IntKind.wrap_i64]; omega
  have e2 := hce 2 _ rfl
  have e3 := hce 3 _ rfl
  have e4 := hce 4 _ rfl
  have hpl := hlt h.obj
  have p2 := hcell (j := 2) h.obj
  have p3 := hcell (j := 3) h.obj
  have HW1 := Lib.hid hw1
  have hc1 : ∀ j u, (rqrow (enR q[k] W))[j]? = some u → w1.cell? ⟨g, k * 5 + j, none⟩ = some u := fun j u hu => own_cell hL1.own hlen1.symm k hk1 j u (by rw [hq1k]; exact hu)
  have hpl1 := hlt hL1.obj
  have hgl1 := olt hL1.own rfl
  have s0 : ∀ x, Nw w1 x → x.cell? ⟨g, k * 5, none⟩ = some (.int .i64 q[k].id) := fun x hx => hx.kp (hc1 0 _ rfl)
  have s1 : ∀ x, Nw w1 x → x.cell? ⟨g, k * 5 + 1, none⟩ = some (.int .i64 q[k].txn) := fun x hx => hx.kp (hc1 1 _ rfl)
  have s2 : ∀ x, Nw w1 x → x.cell? ⟨g, k * 5 + 2, none⟩ = some (.int .i64 q[k].md) := fun x hx => hx.kp (hc1 2 _ rfl)
  have s3 : ∀ x, Nw w1 x → x.cell? ⟨g, k * 5 + 3, none⟩ = some (.int .i64 q[k].wt) := fun x hx => hx.kp (hc1 3 _ rfl)
  have s4 : ∀ x, Nw w1 x → x.cell? ⟨g, k * 5 + 4, none⟩ = some (.int .i64 (W + 1)) := fun x hx => hx.kp (hc1 4 _ rfl)
  have s5 : ∀ x, Nw w1 x → x.cell? ⟨p, 2, none⟩ = some (.slice (some ⟨g, 0, none⟩) q.length cap) := fun x hx => hx.kp (hcell (j := 2) hL1.obj)
  have HFt := Lib.hid (fun (x : World) (hx : Nw w1 x) => by
    have hLx := hL1.nw hx
    have := dFits p b n (cntQ q1) q[k].md q[k].wt _ _ _ _ _ x hLx.obj hLx.map (fun y => by have := cntQ_bd q1 y; omega) hkw
    rw [hcnt, hB1] at this
    exact this)
  have HAh := Lib.hid (dAheadOf (enR q[k] W))
  have HCo := Lib.hid (fun (x : World) (hx : Nw w1 x) (f : Value) (hf : Tells x f (fun X => decide (0 < X.sn) && decide (toI X (enR q[k] W) < 0))) => by
    have hLx := hL1.nw hx
    have := dContains _ f _ q1 x (by omega) (RqOwn.rd hLx.own) hf
    rw [show (q1.any fun X => decide (0 < X.sn) && decide (toI X (enR q[k] W) < 0)) = B2 from hB2] at this
    exact this)
  have HGr := Lib.hid (fun (x : World) (hx : Nw w1 x) => by
    have hLx : Ln x g0 p t r W (.slice (some ⟨g, 0, none⟩) q1.length cap) b n q1 (cntQ q1) := by rw [hlen1]; exact hL1.nw hx
    have := dGrant hLx k hk1 (by rw [hq1k]; exact hmd) (by rw [hq1k]; exact hkw) (fun y => by have := cntQ_bd q1 y; omega) (by omega) (by omega)
    rw [hlen1, show grtR q1[k] = ⟨q[k].id, q[k].txn, q[k].wt, q[k].wt, 0⟩ by rw [hq1k]; rfl] at this
    refine this.mono (R' := fun e w' => e = .returned (.tuple #[]) ∧ Ln w' g0 p t r W (.slice (some ⟨g, 0, none⟩) q.length cap) b (n + 2) (q.set k ⟨q[k].id, q[k].txn, q[k].wt, q[k].wt, 0⟩) (cntQ (q.set k ⟨q[k].id, q[k].txn, q[k].wt, q[k].wt, 0⟩)) ∧ Below g0 w w') ?_
    rintro e w' ⟨h1, h2, h3⟩
    rw [hset] at h2
    refine ⟨h1, h2.eq ?_, ?_⟩
    · rw [← hset, cntQ_set q1 k hk1]
      rw [hq1k]; rfl
    · have b3 : Tch (fun i => g0 ≤ i) w w' := ((⟨hb1.os, hb1.tape, hb1.output, hb1.size, fun k _ hk => hb1.block k (by omega)⟩ : Tch (fun i => g0 ≤ i) w w1).trans (Tch.nw hx)).trans' h3 (fun i _ hi => by rcases hi with rfl | rfl; exact h.gb; exact hg0)
      exact ⟨b3.os, b3.tape, b3.output, b3.size, fun k hk => b3.block k (by have := h.gp; have := hlt h.obj; omega) (by omega)⟩)
  have HL1 := Lib.hid (And.intro hL1 hb1)
  have HG := Lib.hid (And.intro h.gp hg0)
  have f3 := hfz (j := 3) hL1.obj
  clear hcnt hmd hset hkn hkw hn hB1 hB2 hq1 hq1k hlen1 hk1 hL1 hb1 hup1 hw1 hc1 hW hce h
  generalize q[k] = R at *
  obtain ⟨d0, d1, d2, d3, d4⟩ := R
  simp only [enR] at *
  unfold rqV at HAh
  go_enter Try.func40, Try.ntmps40
  go_wp2
  rw [HW1.out]
  have g1 := (Nw.refl w1).drew1
  cases B1 <;> cases B2
  all_goals
   refine region_told [some true, some true, some true, some true, some true, some true, some true, some true, some true, some false, none, some true, some true, some true, some true, some true, some true, some true, some true, some true, some false, none, some false, none, some true, some true] (Nw w1) (by kernel_rfl) (by kernel_rfl) (by kernel_rfl) g1 ?_
   obtain ⟨wc, hwc⟩ : ∃ wc, w1.drew = wc := ⟨_, rfl⟩
   rw [hwc] at g1 ⊢
   clear hwc
   repeat (first
    | (refine HW.off ?_)
    | (refine HW.take' ?_; (first | (refine ⟨undef, Or.inr ⟨by rfl, rfl⟩, ?_⟩) | (apply Exists.intro; refine ⟨Or.inl ⟨by rfl, ?_⟩, ?_⟩; (intro x hx; go_simp; first | done | with_reducible rfl))); (try simp only [Act.put, List.setIfInBounds_toArray, List.set_cons_zero, List.set_cons_succ]))
    | (refine HW.go (fun K hK => ?_); go_simp; (first
      | (go_at_call 73; (with_reducible refine (HFt.out _ g1).mono ?_); rintro e wy ⟨rfl, g2⟩; refine hK.out _ _ (g1.trans g2) ?_; intro _; replace g1 := g1.trans g2; clear hK K g2)
      | (go_at_call 50; (with_reducible refine (HAh.out _).mono ?_); rintro e wy ⟨pa, rfl, g2, hbx⟩; refine hK.out _ _ (g1.trans g2) ?_; intro _; replace g1 := g1.trans g2; clear hK K g2; replace hbx := Tells.ahead (S := ⟨d0, d1, d2, d3, W + 1⟩) hbx)
      | (go_at_call 74; (with_reducible refine (HCo.out _ g1 _ hbx).mono ?_); rintro e wy ⟨rfl, g2⟩; refine hK.out _ _ (g1.trans g2) ?_; intro _; replace g1 := g1.trans g2; clear hK K g2 hbx)
      | (refine hK.out _ _ g1 ?_; intro _; clear hK K))))
   refine HW.end_ ?_
   refine NoPanic.normal ?_
   replace HL1 := Lib.hid (And.intro (HL1.out.1.nw g1) (Nw.below (B := g0) HL1.out.2 g1 (by have := HG.out.1; omega)))
   have s0' := s0 _ g1
   have s4' := s4 _ g1
   have s5' := s5 _ g1
   have hpl2 := hlt HL1.out.1.obj
   have hgl2 := olt HL1.out.1.own rfl
   have f3' := hfz (j := 3) HL1.out.1.obj
   have p3' := hcell (j := 3) HL1.out.1.obj
   clear s0 s1 s2 s3 s4 s5 f3 hf0 p2 p3 hpl hpl1 hgl1 HW1 hmin hwW HFt HAh HCo hgl
  · go_wp2
    go_ret
    exact ⟨rfl, below_st HL1.out.2 HG.out.1 3 _, n, by omega, HL1.out.1.wts _⟩
  · go_wp2
    go_ret
    exact ⟨rfl, below_st HL1.out.2 HG.out.1 3 _, n, by omega, HL1.out.1.wts _⟩
  · go_wp2_with (go_at_call 75; (with_reducible refine (HGr.out _ g1).mono ?_); rintro e wz ⟨rfl, hLz, hBz⟩)
    go_ret
    exact ⟨rfl, hBz, _, Nat.le_refl _, hLz⟩
  · go_wp2
    go_ret
    exact ⟨rfl, below_st HL1.out.2 HG.out.1 3 _, n, by omega, HL1.out.1.wts _⟩
end Go.Proofs.Ytmciiobncfchlaa
end

/- The document's own queue: Hand. -/
section
namespace Go.Proofs.Ytmciiobncfchlaa
open Go.RowKit
set_option linter.unusedVariables false      -- a contract need not use every name

theorem id_ne {W : Int} {q : List Rq} (h : Ok W q) {m k : Nat} (hm : m < q.length) (hk : k < q.length) (ne : m ≠ k) : q[m].id ≠ q[k].id := by
  rcases Nat.lt_or_gt_of_ne ne with g | g
  · exact (List.pairwise_iff_getElem.1 h.pr m k hm hk g).id
  · exact fun e => (List.pairwise_iff_getElem.1 h.pr k m hk hm g).id e.symm
theorem hn_hit {W : Int} {q : List Rq} {id x : Int} {m k : Nat} (h : Ok W q) (hk : k < q.length) (hf : fnd q id = some q[k]) (hm : m < q.length) (ne : m ≠ k) (e : q[m].txn = x) : (q.any fun o => !(o.id == id) && o.txn == x) = true := by
  have := id_ne h hm hk ne
  rw [(fnd_is hf).2] at this
  exact List.any_eq_true.2 ⟨q[m], List.getElem_mem hm, by simp [this, e]⟩
theorem hn_none {q : List Rq} {id x : Int} {k : Nat} (hk : k < q.length) (hf : fnd q id = some q[k]) (h : ∀ m (hm : m < q.length), m ≠ k → q[m].txn ≠ x) : (q.any fun o => !(o.id == id) && o.txn == x) = false := by
  rw [List.any_eq_false]
  intro a ha
  obtain ⟨m, hm, rfl⟩ := List.getElem_of_mem ha
  by_cases e : m = k
  · subst e; simp [(fnd_is hf).2]
  · simp [h m hm e]
theorem hn_at {W : Int} {q : List Rq} {id x : Int} {k : Nat} (h : Ok W q) (hk : k < q.length) (hf : fnd q id = some q[k]) : chg (fun r => ⟨r.id, x, r.md, r.wt, r.sn⟩) id q = q.set k ⟨q[k].id, x, q[k].md, q[k].wt, q[k].sn⟩ := by
  rw [← chg_set h (fun r => ⟨r.id, x, r.md, r.wt, r.sn⟩) k hk, (fnd_is hf).2]
end Go.Proofs.Ytmciiobncfchlaa
end
