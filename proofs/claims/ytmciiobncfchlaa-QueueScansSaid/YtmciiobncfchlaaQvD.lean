
/- The developers' package queue: how many hold each mode: a map of counts; fits. -/
import Derived.Test.YtmciiobncfchlaaQvB
import Derived.Test.YtmciiobncfchlaaQvC
import Derived.Maps.OwnSet
import Derived.Maps.RangeWalk
namespace Go.Proofs.Ytmciiobncfchlaa
open Go.RowKit Go.Maps Go.ChangeMaps
set_option linter.unusedVariables false      -- a contract need not use every name

theorem lawM : Keyed Try.prog 32 := int_keyed Try.underlying32
theorem wfM {k : Int} (h0 : -9223372036854775808 ≤ k) (h1 : k ≤ 9223372036854775807) : (Lit.int .i64 k).wf = true := WalkArith.wf_i64 (by omega)
theorem keyM {k : Int} (h : knI k = true) : keyOf Try.prog 32 (.int .i64 k) = some (.int .i64 k) := by
  have := (knI_iff k).1 h
  exact keyOf_int_mk Try.underlying32 (wfM (by omega) (by omega))
theorem isKeyM {k : Int} (h : knI k = true) : WideAt.IsKeyLit (.int .i64 k) := lawM.key (keyM h)
theorem zeroI (w : World) : (zeroValue 3).run Try.prog w = .ok (.int .i64 0) w := by kernel_rfl
/-- The map in block b holds these counts. -/
def HeldC (w : World) (b n : Nat) (c : Int → Int) : Prop :=
  ∃ D : DataW Unit, w.ownsMap Try.prog 32 (plainElem Try.prog 3) b n D ∧ (∀ k, D.atKey (.int .i64 k) (.lit (.int .i64 0)) = .lit (.int .i64 (c k))) ∧ ∀ k, Maps.has D (.int .i64 k) = true → knI k = true
def setC (c : Int → Int) (k x : Int) : Int → Int := fun y => if y = k then x else c y
section
variable {w w' : World} {b n : Nat} {c : Int → Int}
theorem HeldC.kept {row : Option Nat} (h : HeldC w b n c) (hg : w.grownBy w' row) (hne : some b ≠ row) : HeldC w' b n c := by
  obtain ⟨D, h1, h2, h3⟩ := h
  exact ⟨D, h1.kept hg hne, h2, h3⟩
theorem HeldC.nw (h : HeldC w b n c) (g : Nw w w') : HeldC w' b n c := h.kept (g.grownBy none) (by simp)
theorem HeldC.lt (h : HeldC w b n c) : b < w.heap.size := by obtain ⟨D, h1, _⟩ := h; exact h1.lt
theorem HeldC.obj (h : HeldC w b n c) : ∃ es k, w.heap[b]? = some (.map es k) := by obtain ⟨D, ⟨es, k, h, _⟩, _⟩ := h; exact ⟨es, k, h⟩
theorem HeldC.made (w : World) : HeldC (w.alloc (.map #[] 0)) w.heap.size 0 (fun _ => 0) :=
  ⟨_, World.ownsMap_made _ _ _ _, fun k => atKey_of_not_has rfl _, fun k h => by cases h⟩
set_option maxRecDepth 100000 in
theorem HeldC.look (h : HeldC w b n c) {k : Int} (hk : knI k = true) : (Instr.lookup 72 (.map (some b)) (.int .i64 k) false).run Try.prog w = .ok (.int .i64 (c k)) w := by
  obtain ⟨D, o, h2, h3⟩ := h
  obtain ⟨x, hrun, hat, _⟩ := o.lookup_int (t := 72) lawM Try.underlying72 Try.underlying3 (zeroI w) (keyM hk)
  rw [h2 k] at hat
  injection hat with hat
  injection hat with _ hat
  rw [hat]; exact hrun
theorem litM_ne {a b : Int} (h : a ≠ b) : (Lit.int .i64 a) ≠ .int .i64 b := fun e => h (by injection e)
set_option maxRecDepth 100000 in
theorem HeldC.put (h : HeldC w b n c) (hn : n < 1000000) {k x : Int} (hk : knI k = true) (h0 : -100 ≤ x) (h1 : x ≤ 1000000) :
    ∃ w', (Instr.mapUpdate 72 (.map (some b)) (.int .i64 k) (.int .i64 x)).run Try.prog w = .ok () w' ∧ HeldC w' b (n + 1) (setC c k x) ∧ w.grownBy w' (some b) := by
  obtain ⟨D, o, h2, h3⟩ := h
  have hw : (Lit.int .i64 x).wf = true := wfM (by omega) (by omega)
  obtain ⟨w', hr, o', hg⟩ := o.update (t := 72) lawM Try.underlying72 (by unfold maxLen; omega) (keyM hk) (plainElem_int Try.underlying3 hw)
  refine ⟨w', hr, ⟨_, o', fun y => ?_, fun y hy => ?_⟩, hg⟩
  · unfold setC
    by_cases q : y = k
    · subst q
      rw [if_pos rfl, atKey_put_same o.isMap (isKeyM hk)]
    · rw [if_neg q, atKey_put_other (litM_ne q), h2 y]
  · by_cases q : y = k
    · rw [q]; exact hk
    · rw [has_put_other (litM_ne q)] at hy
      exact h3 y hy
end
theorem dCp (a b : Int) (w : World) (ha : knI a = true) (hb : knI b = true) : Calls Try.prog 51 #[.int .i64 a, .int .i64 b] w fun e w' => e = .returned (.bool (cpI a b)) ∧ Nw w w' := by
  have h1 := (knI_iff a).1 ha
  have h2 := (knI_iff b).1 hb
  rw [cp_kn a b ha hb]
  exact cmp_in a b w h1.1 h1.2 h2.1 h2.2

/-- Does a mode fit beside the counts, but one that has own? -/
def okK (c : Int → Int) (own m k : Int) : Bool := decide (c k - (if k = own then 1 else 0) ≤ 0) || cpI k m
def fitB (c : Int → Int) (own m : Int) : Bool := (List.range 7).all fun k => okK c own m k
theorem fitB_iff (c : Int → Int) (own m : Int) : fitB c own m = true ↔ ∀ k, knI k = true → okK c own m k = true := by
  unfold fitB
  rw [List.all_eq_true]
  constructor
  · intro h k hk
    obtain ⟨h0, h7⟩ := (knI_iff k).1 hk
    obtain ⟨j, rfl⟩ := Int.eq_ofNat_of_zero_le h0
    exact h j (by simp; omega)
  · intro h j hj
    simp at hj
    exact h j ((knI_iff _).2 ⟨by omega, by omega⟩)
theorem same_int (a b : Int) : (Lit.int .i64 a).sameKey (.int .i64 b) = (a == b) := by
  simp [Lit.sameKey]
  rfl
set_option maxRecDepth 100000 in
set_option maxHeartbeats 400000 in
theorem dFits (p b n : Nat) (c : Int → Int) (own m : Int) (u0 u1 u2 u3 : Value) (fr : Nat × Nat) (w : World) (hp : w.heap[p]? = some (.cells #[u0, u1, u2, u3, .map (some b)] 74 fr)) (hc : HeldC w b n c) (hb : ∀ k, 0 ≤ c k ∧ c k ≤ 100000) (hm : knI m = true) :
    Calls Try.prog 73 #[.pointer (some ⟨p, 0, none⟩), .int .i64 own, .int .i64 m] w fun e w' => e = .returned (.bool (fitB c own m)) ∧ Nw w w' := by
  obtain ⟨D, hown, hD, hK⟩ := hc
  have hc4 := hcell (j := 4) hp
  have hpl := hlt hp
  clear hp
  obtain ⟨V, hV⟩ : ∃ V, fitB c own m = V := ⟨_, rfl⟩
  rw [hV]
  have HV := Lib.hid hV
  have HD := Lib.hid hD
  have HK := Lib.hid hK
  have HB := Lib.hid hb
  clear hV hD hK hb
  go_enter Try.func73, Try.ntmps73
  go_wp2_with (first
    | (at_range; refine wpList_range_own _ rfl _ 72 rfl 32 3 lawM Try.underlying72 _ b n _ rfl hown ?_; intro w0 hrg0 hg0 hs0)
    | go_in)
  go_frame
  go_loopw [7] (fun _ wr => ∃ (left : Lit → Bool) (cnt : Nat), wr.ranges Try.prog 32 (plainElem Try.prog 3) b w.heap.size n D left cnt ∧ (∀ k, left (.int .i64 k) = false → Maps.has D (.int .i64 k) = true → okK c own m k = true) ∧ Nw w wr)
    (fun _ wr => wr.rangeLeft b w.heap.size)
  case atStart => exact ⟨_, _, hrg0, (fun k h1 h2 => by rw [h1] at h2; cases h2), ⟨hg0.os, hg0.tape, hg0.output, hg0.size, fun i hi => hg0.block i hi (by simp)⟩⟩
  case round =>
    obtain ⟨left, cnt, hrg, hI, hN⟩ := hrel
    have HI := Lib.hid hI
    have HN := Lib.hid hN
    clear hI hN
    go_wp2_with (first
      | (at_next; refine wpList_next_ranges_ii _ rfl _ rfl 32 3 .i64 .i64 lawM Try.underlying32 Try.underlying3 b w.heap.size n _ _ _ rfl hrg ?_ ?_)
      | go_in)
    · -- nothing is left
      intro _ hl0
      have e : V = true := by
        rw [← HV.out, fitB_iff]
        intro k hk
        cases hh : Maps.has D (.int .i64 k) with
        | true => exact HI.out k (hl0 _) hh
        | false =>
          have := HD.out k
          rw [atKey_of_not_has hh] at this
          injection this with this
          injection this with _ this
          unfold okK
          rw [← this]
          have : decide ((0 : Int) - (if k = own then 1 else 0) ≤ 0) = true := by
            rw [decide_eq_true_iff]; split <;> omega
          rw [this]; rfl
      subst e
      go_wp2
      go_ret
      exact ⟨rfl, HN.out⟩
    · intro x y w1 cnt1 hwx hwc hlx hat hrg1 hlt hg1 hs1 hen
      have hxk : y = c x := by
        have h1 := hat (.lit (.int .i64 0))
        rw [HD.out x] at h1
        injection h1 with h1
        injection h1 with _ h1
        exact h1.symm
      have hx : knI x = true := by
        refine HK.out x ?_
        cases hh : Maps.has D (.int .i64 x) with
        | true => rfl
        | false =>
          have h1 := hat (.lit (.int .i64 (y + 1)))
          rw [atKey_of_not_has hh] at h1
          injection h1 with h1
          injection h1 with _ h1
          omega
      subst hxk
      have hbx := HB.out x
      have hG1 : Nw w w1 := HN.out.gro hg1 (fun k hk => by rw [← Option.some.inj hk]; exact Nat.le_refl _)
      have HG1 := Lib.hid hG1
      have HI1 : Hid (okK c own m x = true → ∀ k, (fun z : Lit => left z && !z.sameKey (.int .i64 x)) (.int .i64 k) = false → Maps.has D (.int .i64 k) = true → okK c own m k = true) := Lib.hid fun hok k hl hh => by
        by_cases q : k = x
        · rw [q]; exact hok
        · refine HI.out k ?_ hh
          have e : (k == x) = false := by simpa using q
          simpa [same_int, e] using hl
      have HC := Lib.hid (fun w => dCp x m w hx hm)
      have HF : Hid (okK c own m x = false → V = false) := Lib.hid fun e => by
        rw [← HV.out]
        cases h : fitB c own m with
        | false => rfl
        | true => rw [(fitB_iff c own m).1 h x hx] at e; cases e
      unfold okK at HI1 HF
      simp only at HI1
      generalize c x = y at *
      generalize cpI x m = z at *
      have HRG := Lib.hid (And.intro hrg hrg1)
      clear hrg hrg1 hg1 hat hlx hwx hwc hs1 hx hG1 hown hrg0 hg0 hs0
      by_cases hxo : x = own
      · have dx : (x == own) = true := by simpa using hxo
        obtain ⟨t, ht⟩ : ∃ t, y - 1 = t := ⟨_, rfl⟩
        have hw : IntKind.i64.wrap (y - 1) = t := by rw [IntKind.wrap_i64]; omega
        by_cases hp0 : 0 < t
        · have dp : decide (0 < t) = true := by simpa using hp0
          cases z
          · obtain rfl : V = false := HF.out (by simp [hxo]; omega)
            clear HI1 HF hp0 ht hxo hbx
            go_wp2_with (go_at_call 51; refine (HC.out _).mono ?_; rintro e w2 ⟨rfl, g2⟩)
            go_ret
            exact ⟨rfl, HG1.out.trans g2⟩
          · have HI2 := Lib.hid (HI1.out (by simp))
            clear HI1 HF hp0 ht hxo hbx
            go_wp2_with (go_at_call 51; refine (HC.out _).mono ?_; rintro e w2 ⟨rfl, g2⟩)
            have hrg2 := HRG.out.2.kept (g2.grownBy none) (by simp) (by simp)
            go_roundw
            case rel => exact ⟨_, cnt1, hrg2, HI2.out, HG1.out.trans g2⟩
            case measure => rw [hrg2.left_eq, HRG.out.1.left_eq]; omega
        · have dp : decide (0 < t) = false := by simpa using hp0
          have HI2 := Lib.hid (HI1.out (by simp [hxo]; omega))
          clear HI1 HF hp0 ht hxo hbx
          go_wp2
          go_roundw
          case rel => exact ⟨_, cnt1, HRG.out.2, HI2.out, HG1.out⟩
          case measure => rw [HRG.out.2.left_eq, HRG.out.1.left_eq]; omega
      · have dx : (x == own) = false := by simpa using hxo
        by_cases hp0 : 0 < y
        · have dp : decide (0 < y) = true := by simpa using hp0
          cases z
          · obtain rfl : V = false := HF.out (by simp [hxo]; omega)
            clear HI1 HF hp0 hxo hbx
            go_wp2_with (go_at_call 51; refine (HC.out _).mono ?_; rintro e w2 ⟨rfl, g2⟩)
            go_ret
            exact ⟨rfl, HG1.out.trans g2⟩
          · have HI2 := Lib.hid (HI1.out (by simp))
            clear HI1 HF hp0 hxo hbx
            go_wp2_with (go_at_call 51; refine (HC.out _).mono ?_; rintro e w2 ⟨rfl, g2⟩)
            have hrg2 := HRG.out.2.kept (g2.grownBy none) (by simp) (by simp)
            go_roundw
            case rel => exact ⟨_, cnt1, hrg2, HI2.out, HG1.out.trans g2⟩
            case measure => rw [hrg2.left_eq, HRG.out.1.left_eq]; omega
        · have dp : decide (0 < y) = false := by simpa using hp0
          have HI2 := Lib.hid (HI1.out (by simp [hxo]; omega))
          clear HI1 HF hp0 hxo hbx
          go_wp2
          go_roundw
          case rel => exact ⟨_, cnt1, HRG.out.2, HI2.out, HG1.out⟩
          case measure => rw [HRG.out.2.left_eq, HRG.out.1.left_eq]; omega
end Go.Proofs.Ytmciiobncfchlaa
