/- Texts merged: QsA, QvS, QvB, QvD, QvE -/
import Derived.Test.YtpffldfpabglbaaGreatDoorTableApartB11
import Derived.Maps.OwnSet
import Derived.Maps.RangeWalk
import Derived.StillTailTactics

/- symMergeCmpFunc of ints on a row that stands in order already: nothing moves. -/
section
namespace Go.Proofs.YtpffldfpabglbaaGreatDoor
open Go.RowKit
set_option linter.unusedVariables false      -- a contract need not use every name

/-- What is known of the row, of the comparison. -/
structure SmH (w : World) (gf : Nat) (lb : Array Value) (g n a b : Nat) (l : List Int) : Prop where
  eg : ∀ args w, (callFunc gf args).run Tryz.prog w = .ok (.enter gf args) w
  cell : ∀ i z, i < n → Nw w z → z.cell? ⟨g, i, none⟩ = some (.int .i64 (l.getD i 0))
  call : ∀ i j, a ≤ i → i < j → j < b → ∃ v : Int, decide (v < 0) = false ∧ ∀ z, Nw w z → Calls Tryz.prog gf (#[.int .i64 (l.getD j 0), .int .i64 (l.getD i 0)] ++ lb) z fun e w' => e = .returned (.int .i64 v) ∧ Nw z w'
theorem SmH.sub {w w' : World} {gf : Nat} {lb : Array Value} {g n a b a' b' : Nat} {l : List Int} (h : SmH w gf lb g n a b l) (ha : a ≤ a') (hb : b' ≤ b) (hN : Nw w w') : SmH w' gf lb g n a' b' l :=
  ⟨h.eg, fun i z hi hz => h.cell i z hi (hN.trans hz), fun i j h1 h2 h3 => by
    obtain ⟨v, dz, hc⟩ := h.call i j (by omega) h2 (by omega)
    exact ⟨v, dz, fun z hz => hc z (hN.trans hz)⟩⟩
theorem sum_nat (x y : Nat) (hx : x ≤ 2000) (hy : y ≤ 2000) : IntKind.i64.wrap ((x : Int) + (y : Int)) = ((x + y : Nat) : Int) := by rw [IntKind.wrap_i64]; omega
theorem sub_nat (x y z : Nat) (hx : x ≤ 4000) (hz : x = y + z) : IntKind.i64.wrap ((x : Int) - (y : Int)) = (z : Int) := by rw [IntKind.wrap_i64]; omega
theorem one_nat (x z : Nat) (hx : x ≤ 4000) (hz : x = z + 1) : IntKind.i64.wrap ((x : Int) - 1) = (z : Int) := by rw [IntKind.wrap_i64]; omega
theorem suc_nat (x z : Nat) (hx : x ≤ 4000) (hz : z = x + 1) : IntKind.i64.wrap ((x : Int) + 1) = (z : Int) := by rw [IntKind.wrap_i64]; omega
end Go.Proofs.YtpffldfpabglbaaGreatDoor
end

/- SortStableFunc as far as it is wanted: what it makes of a list, and when: at most 20; or at most 40, where the two parts sorted stand in order. -/
section
namespace Go.Proofs.YtpffldfpabglbaaGreatDoor
open Go.RowKit
set_option linter.unusedVariables false      -- a contract need not use every name

theorem Cmps.later {w w1 : World} {f : Value} {gi : Nat} {c : Int → Int → Int} {P : Int → Prop} (h : Cmps w f gi c P) (hT : Tch (fun k => k = gi) w w1) : Cmps w1 f gi c P := by
  obtain ⟨g, lb, e, eg, hc⟩ := h
  exact ⟨g, lb, e, eg, fun x y w2 hx hy h2 => hc x y w2 hx hy (hT.trans h2)⟩
end Go.Proofs.YtpffldfpabglbaaGreatDoor
end

/- The developers' package queue: IndexFunc, ContainsFunc, find. -/
section
namespace Go.Proofs.YtpffldfpabglbaaGreatDoor
open Go.RowKit
set_option linter.unusedVariables false      -- a contract need not use every name

/-- The place of the first request that is looked for; -1. -/
def plc (p : Rq → Bool) : List Rq → Int
  | [] => -1
  | a :: r => if p a = true then 0 else if plc p r = -1 then -1 else plc p r + 1
theorem plc_form (p : Rq → Bool) : ∀ q : List Rq, (plc p q = -1 ∧ ∀ a ∈ q, p a = false) ∨ ∃ k : Nat, plc p q = k ∧ ∃ h : k < q.length, p q[k] = true ∧ ∀ i (hi : i < q.length), i < k → p q[i] = false
  | [] => .inl ⟨rfl, by simp⟩
  | a :: r => by
    unfold plc
    cases e : p a with
    | true => exact .inr ⟨0, rfl, by simp, e, fun i _ h => by omega⟩
    | false =>
      rcases plc_form p r with ⟨h1, h2⟩ | ⟨k, h1, h2, h3, h4⟩
      · rw [h1]
        refine .inl ⟨rfl, fun x hx => ?_⟩
        rcases List.mem_cons.1 hx with rfl | hx
        · exact e
        · exact h2 x hx
      · rw [h1]
        refine .inr ⟨k + 1, ?_, by simpa using h2, h3, fun i hi hik => ?_⟩
        · simp only [Bool.false_eq_true, if_false]
          rw [if_neg (by omega)]; rfl
        · cases i with
          | zero => exact e
          | succ i => exact h4 i (by simpa using hi) (by omega)
theorem plc_hit {p : Rq → Bool} {q : List Rq} {k : Nat} (hk : k < q.length) (h : p q[k] = true) (hb : ∀ i (hi : i < q.length), i < k → p q[i] = false) : plc p q = k := by
  rcases plc_form p q with ⟨_, h2⟩ | ⟨j, h1, h2, h3, h4⟩
  · rw [h2 _ (List.getElem_mem hk)] at h; cases h
  · rw [h1]
    rcases Nat.lt_trichotomy j k with g | g | g
    · rw [hb j h2 g] at h3; cases h3
    · rw [g]
    · rw [h4 k hk g] at h; cases h
theorem plc_none {p : Rq → Bool} {q : List Rq} (h : ∀ i (hi : i < q.length), p q[i] = false) : plc p q = -1 := by
  rcases plc_form p q with ⟨h1, _⟩ | ⟨j, h1, h2, h3, _⟩
  · exact h1
  · rw [h j h2] at h3; cases h3
theorem plc_any (p : Rq → Bool) (q : List Rq) : decide (0 ≤ plc p q) = q.any p := by
  rcases plc_form p q with ⟨h1, h2⟩ | ⟨k, h1, h2, h3, _⟩
  · rw [h1]
    symm
    rw [show decide ((0 : Int) ≤ -1) = false from rfl, List.any_eq_false]
    intro x hx; rw [h2 x hx]; simp
  · rw [h1]
    symm
    rw [show decide ((0 : Int) ≤ (k : Int)) = true by simp, List.any_eq_true]
    exact ⟨q[k], List.getElem_mem h2, h3⟩
set_option maxRecDepth 100000 in
set_option maxHeartbeats 2000000 in
theorem dIndex (v f : Value) (p : Rq → Bool) (q : List Rq) (w : World) (hl : q.length ≤ 1000) (h : RqAt w v q) (hf : Tells w f p) :
    Calls Tryz.prog 206 #[v, f] w fun e w' => e = .returned (.int .i64 (plc p q)) ∧ Nw w w' := by
  obtain ⟨g, lb, rfl, eg, hT⟩ := hf
  have HT := Lib.hid hT
  clear hT
  obtain ⟨a, c, rfl, ⟨rfl, _⟩ | ⟨b, o, rfl, hc⟩⟩ := h
  · go_enter Tryz.func206, Tryz.ntmps206
    go_wp2
    refine wp_loop_rounds 1 ?_
    repeat (rw [rounds_succ]; go_wp2)
    go_ret
    exact ⟨rfl, Nw.refl _⟩
  · have H := Lib.hid hc
    clear hc
    obtain ⟨V, hV⟩ : ∃ V, plc p q = V := ⟨_, rfl⟩
    rw [hV]
    have HV := Lib.hid hV
    clear hV
    go_enter Tryz.func206, Tryz.ntmps206
    go_wp2
    go_loopw [8] (fun i wr => ∃ k : Nat, k ≤ q.length ∧ i = .int .i64 k ∧ (∀ i (hi : i < q.length), i < k → p q[i] = false) ∧ Nw w wr) (fun i _ => q.length - (intOf i).toNat)
    case atStart => exact ⟨0, Nat.zero_le _, rfl, fun _ _ h => by omega, Nw.refl _⟩
    case round =>
      obtain ⟨k, hk, rfl, hF, hN⟩ := hrel
      by_cases hlt : k < q.length
      · have hce := (H.out.nw hN).cell k hlt
        obtain ⟨R, hR⟩ : ∃ R, q[k] = R := ⟨_, rfl⟩
        rw [hR] at hce
        have HC := Lib.hid (HT.out R)
        have HS := Lib.hid hR
        have HF := Lib.hid hF
        have HN := Lib.hid hN
        clear hR hF hN
        obtain ⟨B, hB⟩ : ∃ B, p R = B := ⟨_, rfl⟩
        rw [hB] at HC
        have HB := Lib.hid hB
        clear hB
        obtain ⟨b0, b1, b2, b3, b4⟩ := R
        have e0 := hce 0 _ rfl
        have e1 := hce 1 _ rfl
        have e2 := hce 2 _ rfl
        have e3 := hce 3 _ rfl
        have e4 := hce 4 _ rfl
        simp only [Nat.add_zero] at e0
        clear hce
        cases B
        case true =>
          go_wp2_with (go_at_fn g; refine (HC.out _ HN.out).mono ?_; rintro e w1 ⟨rfl, g1⟩)
          go_ret
          exact ⟨by rw [← HV.out, plc_hit hlt (by rw [HS.out]; exact HB.out) HF.out]; rfl, HN.out.trans g1⟩
        case false =>
          go_wp2_with (go_at_fn g; refine (HC.out _ HN.out).mono ?_; rintro e w1 ⟨rfl, g1⟩)
          go_roundw
          case rel =>
            refine ⟨k + 1, by omega, by go_num, fun i hi hik => ?_, HN.out.trans g1⟩
            by_cases q : i < k
            · exact HF.out i hi q
            · have : i = k := by omega
              subst this
              rw [HS.out]; exact HB.out
          case measure => simp [intOf]; omega
      · have HF := Lib.hid hF
        have HN := Lib.hid hN
        clear hF hN
        go_wp2
        go_ret
        exact ⟨by rw [← HV.out, plc_none fun i hi => HF.out i hi (by omega)]; rfl, HN.out⟩
theorem dContains (v f : Value) (p : Rq → Bool) (q : List Rq) (w : World) (hl : q.length ≤ 1000) (h : RqAt w v q) (hf : Tells w f p) :
    Calls Tryz.prog 211 #[v, f] w fun e w' => e = .returned (.bool (q.any p)) ∧ Nw w w' := by
  have HI := Lib.hid (dIndex v f p q w hl h hf)
  obtain ⟨a, c, rfl⟩ := h.form
  obtain ⟨g, lb, rfl, _⟩ := hf
  rw [← plc_any]
  clear h
  go_enter Tryz.func211, Tryz.ntmps211
  go_wp2_with (go_at_call 206; refine HI.out.mono ?_; rintro e w1 ⟨rfl, g1⟩)
  go_ret
  exact ⟨rfl, g1⟩
theorem dFind (t r W : Int) (v f : Value) (p : Rq → Bool) (q : List Rq) (w : World) (hl : q.length ≤ 1000) (h : RqAt w v q) (hf : Tells w f p) :
    Calls Tryz.prog 166 #[hdV t r v W, f] w fun e w' => e = .returned (.int .i64 (plc p q)) ∧ Nw w w' := by
  have HI := Lib.hid (fun (w1 : World) (g : Nw w w1) => dIndex v f p q w1 hl (h.nw g) (hf.nw g))
  obtain ⟨a, c, rfl⟩ := h.form
  obtain ⟨g, lb, rfl, _⟩ := hf
  unfold hdV
  clear h
  have hN : Nw w (w.alloc (.cells #[.int .i64 t, .int .i64 r, .slice a q.length c, .int .i64 W] 63)) := (Nw.refl w).alloc _
  go_enter Tryz.func166, Tryz.ntmps166
  go_wp2_with (go_at_call 206; refine (HI.out _ hN).mono ?_; rintro e w1 ⟨rfl, g1⟩)
  go_ret
  exact ⟨rfl, hN.trans g1⟩
end Go.Proofs.YtpffldfpabglbaaGreatDoor
end

/- The developers' package queue: how many hold each mode: a map of counts; fits. -/
section
namespace Go.Proofs.YtpffldfpabglbaaGreatDoor
open Go.RowKit Go.Maps Go.ChangeMaps
set_option linter.unusedVariables false      -- a contract need not use every name

theorem lawM : Keyed Tryz.prog 35 := int_keyed Tryz.underlying35
theorem wfM {k : Int} (h0 : -9223372036854775808 ≤ k) (h1 : k ≤ 9223372036854775807) : (Lit.int .i64 k).wf = true := WalkArith.wf_i64 (by omega)
theorem keyM {k : Int} (h : knI k = true) : keyOf Tryz.prog 35 (.int .i64 k) = some (.int .i64 k) := by
  have := (knI_iff k).1 h
  exact keyOf_int_mk Tryz.underlying35 (wfM (by omega) (by omega))
theorem isKeyM {k : Int} (h : knI k = true) : WideAt.IsKeyLit (.int .i64 k) := lawM.key (keyM h)
theorem zeroI (w : World) : (zeroValue 3).run Tryz.prog w = .ok (.int .i64 0) w := by kernel_rfl
/-- The map in block b holds these counts. -/
def HeldC (w : World) (b n : Nat) (c : Int → Int) : Prop :=
  ∃ D : DataW Unit, w.ownsMap Tryz.prog 35 (plainElem Tryz.prog 3) b n D ∧ (∀ k, D.atKey (.int .i64 k) (.lit (.int .i64 0)) = .lit (.int .i64 (c k))) ∧ ∀ k, Maps.has D (.int .i64 k) = true → knI k = true
def setC (c : Int → Int) (k x : Int) : Int → Int := fun y => if y = k then x else c y
section
variable {w w' : World} {b n : Nat} {c : Int → Int}
theorem HeldC.kept {row : Option Nat} (h : HeldC w b n c) (hg : w.grownBy w' row) (hne : some b ≠ row) : HeldC w' b n c := by
  obtain ⟨D, h1, h2, h3⟩ := h
  exact ⟨D, h1.kept hg hne, h2, h3⟩
theorem HeldC.nw (h : HeldC w b n c) (g : Nw w w') : HeldC w' b n c := h.kept (g.grownBy none) (by simp)
theorem HeldC.lt (h : HeldC w b n c) : b < w.heap.size := by obtain ⟨D, h1, _⟩ := h; exact h1.lt
theorem HeldC.obj (h : HeldC w b n c) : ∃ es k, w.heap[b]? = some (.map es k) := by obtain ⟨D, ⟨es, k, h, _⟩, _⟩ := h; exact ⟨es, k, h⟩
theorem HeldC.made (w : World) : HeldC (w.alloc (.map #[] 0)) w.heap.size 0 (fun _ => 0) :=
  ⟨_, World.ownsMap_made _ _ _ _, fun k => atKey_of_not_has rfl _, fun k h => by cases h⟩
set_option maxRecDepth 100000 in
theorem HeldC.look (h : HeldC w b n c) {k : Int} (hk : knI k = true) : (Instr.lookup 198 (.map (some b)) (.int .i64 k) false).run Tryz.prog w = .ok (.int .i64 (c k)) w := by
  obtain ⟨D, o, h2, h3⟩ := h
  obtain ⟨x, hrun, hat, _⟩ := o.lookup_int (t := 198) lawM Tryz.underlying198 Tryz.underlying3 (zeroI w) (keyM hk)
  rw [h2 k] at hat
  injection hat with hat
  injection hat with _ hat
  rw [hat]; exact hrun
theorem litM_ne {a b : Int} (h : a ≠ b) : (Lit.int .i64 a) ≠ .int .i64 b := fun e => h (by injection e)
set_option maxRecDepth 100000 in
theorem HeldC.put (h : HeldC w b n c) (hn : n < 1000000) {k x : Int} (hk : knI k = true) (h0 : -100 ≤ x) (h1 : x ≤ 1000000) :
    ∃ w', (Instr.mapUpdate 198 (.map (some b)) (.int .i64 k) (.int .i64 x)).run Tryz.prog w = .ok () w' ∧ HeldC w' b (n + 1) (setC c k x) ∧ w.grownBy w' (some b) := by
  obtain ⟨D, o, h2, h3⟩ := h
  have hw : (Lit.int .i64 x).wf = true := wfM (by omega) (by omega)
  obtain ⟨w', hr, o', hg⟩ := o.update (t := 198) lawM Tryz.underlying198 (by unfold maxLen; omega) (keyM hk) (plainElem_int Tryz.underlying3 hw)
  refine ⟨w', hr, ⟨_, o', fun y => ?_, fun y hy => ?_⟩, hg⟩
  · unfold setC
    by_cases q : y = k
    · subst q
      rw [if_pos rfl, atKey_put_same o.isMap (isKeyM hk)]
    · rw [if_neg q, atKey_put_other (litM_ne q), h2 y]
  · by_cases q : y = k
    · rw [q]; exact hk
    · rw [has_put_other (litM_ne q)] at hy
      exact h3 y hy
end
theorem dCp (a b : Int) (w : World) (ha : knI a = true) (hb : knI b = true) : Calls Tryz.prog 226 #[.int .i64 a, .int .i64 b] w fun e w' => e = .returned (.bool (cpI a b)) ∧ Nw w w' := by
  have h1 := (knI_iff a).1 ha
  have h2 := (knI_iff b).1 hb
  rw [cp_kn a b ha hb]
  exact cmp_in a b w h1.1 h1.2 h2.1 h2.2

set_option maxHeartbeats 400000 in
theorem dCpA (a b : Int) (w : World) (ha : knI a = true) : Calls Tryz.prog 226 #[.int .i64 a, .int .i64 b] w fun e w' => e = .returned (.bool (cpI a b)) ∧ Nw w w' := by
  by_cases hb : knI b = true
  · exact dCp a b w ha hb
  · have h1 := (knI_iff a).1 ha
    have h2 : b < 0 ∨ 7 ≤ b := by
      have : ¬ (0 ≤ b ∧ b < 7) := fun e => hb ((knI_iff b).2 e)
      omega
    have hc : cpI a b = false := by
      unfold cpI
      cases e : knI b with
      | true => exact absurd e hb
      | false => simp
    rw [hc]
    clear hc hb
    go_enter Tryz.func226, Tryz.ntmps226
    go_wp2_with fail
    go_at_call 208
    refine (known_yes a _ h1.1 h1.2).mono ?_
    rintro e w' ⟨rfl, rfl⟩
    go_wp2_with (go_at_call 208; refine (known_no b _ h2).mono ?_; rintro e w' ⟨rfl, rfl⟩)
    go_ret
    exact ⟨rfl, Nw.refl _⟩
/-- Does a mode fit beside the counts, but one that has own? -/
def okK (c : Int → Int) (own m k : Int) : Bool := decide (c k - (if k = own then 1 else 0) ≤ 0) || cpI k m
def fitB (c : Int → Int) (own m : Int) : Bool := (List.range 7).all fun k => okK c own m k
theorem fitB_iff (c : Int → Int) (own m : Int) : fitB c own m = true ↔ ∀ k, knI k = true → okK c own m k = true := by
  unfold fitB
  rw [List.all_eq_true]
  constructor
  · intro h k hk
    obtain ⟨h0, h7⟩ := (knI_iff k).1 hk
    obtain ⟨j, rfl⟩ := Int.eq_ofNat_of_zero_le h0
    exact h j (by simp; omega)
  · intro h j hj
    simp at hj
    exact h j ((knI_iff _).2 ⟨by omega, by omega⟩)
theorem same_int (a b : Int) : (Lit.int .i64 a).sameKey (.int .i64 b) = (a == b) := by
  simp [Lit.sameKey]
  rfl
set_option maxRecDepth 100000 in
set_option maxHeartbeats 400000 in
theorem dFitsA (p b n : Nat) (c : Int → Int) (own m : Int) (u0 u1 u2 u3 : Value) (fr : Nat × Nat) (w : World) (hp : w.heap[p]? = some (.cells #[u0, u1, u2, u3, .map (some b)] 200 fr)) (hc : HeldC w b n c) (hb : ∀ k, 0 ≤ c k ∧ c k ≤ 100000) :
    Calls Tryz.prog 210 #[.pointer (some ⟨p, 0, none⟩), .int .i64 own, .int .i64 m] w fun e w' => e = .returned (.bool (fitB c own m)) ∧ Nw w w' := by
  obtain ⟨D, hown, hD, hK⟩ := hc
  have hc4 := hcell (j := 4) hp
  have hpl := hlt hp
  clear hp
  obtain ⟨V, hV⟩ : ∃ V, fitB c own m = V := ⟨_, rfl⟩
  rw [hV]
  have HV := Lib.hid hV
  have HD := Lib.hid hD
  have HK := Lib.hid hK
  have HB := Lib.hid hb
  clear hV hD hK hb
  go_enter Tryz.func210, Tryz.ntmps210
  go_wp2_with (first
    | (at_range; refine wpList_range_own _ rfl _ 198 rfl 35 3 lawM Tryz.underlying198 _ b n _ rfl hown ?_; intro w0 hrg0 hg0 hs0)
    | go_in)
  go_frame
  go_loopw [7] (fun _ wr => ∃ (left : Lit → Bool) (cnt : Nat), wr.ranges Tryz.prog 35 (plainElem Tryz.prog 3) b w.heap.size n D left cnt ∧ (∀ k, left (.int .i64 k) = false → Maps.has D (.int .i64 k) = true → okK c own m k = true) ∧ Nw w wr)
    (fun _ wr => wr.rangeLeft b w.heap.size)
  case atStart => exact ⟨_, _, hrg0, (fun k h1 h2 => by rw [h1] at h2; cases h2), ⟨hg0.os, hg0.tape, hg0.output, hg0.size, fun i hi => hg0.block i hi (by simp)⟩⟩
  case round =>
    obtain ⟨left, cnt, hrg, hI, hN⟩ := hrel
    have HI := Lib.hid hI
    have HN := Lib.hid hN
    clear hI hN
    go_wp2_with (first
      | (at_next; refine wpList_next_ranges_ii _ rfl _ rfl 35 3 .i64 .i64 lawM Tryz.underlying35 Tryz.underlying3 b w.heap.size n _ _ _ rfl hrg ?_ ?_)
      | go_in)
    · -- nothing is left
      intro _ hl0
      have e : V = true := by
        rw [← HV.out, fitB_iff]
        intro k hk
        cases hh : Maps.has D (.int .i64 k) with
        | true => exact HI.out k (hl0 _) hh
        | false =>
          have := HD.out k
          rw [atKey_of_not_has hh] at this
          injection this with this
          injection this with _ this
          unfold okK
          rw [← this]
          have : decide ((0 : Int) - (if k = own then 1 else 0) ≤ 0) = true := by
            rw [decide_eq_true_iff]; split <;> omega
          rw [this]; rfl
      subst e
      go_wp2
      go_ret
      exact ⟨rfl, HN.out⟩
    · intro x y w1 cnt1 hwx hwc hlx hat hrg1 hlt hg1 hs1 hen
      have hxk : y = c x := by
        have h1 := hat (.lit (.int .i64 0))
        rw [HD.out x] at h1
        injection h1 with h1
        injection h1 with _ h1
        exact h1.symm
      have hx : knI x = true := by
        refine HK.out x ?_
        cases hh : Maps.has D (.int .i64 x) with
        | true => rfl
        | false =>
          have h1 := hat (.lit (.int .i64 (y + 1)))
          rw [atKey_of_not_has hh] at h1
          injection h1 with h1
          injection h1 with _ h1
          omega
      subst hxk
      have hbx := HB.out x
      have hG1 : Nw w w1 := HN.out.gro hg1 (fun k hk => by rw [← Option.some.inj hk]; exact Nat.le_refl _)
      have HG1 := Lib.hid hG1
      have HI1 : Hid (okK c own m x = true → ∀ k, (fun z : Lit => left z && !z.sameKey (.int .i64 x)) (.int .i64 k) = false → Maps.has D (.int .i64 k) = true → okK c own m k = true) := Lib.hid fun hok k hl hh => by
        by_cases q : k = x
        · rw [q]; exact hok
        · refine HI.out k ?_ hh
          have e : (k == x) = false := by simpa using q
          simpa [same_int, e] using hl
      have HC := Lib.hid (fun w => dCpA x m w hx)
      have HF : Hid (okK c own m x = false → V = false) := Lib.hid fun e => by
        rw [← HV.out]
        cases h : fitB c own m with
        | false => rfl
        | true => rw [(fitB_iff c own m).1 h x hx] at e; cases e
      unfold okK at HI1 HF
      simp only at HI1
      generalize c x = y at *
      generalize cpI x m = z at *
      have HRG := Lib.hid (And.intro hrg hrg1)
      clear hrg hrg1 hg1 hat hlx hwx hwc hs1 hx hG1 hown hrg0 hg0 hs0
      by_cases hxo : x = own
      · have dx : (x == own) = true := by simpa using hxo
        obtain ⟨t, ht⟩ : ∃ t, y - 1 = t := ⟨_, rfl⟩
        have hw : IntKind.i64.wrap (y - 1) = t := by rw [IntKind.wrap_i64]; omega
        by_cases hp0 : 0 < t
        · have dp : decide (0 < t) = true := by simpa using hp0
          cases z
          · obtain rfl : V = false := HF.out (by simp [hxo]; omega)
            clear HI1 HF hp0 ht hxo hbx
            go_wp2_with (go_at_call 226; refine (HC.out _).mono ?_; rintro e w2 ⟨rfl, g2⟩)
            go_ret
            exact ⟨rfl, HG1.out.trans g2⟩
          · have HI2 := Lib.hid (HI1.out (by simp))
            clear HI1 HF hp0 ht hxo hbx
            go_wp2_with (go_at_call 226; refine (HC.out _).mono ?_; rintro e w2 ⟨rfl, g2⟩)
            have hrg2 := HRG.out.2.kept (g2.grownBy none) (by simp) (by simp)
            go_roundw
            case rel => exact ⟨_, cnt1, hrg2, HI2.out, HG1.out.trans g2⟩
            case measure => rw [hrg2.left_eq, HRG.out.1.left_eq]; omega
        · have dp : decide (0 < t) = false := by simpa using hp0
          have HI2 := Lib.hid (HI1.out (by simp [hxo]; omega))
          clear HI1 HF hp0 ht hxo hbx
          go_wp2
          go_roundw
          case rel => exact ⟨_, cnt1, HRG.out.2, HI2.out, HG1.out⟩
          case measure => rw [HRG.out.2.left_eq, HRG.out.1.left_eq]; omega
      · have dx : (x == own) = false := by simpa using hxo
        by_cases hp0 : 0 < y
        · have dp : decide (0 < y) = true := by simpa using hp0
          cases z
          · obtain rfl : V = false := HF.out (by simp [hxo]; omega)
            clear HI1 HF hp0 hxo hbx
            go_wp2_with (go_at_call 226; refine (HC.out _).mono ?_; rintro e w2 ⟨rfl, g2⟩)
            go_ret
            exact ⟨rfl, HG1.out.trans g2⟩
          · have HI2 := Lib.hid (HI1.out (by simp))
            clear HI1 HF hp0 hxo hbx
            go_wp2_with (go_at_call 226; refine (HC.out _).mono ?_; rintro e w2 ⟨rfl, g2⟩)
            have hrg2 := HRG.out.2.kept (g2.grownBy none) (by simp) (by simp)
            go_roundw
            case rel => exact ⟨_, cnt1, hrg2, HI2.out, HG1.out.trans g2⟩
            case measure => rw [hrg2.left_eq, HRG.out.1.left_eq]; omega
        · have dp : decide (0 < y) = false := by simpa using hp0
          have HI2 := Lib.hid (HI1.out (by simp [hxo]; omega))
          clear HI1 HF hp0 hxo hbx
          go_wp2
          go_roundw
          case rel => exact ⟨_, cnt1, HRG.out.2, HI2.out, HG1.out⟩
          case measure => rw [HRG.out.2.left_eq, HRG.out.1.left_eq]; omega
theorem dFits (p b n : Nat) (c : Int → Int) (own m : Int) (u0 u1 u2 u3 : Value) (fr : Nat × Nat) (w : World) (hp : w.heap[p]? = some (.cells #[u0, u1, u2, u3, .map (some b)] 200 fr)) (hc : HeldC w b n c) (hb : ∀ k, 0 ≤ c k ∧ c k ≤ 100000) (hm : knI m = true) :
    Calls Tryz.prog 210 #[.pointer (some ⟨p, 0, none⟩), .int .i64 own, .int .i64 m] w fun e w' => e = .returned (.bool (fitB c own m)) ∧ Nw w w' := dFitsA p b n c own m u0 u1 u2 u3 fr w hp hc hb
end Go.Proofs.YtpffldfpabglbaaGreatDoor
end

/- The developers' package queue: Clone; a line in memory; lineOf. -/
section
namespace Go.Proofs.YtpffldfpabglbaaGreatDoor
open Go.RowKit Go.Maps Go.ChangeMaps
set_option linter.unusedVariables false      -- a contract need not use every name

theorem wpl_mapUp {P : Program} {w : World} {ops : Array Oper} {rest : List Oper} {o : Oper} {a : Act} {Q : Exit → Act → World → Prop}
    (hg : o.guard = none) (m x u : Operand) (t : TypeId) (hop : o.op = Op.mapUpdate t m x u) (M K V : Value) (w' : World) (hm : a.eval m = M) (hx : a.eval x = K) (hu : a.eval u = V)
    (hr : (Instr.mapUpdate t M K V).run P w = .ok () w') (h : wpList P ops Q rest (a.put o.dst undef) w') : wpList P ops Q (o :: rest) a w := by
  refine wpList_plain hg fun K' hK' => ?_
  unfold Oper.wp
  simp [execOp, hop, hm, hx, hu, hr, Result.andThen]
  exact hK' _ _ h
set_option maxRecDepth 100000 in
set_option maxHeartbeats 1000000 in
theorem dClone (v : Value) (q : List Rq) (w : World) (hl : q.length ≤ 1000) (h : RqAt w v q) :
    Calls Tryz.prog 148 #[v] w fun e w' => ∃ v', e = .returned v' ∧ Nw w w' ∧ RqOwn w' w.heap.size v' q := by
  obtain ⟨v', w1, hrun, hO, hN⟩ := own_clone elemRq h (by omega)
  obtain ⟨a, c, rfl, h⟩ := h
  have en := fun (w : World) (a : Option Addr) (n c n' c' : Nat) => Lib.run_eql_slice_nil (P := Tryz.prog) w 61 50 a n c n' c' Tryz.underlying61
  have HR := Lib.hid hrun
  have HO := Lib.hid (And.intro hN hO)
  clear hrun hO hN
  cases a with
  | none =>
    rcases h with ⟨rfl, h0⟩ | ⟨b, o, e, _⟩
    · obtain rfl := h0 rfl
      go_enter Tryz.func148, Tryz.ntmps148
      go_wp2
      go_ret
      exact ⟨_, rfl, Nw.refl _, World.ownsRow_nil _ _ _ _⟩
    · cases e
  | some ad =>
    clear h
    go_enter Tryz.func148, Tryz.ntmps148
    go_wp2_with (at_builtin; refine wpl_app (by rfl) (.tmp 5) (.tmp 6) 61 rfl _ _ _ _ rfl rfl HR.out ?_)
    go_ret
    exact ⟨_, rfl, HO.out.1, HO.out.2⟩

/-- A line in memory: its own row of requests, its own map of counts. -/
structure Ln (w : World) (g0 p : Nat) (t r W : Int) (v : Value) (b n : Nat) (q : List Rq) (c : Int → Int) : Prop where
  obj : w.heap[p]? = some (.cells #[.int .i64 t, .int .i64 r, v, .int .i64 W, .map (some b)] 200 (0, 0))
  own : RqOwn w g0 v q
  map : HeldC w b n c
  gp : g0 ≤ p
  gb : g0 ≤ b
/-- How many have a mode. -/
def cntQ (q : List Rq) : Int → Int := fun k => ((q.countP fun R => R.md == k : Nat) : Int)
theorem cntQ_snoc (q : List Rq) (R : Rq) : cntQ (q ++ [R]) = setC (cntQ q) R.md (cntQ q R.md + 1) := by
  funext k
  unfold cntQ setC
  rw [List.countP_append]
  by_cases e : k = R.md
  · rw [if_pos e, e]; simp
  · rw [if_neg e]
    have : (R.md == k) = false := by simpa using fun q => e q.symm
    simp [this]
theorem cntQ_bd (q : List Rq) (k : Int) : 0 ≤ cntQ q k ∧ cntQ q k ≤ q.length := by
  unfold cntQ
  have := List.countP_le_length (p := fun R : Rq => R.md == k) (l := q)
  omega
section
variable {w w' : World} {g0 p : Nat} {t r W : Int} {v : Value} {b n : Nat} {q : List Rq} {c : Int → Int}
theorem Ln.nw (h : Ln w g0 p t r W v b n q c) (g : Nw w w') : Ln w' g0 p t r W v b n q c := ⟨g.at' h.obj, onw h.own g, h.map.nw g, h.gp, h.gb⟩
theorem Ln.bp (h : Ln w g0 p t r W v b n q c) : b ≠ p := fun e => by
  obtain ⟨es, k, ho⟩ := h.map.obj
  rw [e, h.obj] at ho; cases ho
theorem Ln.vb (h : Ln w g0 p t r W v b n q c) : v.ownBlock ≠ some b := fun e => by
  obtain ⟨es, k, ho⟩ := h.map.obj
  obtain ⟨cs, hc⟩ := oheap h.own e
  rw [ho] at hc; cases hc
theorem types_ne : 50 ≠ 200 := by decide
theorem Ln.vp (h : Ln w g0 p t r W v b n q c) : v.ownBlock ≠ some p := fun e => by
  obtain ⟨cs, hc⟩ := oheap h.own e
  have := h.obj
  rw [hc] at this
  injection this with this
  injection this with _ this
  exact absurd this types_ne
/-- A store into the map. -/
theorem Ln.put (h : Ln w g0 p t r W v b n q c) {n' : Nat} {c' : Int → Int} (hm : HeldC w' b n' c') (hg : w.grownBy w' (some b)) : Ln w' g0 p t r W v b n' q c' :=
  ⟨(hg.block p (hlt h.obj) (by simp; exact h.bp.symm)).trans h.obj, okeep h.own hg (fun g hv e => h.vb (by rw [hv, ← e])), hm, h.gp, h.gb⟩
end
theorem heap_lt' {w : World} {B : Nat} {o : Obj} (hb : w.heap[B]? = some o) : B < w.heap.size := hlt hb
/-- A request of a row that the call owns. -/
theorem RqOwn.at {w : World} {g0 : Nat} {v : Value} {q : List Rq} (h : RqOwn w g0 v q) {k : Nat} (hk : k < q.length) : ∃ g cap, v = .slice (some ⟨g, 0, none⟩) q.length cap ∧ g0 ≤ g ∧ g < w.heap.size ∧ ∀ j u, (rqrow q[k])[j]? = some u → w.cell? ⟨g, k * 5 + j, none⟩ = some u := by
  rcases oform h with ⟨_, e⟩ | ⟨g, cap, rfl⟩
  · omega
  · refine ⟨g, cap, rfl, oge h rfl, olt h rfl, fun j u hu => ?_⟩
    obtain ⟨a, c, e, hh | ⟨b, o, rfl, hc⟩⟩ := RqOwn.rd h
    · obtain ⟨rfl, _⟩ := hh; simp at hk
    · simp only [Value.slice.injEq, Option.some.injEq, Addr.mk.injEq] at e
      obtain ⟨⟨rfl, rfl, _⟩, _, _⟩ := e
      have := hc.cell k hk j u hu
      rwa [Nat.zero_add] at this
set_option maxRecDepth 100000 in
set_option maxHeartbeats 1000000 in
theorem dLineOf (t r W : Int) (v : Value) (q : List Rq) (w : World) (hl : q.length ≤ 1000) (hkn : ∀ R ∈ q, knI R.md = true) (h : RqAt w v q) :
    Calls Tryz.prog 172 #[hdV t r v W] w fun e w' => ∃ p v' b n, e = .returned (.pointer (some ⟨p, 0, none⟩)) ∧ Nw w w' ∧ Ln w' w.heap.size p t r W v' b n q (cntQ q) ∧ n ≤ q.length := by
  have hmm := @run_makeMap Tryz.prog
  have HCl := Lib.hid (fun (w1 : World) (g : Nw w w1) => dClone v q w1 hl (h.nw g))
  have HK := Lib.hid hkn
  clear hkn
  unfold hdV
  obtain ⟨a, c, rfl, _⟩ := h
  obtain ⟨w3, hw3⟩ : ∃ w3, ((w.alloc (.cells #[.int .i64 t, .int .i64 r, .slice a q.length c, .int .i64 W] 63)).alloc (.map #[] 0)).alloc (.cells #[.int .i64 t, .int .i64 r, .slice a q.length c, .int .i64 W, .map (some (w.heap.size + 1))] 200) = w3 := ⟨_, rfl⟩
  have hN3 : Nw w w3 := by rw [← hw3]; exact (((Nw.refl w).alloc _).alloc _).alloc _
  have hs1 : (w.alloc (.cells #[.int .i64 t, .int .i64 r, .slice a q.length c, .int .i64 W] 63)).heap.size = w.heap.size + 1 := by simp
  have hs2 : ((w.alloc (.cells #[.int .i64 t, .int .i64 r, .slice a q.length c, .int .i64 W] 63)).alloc (.map #[] 0)).heap.size = w.heap.size + 1 + 1 := by simp
  have hB : HBox w3 w.heap.size t r (.slice a q.length c) W := by rw [← hw3]; exact (HBox.made w t r (.slice a q.length c) W 63).nw (((Nw.refl _).alloc _).alloc _)
  have hM : HeldC w3 (w.heap.size + 1) 0 (fun _ => 0) := by
    have := HeldC.made (w.alloc (.cells #[.int .i64 t, .int .i64 r, .slice a q.length c, .int .i64 W] 63))
    rw [hs1] at this
    rw [← hw3]; exact this.nw ((Nw.refl _).alloc _)
  have hL : w3.heap[w.heap.size + 1 + 1]? = some (.cells #[.int .i64 t, .int .i64 r, .slice a q.length c, .int .i64 W, .map (some (w.heap.size + 1))] 200) := by
    have := allocAt ((w.alloc (.cells #[.int .i64 t, .int .i64 r, .slice a q.length c, .int .i64 W] 63)).alloc (.map #[] 0)) (.cells #[.int .i64 t, .int .i64 r, .slice a q.length c, .int .i64 W, .map (some (w.heap.size + 1))] 200)
    rw [hs2] at this
    rw [← hw3]; exact this
  have HW3 := Lib.hid hw3
  clear hw3 hs1 hs2
  go_enter Tryz.func172, Tryz.ntmps172
  go_wp2_with fail
  go_at_call 148
  rw [HW3.out]
  refine (HCl.out _ hN3).mono ?_
  rintro e w4 ⟨v1, rfl, g4, hO4⟩
  have hL4 := g4.at' hL
  have h5 := hset (j := 2) v1 hL4
  have hN5 : Nw w (w4.setCell ⟨w.heap.size + 1 + 1, 2, none⟩ v1) := (hN3.trans g4).st (by show w.heap.size ≤ w.heap.size + 1 + 1; omega) v1
  have hO5 : RqOwn (w4.setCell ⟨w.heap.size + 1 + 1, 2, none⟩ v1) w.heap.size v1 q := olow (own_st hO4 (p := ⟨w.heap.size + 1 + 1, 2, none⟩) (hlt hL) v1) (fun g hg => by have := oge hO4 hg; have := hN3.sz; omega)
  have hM5 : HeldC (w4.setCell ⟨w.heap.size + 1 + 1, 2, none⟩ v1) (w.heap.size + 1) 0 (fun _ => 0) := (hM.nw g4).kept (sgrown w4 _ v1) (by simp)
  have hLn : Ln (w4.setCell ⟨w.heap.size + 1 + 1, 2, none⟩ v1) w.heap.size (w.heap.size + 1 + 1) t r W v1 (w.heap.size + 1) 0 q (fun _ => 0) := ⟨h5, hO5, hM5, by omega, by omega⟩
  obtain ⟨a1, c1, rfl⟩ := (RqOwn.rd hO5).form
  have l0 := hcell (j := 0) hL4
  have l1 := hcell (j := 1) hL4
  have l2 := hcell (j := 2) hL4
  have l3 := hcell (j := 3) hL4
  have l4 := hcell (j := 4) hL4
  have fz := fun k => hfz (j := k) hL4
  have hsl := hlt hL4
  have HLn := Lib.hid (And.intro hN5 hLn)
  clear hLn hN5 hO5 hM5 h5 hO4 hM hB hL4 hL hN3 g4
  go_wp2
  have hp5 : w.heap.size + 1 + 1 < (w4.setCell ⟨w.heap.size + 1 + 1, 2, none⟩ (.slice a1 q.length c1)).heap.size := hlt HLn.out.2.obj
  generalize w4.setCell ⟨w.heap.size + 1 + 1, 2, none⟩ (.slice a1 q.length c1) = w5 at *
  obtain ⟨p, hp⟩ : ∃ p, w.heap.size + 1 + 1 = p := ⟨_, rfl⟩
  obtain ⟨b, hb⟩ : ∃ b, w.heap.size + 1 = b := ⟨_, rfl⟩
  rw [hp, hb] at HLn
  rw [hp, hb] 
  rw [hp] at hp5
  clear HW3 HCl l0 l1 l2 l3 l4 fz hsl hp hb hmm
  go_loopw [23] (fun i wr => ∃ (k n : Nat), k ≤ q.length ∧ i = .int .i64 k ∧ n = k ∧ Ln wr w.heap.size p t r W (.slice a1 q.length c1) b n q (cntQ (q.take k)) ∧ Nw w wr) (fun i _ => q.length - (intOf i).toNat)
  case atStart => exact ⟨0, 0, Nat.zero_le _, rfl, rfl, HLn.out.2, HLn.out.1⟩
  case round =>
    obtain ⟨k, n, hk, rfl, hn, hLn, hN⟩ := hrel
    by_cases hlt : k < q.length
    · obtain ⟨g, cap, e, hg1, hg2, hce⟩ := RqOwn.at hLn.own hlt
      simp only [Value.slice.injEq, true_and] at e
      obtain ⟨rfl, rfl⟩ := e
      have hkR := HK.out _ (List.getElem_mem hlt)
      have hTk : cntQ (q.take (k + 1)) = setC (cntQ (q.take k)) q[k].md (cntQ (q.take k) q[k].md + 1) := by
        rw [← cntQ_snoc, List.take_add_one, List.getElem?_eq_getElem hlt]; rfl
      have hbd := cntQ_bd (q.take k) q[k].md
      have htl := List.length_take_le k q
      generalize q[k] = R at *
      obtain ⟨b0, b1, b2, b3, b4⟩ := R
      simp only at hkR hTk hbd
      have e0 := hce 0 _ rfl
      have e1 := hce 1 _ rfl
      have e2 := hce 2 _ rfl
      have e3 := hce 3 _ rfl
      have e4 := hce 4 _ rfl
      simp only [Nat.add_zero] at e0
      have g6 : Nw wr (wr.alloc (.cells #[.int .i64 b0, .int .i64 b1, .int .i64 b2, .int .i64 b3, .int .i64 b4] 50)) := (Nw.refl wr).alloc _
      have hq6 := RqB.made wr b0 b1 b2 b3 b4 50
      obtain ⟨w6, hw6⟩ : ∃ w6, wr.alloc (.cells #[.int .i64 b0, .int .i64 b1, .int .i64 b2, .int .i64 b3, .int .i64 b4] 50) = w6 := ⟨_, rfl⟩
      rw [hw6] at g6 hq6
      have HW6 := Lib.hid hw6
      have hL6 := hLn.nw g6
      obtain ⟨hlq, -, -, q2, -, -⟩ := hq6
      have hp6 := heap_lt' hL6.obj
      have m4 := hcell (j := 4) hL6.obj
      have hlk := (hL6.map.nw (Nw.refl w6).drewQ).look hkR
      obtain ⟨x, hx⟩ : ∃ x, cntQ (q.take k) b2 = x := ⟨_, rfl⟩
      rw [hx] at hlk hTk hbd
      obtain ⟨x1, hx1⟩ : ∃ x1, x + 1 = x1 := ⟨_, rfl⟩
      have hwx : IntKind.i64.wrap (x + 1) = x1 := by rw [IntKind.wrap_i64]; omega
      obtain ⟨w7, r7, hM7, hG7⟩ := (hL6.map.nw (Nw.refl w6).drewQ).put (by omega) hkR (x := x1) (by omega) (by omega)
      have hL7 := (hL6.nw (Nw.refl w6).drewQ).put hM7 hG7
      rw [← hx1, ← hTk] at hL7
      have hN7 : Nw w w7 := (hN.trans (g6.trans (Nw.refl w6).drewQ)).gro hG7 (fun k hk => by rw [← Option.some.inj hk]; exact hLn.gb)
      have HL7 := Lib.hid (And.intro hL7 hN7)
      have H7 := Lib.hid r7
      clear hLn hN hce hg1 hkR hTk hL6 hx r7 hM7 hG7 hL7 hN7 hbd htl hw6 g6 hx1
      go_wp2
      rw [HW6.out]
      refine wp_region_still_tail 8 (by kernel_rfl) (by kernel_rfl) ?_
      simp only [List.take_succ_cons, List.take_zero, List.drop_succ_cons, List.drop_zero]
      repeat still_step
      try refine wpStill_nil ?_
      change wpList _ _ _ _ _ w6.drew
      go_wp2_with (at_mapUpdate; refine wpl_mapUp rfl (.tmp 30) (.tmp 32) (.tmp 34) 198 rfl _ _ _ _ rfl rfl rfl H7.out ?_)
      go_roundw
      case rel => exact ⟨k + 1, _, by omega, by go_num, by omega, HL7.out.1, HL7.out.2⟩
      case measure => simp [intOf]; omega
    · obtain rfl : k = q.length := by omega
      rw [List.take_length] at hLn
      have HF := Lib.hid (And.intro hN hLn)
      clear hN hLn
      go_wp2
      go_ret
      exact ⟨_, _, _, _, rfl, HF.out.1, HF.out.2, by omega⟩
end Go.Proofs.YtpffldfpabglbaaGreatDoor
end
