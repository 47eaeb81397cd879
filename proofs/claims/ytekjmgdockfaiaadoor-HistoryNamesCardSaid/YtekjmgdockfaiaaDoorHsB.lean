
/- The two maps of a tracker: calls by number, busy threads; look-ups, stores, deletes as equations. -/
import Derived.Test.YtekjmgdockfaiaaDoorHsA
import Derived.Maps.OwnSet
namespace Go.Proofs.YtekjmgdockfaiaaDoor
open Go.RowKit Go.Maps Go.ChangeMaps

def callElem : Value → Option (DataW Unit × List MemPlace)
  | .agg ⟨[.int .i64 t, .int .i64 n, .bool b]⟩ => some (.agg [.lit (.int .i64 t), .lit (.int .i64 n), .lit (.bool b)], [])
  | _ => none
abbrev callV (t n : Int) (b : Bool) : Value := .agg #[.int .i64 t, .int .i64 n, .bool b]
abbrev cd (t n : Int) (b : Bool) : DataW Unit := .agg [.lit (.int .i64 t), .lit (.int .i64 n), .lit (.bool b)]
theorem callElem_mk (t n : Int) (b : Bool) : callElem (callV t n b) = some (cd t n b, []) := rfl
theorem callElem_inv {v : Value} {t n : Int} {b : Bool} {ps : List MemPlace} (h : callElem v = some (cd t n b, ps)) : v = callV t n b := by
  unfold callElem at h
  split at h
  · injection h with h
    injection h with h1 _
    injection h1 with h1
    simp at h1
    obtain ⟨rfl, rfl, rfl⟩ := h1
    rfl
  · cases h
theorem lawK : Keyed Tryd.prog 3 := int_keyed Tryd.underlying3
theorem wfI {k : Int} (h0 : 0 ≤ k) (h1 : k ≤ 9223372036854775807) : (Lit.int .i64 k).wf = true := WalkArith.wf_i64 (by omega)
theorem keyI {k : Int} (h0 : 0 ≤ k) (h1 : k ≤ 9223372036854775807) : keyOf Tryd.prog 3 (.int .i64 k) = some (.int .i64 k) := keyOf_int_mk Tryd.underlying3 (wfI h0 h1)
theorem isKeyI {k : Int} (h0 : 0 ≤ k) (h1 : k ≤ 9223372036854775807) : WideAt.IsKeyLit (.int .i64 k) := lawK.key (keyI h0 h1)
theorem zeroC (w : World) : (zeroValue 73).run Tryd.prog w = .ok (callV 0 0 false) w := by kernel_rfl
theorem zeroU (w : World) : (zeroValue 74).run Tryd.prog w = .ok (.agg #[]) w := by kernel_rfl
theorem unitElem_any {v : Value} {z : DataW Unit × List MemPlace} (h : unitElem v = some z) : v = .agg #[] := (unitElem_inv h).1

/-- The calls of spans, by number. -/
def CallsM (w : World) (b : Nat) (l : List Sp) (n : Nat) : Prop :=
  ∃ D : DataW Unit, w.ownsMap Tryd.prog 3 callElem b n D ∧ (∀ k, Maps.has D (.int .i64 k) = hasC l k) ∧ ∀ (j : Nat) (h : j < l.length) z, D.atKey (.int .i64 (l[j]).call) z = cd (l[j]).thread j (decide (0 ≤ (l[j]).to))
/-- The threads that have a pending span. -/
def BusyM (w : World) (b : Nat) (l : List Sp) (n : Nat) : Prop :=
  ∃ D : DataW Unit, w.ownsMap Tryd.prog 3 unitElem b n D ∧ ∀ k, Maps.has D (.int .i64 k) = busyT l k

section
variable {w w' : World} {b n : Nat} {l : List Sp}
theorem CallsM.kept {row : Option Nat} (h : CallsM w b l n) (hg : w.grownBy w' row) (hne : some b ≠ row) : CallsM w' b l n := by
  obtain ⟨D, h1, h2, h3⟩ := h
  exact ⟨D, h1.kept hg hne, h2, h3⟩
theorem CallsM.nw (h : CallsM w b l n) (g : Nw w w') : CallsM w' b l n := h.kept (g.grownBy none) (by simp)
theorem BusyM.kept {row : Option Nat} (h : BusyM w b l n) (hg : w.grownBy w' row) (hne : some b ≠ row) : BusyM w' b l n := by
  obtain ⟨D, h1, h2⟩ := h
  exact ⟨D, h1.kept hg hne, h2⟩
theorem BusyM.nw (h : BusyM w b l n) (g : Nw w w') : BusyM w' b l n := h.kept (g.grownBy none) (by simp)
theorem CallsM.lt (h : CallsM w b l n) : b < w.heap.size := by obtain ⟨D, h1, _⟩ := h; exact h1.lt
theorem BusyM.lt (h : BusyM w b l n) : b < w.heap.size := by obtain ⟨D, h1, _⟩ := h; exact h1.lt
theorem CallsM.obj (h : CallsM w b l n) : ∃ es c, w.heap[b]? = some (.map es c) := by obtain ⟨D, ⟨es, c, h, _⟩, _⟩ := h; exact ⟨es, c, h⟩
theorem BusyM.obj (h : BusyM w b l n) : ∃ es c, w.heap[b]? = some (.map es c) := by obtain ⟨D, ⟨es, c, h, _⟩, _⟩ := h; exact ⟨es, c, h⟩
theorem CallsM.made (w : World) : CallsM (w.alloc (.map #[] 0)) w.heap.size [] 0 := ⟨_, World.ownsMap_made _ _ _ _, fun _ => rfl, fun j h => by simp at h⟩
theorem BusyM.made (w : World) : BusyM (w.alloc (.map #[] 0)) w.heap.size [] 0 := ⟨_, World.ownsMap_made _ _ _ _, fun _ => rfl⟩

theorem CallsM.look_no (h : CallsM w b l n) {k : Int} (h0 : 0 ≤ k) (h1 : k ≤ 9223372036854775807) (hc : hasC l k = false) :
    (Instr.lookup 59 (.map (some b)) (.int .i64 k) true).run Tryd.prog w = .ok (.tuple #[callV 0 0 false, .bool false]) w := by
  obtain ⟨D, o, h2, h3⟩ := h
  obtain ⟨v, ps, hr, hv⟩ := o.look_ok (t := 59) lawK Tryd.underlying59 (zeroC w) (callElem_mk 0 0 false) (keyI h0 h1)
  have hh := (h2 k).trans hc
  rw [atKey_of_not_has hh] at hv
  rw [callElem_inv hv, hh] at hr
  exact hr
theorem CallsM.look_yes (h : CallsM w b l n) {j : Nat} (hj : j < l.length) (h0 : 0 ≤ (l[j]).call) (h1 : (l[j]).call ≤ 9223372036854775807) :
    (Instr.lookup 59 (.map (some b)) (.int .i64 (l[j]).call) true).run Tryd.prog w = .ok (.tuple #[callV (l[j]).thread j (decide (0 ≤ (l[j]).to)), .bool true]) w := by
  obtain ⟨D, o, h2, h3⟩ := h
  obtain ⟨v, ps, hr, hv⟩ := o.look_ok (t := 59) lawK Tryd.underlying59 (zeroC w) (callElem_mk 0 0 false) (keyI h0 h1)
  have hh : Maps.has D (.int .i64 (l[j]).call) = true := (h2 _).trans (List.any_eq_true.2 ⟨l[j], List.getElem_mem hj, by simp⟩)
  rw [h3 j hj] at hv
  rw [callElem_inv hv, hh] at hr
  exact hr
theorem CallsM.look_val (h : CallsM w b l n) {j : Nat} (hj : j < l.length) (h0 : 0 ≤ (l[j]).call) (h1 : (l[j]).call ≤ 9223372036854775807) :
    (Instr.lookup 59 (.map (some b)) (.int .i64 (l[j]).call) false).run Tryd.prog w = .ok (callV (l[j]).thread j (decide (0 ≤ (l[j]).to))) w := by
  obtain ⟨D, o, h2, h3⟩ := h
  obtain ⟨v, ps, hr, hv⟩ := o.lookup (t := 59) lawK Tryd.underlying59 (zeroC w) (callElem_mk 0 0 false) (keyI h0 h1)
  rw [h3 j hj] at hv
  rw [callElem_inv hv] at hr
  exact hr
theorem BusyM.look (h : BusyM w b l n) {k : Int} (h0 : 0 ≤ k) (h1 : k ≤ 9223372036854775807) :
    (Instr.lookup 60 (.map (some b)) (.int .i64 k) true).run Tryd.prog w = .ok (.tuple #[.agg #[], .bool (busyT l k)]) w := by
  obtain ⟨D, o, h2⟩ := h
  obtain ⟨v, ps, hr, hv⟩ := o.look_ok (t := 60) lawK Tryd.underlying60 (zeroU w) unitElem_mk (keyI h0 h1)
  rw [unitElem_any hv, h2 k] at hr
  exact hr
theorem litI_ne {a b : Int} (h : a ≠ b) : (Lit.int .i64 a) ≠ .int .i64 b := fun e => h (by injection e)
/-- A call begins. -/
theorem CallsM.begin (h : CallsM w b l n) (hn : n < 1000) {s : Sp} (hs : s.to < 0) (h0 : 0 ≤ s.call) (h1 : s.call ≤ 9223372036854775807) (hc : hasC l s.call = false) :
    ∃ w', (Instr.mapUpdate 59 (.map (some b)) (.int .i64 s.call) (callV s.thread l.length false)).run Tryd.prog w = .ok () w' ∧ CallsM w' b (l ++ [s]) (n + 1) ∧ w.grownBy w' (some b) := by
  obtain ⟨D, o, h2, h3⟩ := h
  obtain ⟨w', hr, o', hg⟩ := o.update (t := 59) lawK Tryd.underlying59 (by unfold maxLen; omega) (keyI h0 h1) (callElem_mk s.thread l.length false)
  refine ⟨w', hr, ⟨_, o', fun k => ?_, fun j hj z => ?_⟩, hg⟩
  · by_cases q : k = s.call
    · subst q
      rw [has_put_same o.isMap (isKeyI h0 h1)]
      unfold hasC; simp
    · rw [has_put_other (litI_ne q), h2]
      unfold hasC
      simp only [List.any_append, List.any_cons, List.any_nil, Bool.or_false]
      have : (s.call == k) = false := by simp; exact fun e => q e.symm
      rw [this, Bool.or_false]
  · by_cases q : j < l.length
    · have e : (l ++ [s])[j] = l[j] := List.getElem_append_left q
      rw [e]
      have hne : (l[j]).call ≠ s.call := by
        have := any_no hc _ (List.getElem_mem q)
        simpa using this
      rw [atKey_put_other (litI_ne hne), h3 j q]
    · have hj' : j = l.length := by simp at hj; omega
      subst hj'
      have e : (l ++ [s])[l.length] = s := by simp
      rw [e, atKey_put_same o.isMap (isKeyI h0 h1)]
      rw [show decide (0 ≤ s.to) = false by simp; omega]
/-- The call in place j ends. -/
theorem CallsM.finish (h : CallsM w b l n) (hn : n < 1000) {j : Nat} (hj : j < l.length) (hp : l.Pairwise fun s s' => s.call ≠ s'.call) {f : Sp → Sp} (hf : ∀ s, (f s).call = s.call ∧ (f s).thread = s.thread ∧ 0 ≤ (f s).to) (h0 : 0 ≤ (l[j]).call) (h1 : (l[j]).call ≤ 9223372036854775807) :
    ∃ w', (Instr.mapUpdate 59 (.map (some b)) (.int .i64 (l[j]).call) (callV (l[j]).thread j true)).run Tryd.prog w = .ok () w' ∧ CallsM w' b (l.set j (f l[j])) (n + 1) ∧ w.grownBy w' (some b) := by
  obtain ⟨D, o, h2, h3⟩ := h
  obtain ⟨w', hr, o', hg⟩ := o.update (t := 59) lawK Tryd.underlying59 (by unfold maxLen; omega) (keyI h0 h1) (callElem_mk (l[j]).thread j true)
  have hcalls : ∀ i (hi : i < l.length), ((l.set j (f l[j]))[i]'(by simpa using hi)).call = (l[i]).call := fun i hi => by
    rw [List.getElem_set]
    by_cases q : j = i
    · subst q; rw [if_pos rfl]; exact (hf _).1
    · rw [if_neg q]
  refine ⟨w', hr, ⟨_, o', fun k => ?_, fun i hi z => ?_⟩, hg⟩
  · have hk : hasC (l.set j (f l[j])) k = hasC l k := by
      unfold hasC
      rw [Bool.eq_iff_iff, List.any_eq_true, List.any_eq_true]
      constructor
      · rintro ⟨x, hx, hk⟩
        obtain ⟨i, hi, rfl⟩ := List.getElem_of_mem hx
        have hi' : i < l.length := by simpa using hi
        exact ⟨l[i], List.getElem_mem hi', by rw [← hcalls i hi']; exact hk⟩
      · rintro ⟨x, hx, hk⟩
        obtain ⟨i, hi, rfl⟩ := List.getElem_of_mem hx
        exact ⟨(l.set j (f l[j]))[i]'(by simpa using hi), List.getElem_mem _, by rw [hcalls i hi]; exact hk⟩
    rw [hk]
    by_cases q : k = (l[j]).call
    · subst q
      rw [has_put_same o.isMap (isKeyI h0 h1)]
      unfold hasC
      symm
      rw [List.any_eq_true]
      exact ⟨l[j], List.getElem_mem hj, by simp⟩
    · rw [has_put_other (litI_ne q), h2]
  · have hi' : i < l.length := by simpa using hi
    rw [hcalls i hi']
    by_cases q : j = i
    · subst q
      rw [atKey_put_same o.isMap (isKeyI h0 h1)]
      have e : (l.set j (f l[j]))[j]'hi = f l[j] := by simp
      rw [e, (hf _).2.1, show decide (0 ≤ (f l[j]).to) = true by simpa using (hf _).2.2]
    · have hne : (l[i]).call ≠ (l[j]).call := by
        rcases Nat.lt_or_gt_of_ne q with r | r
        · exact fun e => List.pairwise_iff_getElem.1 hp j i hj hi' r e.symm
        · exact List.pairwise_iff_getElem.1 hp i j hi' hj r
      have e : (l.set j (f l[j]))[i]'hi = l[i] := by rw [List.getElem_set, if_neg q]
      rw [atKey_put_other (litI_ne hne), h3 i hi', e]
theorem busy_app (l : List Sp) (s : Sp) (k : Int) (hs : s.to < 0) : busyT (l ++ [s]) k = (busyT l k || (s.thread == k)) := by
  unfold busyT; simp [hs]
theorem BusyM.begin (h : BusyM w b l n) (hn : n < 1000) {s : Sp} (hs : s.to < 0) (h0 : 0 ≤ s.thread) (h1 : s.thread ≤ 9223372036854775807) :
    ∃ w', (Instr.mapUpdate 60 (.map (some b)) (.int .i64 s.thread) (.agg #[])).run Tryd.prog w = .ok () w' ∧ BusyM w' b (l ++ [s]) (n + 1) ∧ w.grownBy w' (some b) := by
  obtain ⟨D, o, h2⟩ := h
  obtain ⟨w', hr, o', hg⟩ := o.update (t := 60) lawK Tryd.underlying60 (by unfold maxLen; omega) (keyI h0 h1) unitElem_mk
  refine ⟨w', hr, ⟨_, o', fun k => ?_⟩, hg⟩
  rw [busy_app l s k hs]
  by_cases q : k = s.thread
  · subst q
    rw [has_put_same o.isMap (isKeyI h0 h1)]
    simp
  · rw [has_put_other (litI_ne q), h2]
    have : (s.thread == k) = false := by simp; exact fun e => q e.symm
    rw [this, Bool.or_false]
theorem BusyM.finish (h : BusyM w b l n) {j : Nat} (hj : j < l.length) (hp : l.Pairwise fun s s' => s.to < 0 → s'.to < 0 → s.thread ≠ s'.thread) {f : Sp → Sp} (hf : 0 ≤ (f l[j]).to) (hto : (l[j]).to < 0) (h0 : 0 ≤ (l[j]).thread) (h1 : (l[j]).thread ≤ 9223372036854775807) (ty : TypeId) :
    ∃ w', (Builtin.delete_ #[60, 3] ty #[.map (some b), .int .i64 (l[j]).thread]).run Tryd.prog w = .ok (.tuple #[]) w' ∧ BusyM w' b (l.set j (f l[j])) n ∧ w.grownBy w' (some b) := by
  obtain ⟨D, o, h2⟩ := h
  obtain ⟨w', hr, o', hg⟩ := o.drop (t := 60) lawK Tryd.underlying60 (keyI h0 h1) ty
  refine ⟨w', hr, ⟨_, o', fun k => ?_⟩, hg.grown⟩
  have hb : busyT (l.set j (f l[j])) k = (busyT l k && !(k == (l[j]).thread)) := by
    unfold busyT
    rw [Bool.eq_iff_iff, Bool.and_eq_true, List.any_eq_true, List.any_eq_true]
    constructor
    · rintro ⟨x, hx, hk⟩
      obtain ⟨i, hi, rfl⟩ := List.getElem_of_mem hx
      have hi' : i < l.length := by simpa using hi
      rw [List.getElem_set] at hk
      by_cases q : j = i
      · rw [if_pos q] at hk; simp at hk; omega
      · rw [if_neg q] at hk
        refine ⟨⟨l[i], List.getElem_mem hi', hk⟩, ?_⟩
        simp at hk ⊢
        rintro rfl
        rcases Nat.lt_or_gt_of_ne q with r | r
        · exact List.pairwise_iff_getElem.1 hp j i hj hi' r hto hk.2 hk.1.symm
        · exact List.pairwise_iff_getElem.1 hp i j hi' hj r hk.2 hto hk.1
    · rintro ⟨⟨x, hx, hk⟩, hne⟩
      obtain ⟨i, hi, rfl⟩ := List.getElem_of_mem hx
      have q : j ≠ i := by
        rintro rfl
        simp at hk hne
        exact hne hk.1.symm
      refine ⟨(l.set j (f l[j]))[i]'(by simpa using hi), List.getElem_mem _, ?_⟩
      rw [List.getElem_set, if_neg q]; exact hk
  rw [hb]
  by_cases q : k = (l[j]).thread
  · subst q
    rw [has_del_same]; simp
  · rw [has_del_other (litI_ne q), h2]
    have : (k == (l[j]).thread) = false := by simpa using q
    rw [this]; simp
end
end Go.Proofs.YtekjmgdockfaiaaDoor
