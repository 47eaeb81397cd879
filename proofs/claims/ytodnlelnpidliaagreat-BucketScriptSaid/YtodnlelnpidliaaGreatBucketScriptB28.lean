/- Texts merged: RefA, BkS, BkT, BkU, BkV, BkW, BkX -/
import Derived.Test.YtodnlelnpidliaaGreatBucketScriptB27
import Derived.StillTailTactics

/- Contracts of the reference's functions on names, first part: Database, Level, Check, Table, Record, Parent, Ancestors, Compare. -/
section
namespace Go.Proofs.YtodnlelnpidliaaGreat
open Go.ChangeShapes Go.WideShapes Go.ChangeAt Go.RowKit

theorem refCmp_lt1 (t r t' r' : Int) (w : World) (h : t < t') :
    Calls Tryz.prog 90 #[.agg #[.int .i64 t, .int .i64 r], .agg #[.int .i64 t', .int .i64 r']] w fun e w' => e = .returned (.int .i64 (-1)) ∧ Nw w w' := by
  have d0 : decide (t < t') = true := by simp <;> omega
  go_enter Tryz.func90, Tryz.ntmps90
  go_wp2
  go_ret
  exact ⟨rfl, ((Nw.refl _).alloc _).alloc _⟩
theorem refCmp_lt2 (t r r' : Int) (w : World) (h : r < r') :
    Calls Tryz.prog 90 #[.agg #[.int .i64 t, .int .i64 r], .agg #[.int .i64 t, .int .i64 r']] w fun e w' => e = .returned (.int .i64 (-1)) ∧ Nw w w' := by
  have d1 : decide (r < r') = true := by simp <;> omega
  go_enter Tryz.func90, Tryz.ntmps90
  go_wp2
  go_ret
  exact ⟨rfl, ((Nw.refl _).alloc _).alloc _⟩
theorem refCmp_eq (t r : Int) (w : World) :
    Calls Tryz.prog 90 #[.agg #[.int .i64 t, .int .i64 r], .agg #[.int .i64 t, .int .i64 r]] w fun e w' => e = .returned (.int .i64 (0)) ∧ Nw w w' := by
  go_enter Tryz.func90, Tryz.ntmps90
  go_wp2
  go_ret
  exact ⟨rfl, ((Nw.refl _).alloc _).alloc _⟩
theorem refCmp_gt2 (t r r' : Int) (w : World) (h : r' < r) :
    Calls Tryz.prog 90 #[.agg #[.int .i64 t, .int .i64 r], .agg #[.int .i64 t, .int .i64 r']] w fun e w' => e = .returned (.int .i64 (1)) ∧ Nw w w' := by
  have d1 : decide (r < r') = false := by simp <;> omega
  have d2 : (r == r') = false := by simp <;> omega
  go_enter Tryz.func90, Tryz.ntmps90
  go_wp2
  go_ret
  exact ⟨rfl, ((Nw.refl _).alloc _).alloc _⟩
theorem refCmp_gt1 (t r t' r' : Int) (w : World) (h : t' < t) :
    Calls Tryz.prog 90 #[.agg #[.int .i64 t, .int .i64 r], .agg #[.int .i64 t', .int .i64 r']] w fun e w' => e = .returned (.int .i64 (1)) ∧ Nw w w' := by
  have d0 : decide (t < t') = false := by simp <;> omega
  have d2 : (t == t') = false := by simp <;> omega
  go_enter Tryz.func90, Tryz.ntmps90
  go_wp2
  go_ret
  exact ⟨rfl, ((Nw.refl _).alloc _).alloc _⟩
theorem refCompare_any (t r t' r' : Int) (w : World) :
    Calls Tryz.prog 90 #[.agg #[.int .i64 t, .int .i64 r], .agg #[.int .i64 t', .int .i64 r']] w fun e w' => e = .returned ((.int .i64 (or2 (c3 t t') (c3 r r')))) ∧ Nw w w' := by
  rcases Int.lt_trichotomy t t' with h | h | h
  · rw [c3_lt t t' h]; exact refCmp_lt1 t r t' r' w h
  · subst h
    rw [c3_eq]
    rcases Int.lt_trichotomy r r' with h | h | h
    · rw [c3_lt r r' h]; exact refCmp_lt2 t r r' w h
    · subst h; rw [c3_eq]; exact refCmp_eq t r w
    · rw [c3_gt r r' h]; exact refCmp_gt2 t r r' w h
  · rw [c3_gt t t' h]; exact refCmp_gt1 t r t' r' w h
end Go.Proofs.YtodnlelnpidliaaGreat
end

/- The document's own bucket: New, place, Find. -/
section
namespace Go.Proofs.YtodnlelnpidliaaGreat
open Go.RowKit
set_option linter.unusedVariables false      -- a contract need not use every name

theorem cmp_nlt (t r t' r' : Int) : (or2 (c3 t t') (c3 r r') < 0 ↔ nlt (t, r) (t', r')) ∧ (or2 (c3 t t') (c3 r r') = 0 ↔ (t, r) = (t', r')) := by
  unfold nlt
  simp only [Prod.mk.injEq]
  rcases Int.lt_trichotomy t t' with h | h | h <;> rcases Int.lt_trichotomy r r' with k | k | k <;> simp [or2, c3, h, k] <;> omega
/-- Where a name's head is, or would be. -/
def PlIs (l : List Hm) (nm : Int × Int) (k : Nat) (b : Bool) : Prop := k ≤ l.length ∧ (∀ j (hj : j < l.length), j < k → nlt (nmH l[j].h) nm) ∧ ((k = l.length ∧ b = false) ∨ ∃ hk : k < l.length, ¬ nlt (nmH l[k].h) nm ∧ b = decide (nmH l[k].h = nm))
set_option maxHeartbeats 2000000 in
theorem rb_place {w : World} {o po : Nat} {most : Int} {v : Value} {l : List Hm} (h : Rb w o po most v l) (t r : Int) :
    Calls Tryz.prog 56 #[.pointer (some ⟨o, 0, none⟩), .agg #[.int .i64 t, .int .i64 r]] w fun e w' => ∃ (k : Nat) (b : Bool), e = .returned (.tuple #[.int .i64 k, .bool b]) ∧ PlIs l (t, r) k b ∧ Nw w w' := by
  obtain ⟨a, c, rfl, hf⟩ := h.form
  have HF := Lib.hid hf
  have H := Lib.hid h
  have hol := h.ol
  clear h hf
  have hN : Nw w (w.alloc (.cells #[.int .i64 t, .int .i64 r] 38)) := (Nw.refl w).alloc _
  have hb0 := allocAt w (.cells #[.int .i64 t, .int .i64 r] 38)
  obtain ⟨z, hz⟩ : ∃ z, w.alloc (.cells #[.int .i64 t, .int .i64 r] 38) = z := ⟨_, rfl⟩
  go_enter Tryz.func56, Tryz.ntmps56
  go_wp2
  simp only [hz] at *
  obtain ⟨p, hp⟩ : ∃ p, w.heap.size = p := ⟨_, rfl⟩
  simp only [hp] at *
  have HZ := Lib.hid (And.intro hb0 hN)
  clear hz hb0 hN
  go_loopw [6] (fun i wr => ∃ k : Nat, k ≤ l.length ∧ i = .int .i64 k ∧ (∀ j (hj : j < l.length), j < k → nlt (nmH l[j].h) (t, r)) ∧ Nw z wr) (fun i _ => l.length - (intOf i).toNat)
  case atStart => exact ⟨0, Nat.zero_le _, rfl, fun j _ hj => by omega, Nw.refl _⟩
  case round =>
    obtain ⟨k, hk, rfl, hn, hG⟩ := hrel
    have HR := Lib.hid ((H.out.nw HZ.out.2).nw hG)
    have c2 := HR.out.c2
    have hq := hG.at' HZ.out.1
    have n0 : wr.cell? ⟨p, 0, none⟩ = some (.int .i64 t) := hcell hq
    have n1 : wr.cell? ⟨p, 1, none⟩ = some (.int .i64 r) := hcell hq
    have HG := Lib.hid (HZ.out.2.trans hG)
    have HG2 := Lib.hid hG
    have HN := Lib.hid hn
    clear hG hn hq
    have hll := H.out.len
    by_cases hlt : k < l.length
    · rcases HF.out with ⟨_, e, _⟩ | ⟨g, rfl, _, _⟩
      · rw [e] at hlt; simp at hlt
      obtain ⟨e0, e1, e2, e3⟩ := HR.out.at_ k hlt
      have hki : (k : Int) < (l.length : Int) := by omega
      have HC := Lib.hid (refCompare_any l[k].h.t l[k].h.r t r)
      have HCm := Lib.hid (cmp_nlt l[k].h.t l[k].h.r t r)
      have HP := Lib.hid (show nmH l[k].h = (l[k].h.t, l[k].h.r) from rfl)
      obtain ⟨y, hy⟩ : ∃ y, or2 (c3 l[k].h.t t) (c3 l[k].h.r r) = y := ⟨_, rfl⟩
      rw [hy] at HC HCm
      clear hy e2 e3
      generalize l[k].h.t = t0 at *
      generalize l[k].h.r = r0 at *
      go_wp2
      refine region_in (fun y => Nw wr y) (by kernel_rfl) (by kernel_rfl) (Nw.refl _).dr ?_
      have d1 : ∀ d : Wd (fun y => Nw wr y), d.w.cell? _ = _ := fun d => d.h.kp c2
      have d2 : ∀ d : Wd (fun y => Nw wr y), d.w.cell? _ = _ := fun d => d.h.kp e0
      have d3 : ∀ d : Wd (fun y => Nw wr y), d.w.cell? _ = _ := fun d => d.h.kp e1
      have d4 : ∀ d : Wd (fun y => Nw wr y), d.w.cell? _ = _ := fun d => d.h.kp n0
      have d5 : ∀ d : Wd (fun y => Nw wr y), d.w.cell? _ = _ := fun d => d.h.kp n1
      have hne : Nonempty (Wd (fun y => Nw wr y)) := ⟨⟨_, Nw.refl wr⟩⟩
      repeat (first | go_big_quiet_step ((exact quietN (fun a b h g => h.trans g) (HC.out _))) | quiet_step ((exact quietN (fun a b h g => h.trans g) (HC.out _))))
      refine wpQuiet_nil ?_
      intro d
      have g1 := d.h
      clear d1 d2 d3 d4 d5 hne
      revert g1
      generalize d.w = w'
      intro g1
      by_cases hy : 0 ≤ y
      · go_wp2
        refine bodyPost_ret (v := .tuple #[.int .i64 k, .bool (y == 0)]) (by simp [results, Tryz.results56, go_sem, *]) rfl ⟨k, (y == 0), rfl, ⟨hk, HN.out, .inr ⟨hlt, ?_, ?_⟩⟩, HG.out.trans g1⟩
        · rw [HP.out, ← HCm.out.1]; omega
        · rw [HP.out, show (y == 0) = decide (y = 0) from rfl]; exact decide_eq_decide.2 HCm.out.2
      · have hy2 : y < 0 := by omega
        go_wp2
        go_roundw
        case rel =>
          refine ⟨k + 1, by omega, by go_num, fun j hj hjk => ?_, HG2.out.trans g1⟩
          rcases Nat.lt_succ_iff_lt_or_eq.1 hjk with q | rfl
          · exact HN.out j hj q
          · rw [HP.out, ← HCm.out.1]; exact hy2
        case measure => simp [intOf]; omega
    · obtain rfl : k = l.length := by omega
      go_wp2
      refine bodyPost_ret (v := .tuple #[.int .i64 l.length, .bool false]) (by simp [results, Tryz.results56, go_sem, *]) rfl ⟨l.length, false, rfl, ⟨Nat.le_refl _, HN.out, .inl ⟨rfl, rfl⟩⟩, HG.out⟩
end Go.Proofs.YtodnlelnpidliaaGreat
end

/- The document's own bucket: where a head is, in plain words; Find. -/
section
namespace Go.Proofs.YtodnlelnpidliaaGreat
open Go.RowKit
set_option linter.unusedVariables false      -- a contract need not use every name

abbrev hsOf (l : List Hm) : List Hq := l.map Hm.h
theorem srt_at {l : List Hm} (s : SrtH (hsOf l)) {i j : Nat} (hi : i < l.length) (hj : j < l.length) (h : i < j) : nlt (nmH l[i].h) (nmH l[j].h) := by
  have := List.pairwise_iff_getElem.1 s i j (by simpa using hi) (by simpa using hj) h
  simpa using this
theorem PlIs.get {l : List Hm} {nm : Int × Int} {k : Nat} {b : Bool} (p : PlIs l nm k b) (s : SrtH (hsOf l)) :
    (b = false ∧ getH (hsOf l) nm = none ∧ (∀ j (hj : j < l.length), k ≤ j → nlt nm (nmH l[j].h))) ∨ (b = true ∧ ∃ hk : k < l.length, nmH l[k].h = nm ∧ getH (hsOf l) nm = some l[k].h) := by
  obtain ⟨hk, hb, he⟩ := p
  have key : b = false → (∀ j (hj : j < l.length), k ≤ j → nlt nm (nmH l[j].h)) → getH (hsOf l) nm = none := by
    intro _ ha
    refine List.find?_eq_none.2 fun x hx => ?_
    obtain ⟨j, hj, rfl⟩ := List.getElem_of_mem hx
    have hj' : j < l.length := by simpa using hj
    simp only [List.getElem_map, decide_eq_true_eq]
    intro e
    by_cases q : j < k
    · have := hb j hj' q; rw [e] at this; exact nlt_irr _ this
    · have := ha j hj' (by omega); rw [e] at this; exact nlt_irr _ this
  rcases he with ⟨rfl, rfl⟩ | ⟨hk2, hn, rfl⟩
  · have ha : ∀ j (hj : j < l.length), l.length ≤ j → nlt nm (nmH l[j].h) := fun j hj q => by omega
    exact .inl ⟨rfl, key rfl ha, ha⟩
  · by_cases e : nmH l[k].h = nm
    · refine .inr ⟨by simpa using e, hk2, e, ?_⟩
      cases hg : getH (hsOf l) nm with
      | none => exact absurd e (get_none hg _ (List.mem_map.2 ⟨_, List.getElem_mem hk2, rfl⟩))
      | some h =>
        obtain ⟨h1, h2⟩ := get_some hg
        rw [srt_inj s h1 (List.mem_map.2 ⟨_, List.getElem_mem hk2, rfl⟩) (h2.trans e.symm)]
    · have h0 : nlt nm (nmH l[k].h) := by
        rcases nlt_tot (nmH l[k].h) nm with q | q | q
        · exact absurd q hn
        · exact absurd q e
        · exact q
      have ha : ∀ j (hj : j < l.length), k ≤ j → nlt nm (nmH l[j].h) := fun j hj q => by
        rcases Nat.lt_or_eq_of_le q with q | rfl
        · exact nlt_tr h0 (srt_at s hk2 hj q)
        · exact h0
      exact .inl ⟨by simpa using e, key (by simpa using e) ha, ha⟩
theorem OfIs.of {l : List Hm} {id i : Int} (h : OfIs l id i) : (i = -1 ∧ ofId (hsOf l) id = none) ∨ ∃ k : Nat, i = k ∧ ∃ hk : k < l.length, ofId (hsOf l) id = some l[k].h := by
  rcases h with ⟨rfl, h⟩ | ⟨k, rfl, hk, h1, h2⟩
  · refine .inl ⟨rfl, List.find?_eq_none.2 fun x hx => ?_⟩
    obtain ⟨y, hy, rfl⟩ := List.mem_map.1 hx
    rw [h y hy]; simp
  · refine .inr ⟨k, rfl, hk, ?_⟩
    unfold ofId
    rw [List.find?_eq_some_iff_getElem]
    refine ⟨h1, k, by simpa using hk, by simp, fun j hj => ?_⟩
    simp only [List.getElem_map]
    rw [h2 j (by omega) hj]
    rfl
theorem findB_some {hs : List Hq} {t r txn : Int} {h : Hq} (hg : getH hs (t, r) = some h) : findB hs t r txn = match h.q.find? (fun x => x.txn == txn) with
    | none => (0, false)
    | some x => (x.id, true) := by unfold findB hdB; rw [hg]; rfl
theorem findB_none {hs : List Hq} {t r txn : Int} (hg : getH hs (t, r) = none) : findB hs t r txn = (0, false) := by unfold findB hdB; rw [hg]; rfl
theorem find_none {q : List Rq} {x : Int} (h : ∀ j (hj : j < q.length), q[j].txn ≠ x) : q.find? (fun r => r.txn == x) = none := by
  refine List.find?_eq_none.2 fun r hr => ?_
  obtain ⟨j, hj, rfl⟩ := List.getElem_of_mem hr
  simpa using h j hj
theorem find_at {q : List Rq} {x : Int} {k : Nat} (hk : k < q.length) (e : q[k].txn = x) (h : ∀ j (hj : j < q.length), j < k → q[j].txn ≠ x) : q.find? (fun r => r.txn == x) = some q[k] := by
  rw [List.find?_eq_some_iff_getElem]
  exact ⟨by simpa using e, k, hk, rfl, fun j hj => by simpa using h j (by omega) hj⟩
set_option maxHeartbeats 4000000 in
theorem rb_find {w : World} {o po : Nat} {most : Int} {v : Value} {l : List Hm} (h : Rb w o po most v l) (s : SrtH (hsOf l)) (t r txn : Int) :
    Calls Tryz.prog 23 #[.pointer (some ⟨o, 0, none⟩), .agg #[.int .i64 t, .int .i64 r], .int .i64 txn] w fun e w' => e = .returned (.tuple #[.int .i64 (findB (hsOf l) t r txn).1, .bool (findB (hsOf l) t r txn).2]) ∧ Nw w w' := by
  obtain ⟨X, hX⟩ : ∃ X, findB (hsOf l) t r txn = X := ⟨_, rfl⟩
  rw [hX]
  obtain ⟨a, c, rfl, hf⟩ := h.form
  have HF := Lib.hid hf
  have H := Lib.hid h
  have HS := Lib.hid s
  have HX := Lib.hid hX
  have hol := h.ol
  clear h hf s hX
  have hN : Nw w (w.alloc (.cells #[.int .i64 t, .int .i64 r] 38)) := (Nw.refl w).alloc _
  obtain ⟨z, hz⟩ : ∃ z, w.alloc (.cells #[.int .i64 t, .int .i64 r] 38) = z := ⟨_, rfl⟩
  have hb0 := allocAt w (.cells #[.int .i64 t, .int .i64 r] 38)
  rw [hz] at hN hb0
  have n0 : z.cell? ⟨w.heap.size, 0, none⟩ = some (.int .i64 t) := hcell hb0
  have n1 : z.cell? ⟨w.heap.size, 1, none⟩ = some (.int .i64 r) := hcell hb0
  have HP := Lib.hid (rb_place (H.out.nw hN) t r)
  go_enter Tryz.func23, Tryz.ntmps23
  go_wp2_with fail
  refine HP.out.mono ?_
  rintro e w1 ⟨k, b, rfl, hp, g1⟩
  have HN1 := Lib.hid (hN.trans g1)
  rcases hp.get HS.out with ⟨rfl, hg, _⟩ | ⟨rfl, hk, hn, hg⟩
  · have HR := Lib.hid (HX.out.symm.trans (findB_none hg))
    clear HX HP hg hp g1 hz hN n0 n1 hb0
    go_wp2
    refine bodyPost_ret (v := .tuple #[.int .i64 0, .bool false]) (by simp [results, Tryz.results23, go_sem, *]) rfl ⟨by rw [HR.out], HN1.out⟩
  · have HR := Lib.hid (HX.out.symm.trans (findB_some hg))
    rcases HF.out with ⟨_, e, _⟩ | ⟨g, rfl, hog, hgl⟩
    · subst e; simp at hk
    have HW := Lib.hid (H.out.nw HN1.out)
    have hx := HW.out.ok _ (List.getElem_mem hk)
    obtain ⟨f0, f1, f2, f3⟩ := HW.out.at_ k hk
    have hl1 := HW.out.len
    have hki : (k : Int) < (l.length : Int) := by omega
    have HE := Lib.hid (And.intro HW.out.c2 (And.intro f2 (And.intro HW.out.ol HW.out.own)))
    obtain ⟨q, hq⟩ : ∃ q, l[k].h.q = q := ⟨_, rfl⟩
    have hx1 := hx.rd
    have hx2 := hx.len
    unfold hmV at hx1
    rw [hq] at hx1 hx2 HR HE
    generalize l[k].a = qa at *
    generalize l[k].c = qc at *
    have HQ := Lib.hid hx1
    clear HX HP hg hp g1 hz hN n0 n1 hb0 hx hx1 hq f0 f1 f2 f3 hn
    go_wp2
    go_loopw [10] (fun i wr => ∃ j : Nat, j ≤ q.length ∧ i = .int .i64 j ∧ (∀ m (hm : m < q.length), m < j → q[m].txn ≠ txn) ∧ Nw w1 wr) (fun i _ => q.length - (intOf i).toNat)
    case atStart => exact ⟨0, Nat.zero_le _, rfl, fun j _ hj => by omega, Nw.refl _⟩
    case round =>
      obtain ⟨j, hj, rfl, hno, hG⟩ := hrel
      have c2 := hG.kp HE.out.1
      have e2 := hG.kp HE.out.2.1
      have HG := Lib.hid hG
      have HNo := Lib.hid hno
      clear hno
      by_cases hlt : j < q.length
      · have hji : (j : Int) < (q.length : Int) := by omega
        obtain ⟨qa', qc', e, ⟨e', _⟩ | ⟨qb, qo, e', hc⟩⟩ := HQ.out
        · subst e'; simp at hlt
        cases e
        subst e'
        have hce := (hc.nw hG).cell j hlt
        have HA := Lib.hid (fun e => find_at hlt e HNo.out)
        have HB := Lib.hid (fun (e : q[j].txn ≠ txn) m (hm : m < q.length) (hmj : m < j + 1) => (Nat.lt_succ_iff_lt_or_eq.1 hmj).elim (HNo.out m hm) (fun q' => by subst q'; exact e))
        generalize q[j] = R at *
        obtain ⟨b0, b1, b2, b3, b4⟩ := R
        have d0 := hce 0 _ rfl
        have d1 := hce 1 _ rfl
        simp only [Nat.add_zero] at d0
        clear hce hG hc
        by_cases he : b1 = txn
        · have d : (b1 == txn) = true := by simpa using he
          have HF2 := HA.out he
          rw [HF2] at HR
          clear he HA HB HF2
          go_wp2
          refine bodyPost_ret (v := .tuple #[.int .i64 b0, .bool true]) (by simp [results, Tryz.results23, go_sem, *]) rfl ⟨by rw [HR.out], HN1.out.trans HG.out⟩
        · have d : (b1 == txn) = false := by simpa using he
          have HS2 := Lib.hid (HB.out he)
          clear he HA HB
          go_wp2
          go_roundw
          case rel => exact ⟨j + 1, by omega, by go_num, HS2.out, HG.out⟩
          case measure => simp [intOf]; omega
      · obtain rfl : j = q.length := by omega
        have HF2 := find_none (x := txn) (fun j hj => HNo.out j hj hj)
        rw [HF2] at HR
        clear hG HF2
        go_wp2
        refine bodyPost_ret (v := .tuple #[.int .i64 0, .bool false]) (by simp [results, Tryz.results23, go_sem, *]) rfl ⟨by rw [HR.out], HN1.out.trans HG.out⟩
end Go.Proofs.YtodnlelnpidliaaGreat
end

/- The document's own bucket: Get, New. -/
section
namespace Go.Proofs.YtodnlelnpidliaaGreat
open Go.RowKit
set_option linter.unusedVariables false      -- a contract need not use every name

def getB (hs : List Hq) (id : Int) : Int × Int × Rq × Bool := match ofId hs id with
  | none => (0, 0, ⟨0, 0, 0, 0, 0⟩, false)
  | some h => (h.t, h.r, rqB h id, true)
def getV (X : Int × Int × Rq × Bool) : Value := .tuple #[.agg #[.int .i64 X.1, .int .i64 X.2.1], rqV X.2.2.1, .bool X.2.2.2]
set_option maxRecDepth 20000 in
set_option maxHeartbeats 1000000 in
theorem rb_get {w : World} {o po : Nat} {most : Int} {v : Value} {l : List Hm} (h : Rb w o po most v l) (id : Int) :
    Calls Tryz.prog 21 #[.pointer (some ⟨o, 0, none⟩), .int .i64 id] w fun e w' => e = .returned (getV (getB (hsOf l) id)) ∧ Nw w w' := by
  obtain ⟨X, hX⟩ : ∃ X, getB (hsOf l) id = X := ⟨_, rfl⟩
  rw [hX]
  obtain ⟨a, c, rfl, hf⟩ := h.form
  have HF := Lib.hid hf
  have H := Lib.hid h
  have HX := Lib.hid hX
  have hol := h.ol
  clear h hf hX
  obtain ⟨b1, b2, hN, hs2⟩ := two_boxes w (.cells #[.int .i64 0, .int .i64 0] 38) (.cells #[.int .i64 0, .int .i64 0, .int .i64 0, .int .i64 0, .int .i64 0] 47)
  obtain ⟨z, hz⟩ : ∃ z, ((w.alloc (.cells #[.int .i64 0, .int .i64 0] 38)).alloc (.cells #[.int .i64 0, .int .i64 0, .int .i64 0, .int .i64 0, .int .i64 0] 47)) = z := ⟨_, rfl⟩
  rw [hz] at b1 b2 hN hs2
  have HP := Lib.hid (rb_of (H.out.nw hN) id)
  go_enter Tryz.func21, Tryz.ntmps21
  go_wp2_with fail
  refine HP.out.mono ?_
  rintro e w1 ⟨i, rfl, hi, g1⟩
  have HN1 := Lib.hid (hN.trans g1)
  have hq1 := g1.at' b1
  have hq2 := g1.at' b2
  have hsl := hlt hq2
  have hss : w.heap.size + 1 < w1.heap.size := hsl
  rcases hi.of with ⟨rfl, ho⟩ | ⟨k, rfl, hk, ho⟩
  · have HR := Lib.hid (HX.out.symm.trans (show getB (hsOf l) id = _ by unfold getB; rw [ho]))
    have m0 := hcell (j := 0) hq1
    have m1 := hcell (j := 1) hq1
    have mz := fun k => hfz (j := k) hq1
    have d0 := hcell (j := 0) hq2
    have d1 := hcell (j := 1) hq2
    have d2 := hcell (j := 2) hq2
    have d3 := hcell (j := 3) hq2
    have d4 := hcell (j := 4) hq2
    have fz := fun k => hfz (j := k) hq2
    clear HX HP ho hi g1 hz hN b1 b2 hs2 hq1 hq2
    go_wp2
    refine bodyPost_ret (v := .tuple #[.agg #[.int .i64 0, .int .i64 0], .agg #[.int .i64 0, .int .i64 0, .int .i64 0, .int .i64 0, .int .i64 0], .bool false]) (by simp [results, Tryz.results21, go_sem, *]) rfl ⟨by rw [HR.out]; rfl, ?_⟩
    exact ((((((HN1.out.st (Nat.le_refl _) _).st (Nat.le_refl _) _).st (Nat.le_succ _) _).st (Nat.le_succ _) _).st (Nat.le_succ _) _).st (Nat.le_succ _) _).st (Nat.le_succ _) _
  · have HR := Lib.hid (HX.out.symm.trans (show getB (hsOf l) id = _ by unfold getB; rw [ho]))
    rcases HF.out with ⟨_, e, _⟩ | ⟨g, rfl, hog, hgl⟩
    · subst e; simp at hk
    have HW := Lib.hid (H.out.nw HN1.out)
    have hx := HW.out.ok _ (List.getElem_mem hk)
    obtain ⟨f0, f1, f2, f3⟩ := HW.out.at_ k hk
    have hl1 := HW.out.len
    have hki : (k : Int) < (l.length : Int) := by omega
    have c2 := HW.out.c2
    have HG := Lib.hid (fun w2 (g : Nw w1 w2) => r9find l[k].h.t l[k].h.r l[k].h.W id (hmV l[k]) l[k].h.q w2 hx.len (hx.rd.nw g))
    unfold hdV hmV at HG
    obtain ⟨q0, q1, q2, q3, q4, hv, hR2⟩ := fndV_eq l[k].h.q id
    rw [hv] at HG
    obtain ⟨y, hy⟩ : ∃ y, (fnd l[k].h.q id).isSome = y := ⟨_, rfl⟩
    rw [hy] at HG
    have HR3 := Lib.hid (HR.out.trans (show (l[k].h.t, l[k].h.r, rqB l[k].h id, true) = (l[k].h.t, l[k].h.r, (⟨q0, q1, q2, q3, q4⟩ : Rq), true) by unfold rqB; rw [hR2]))
    clear hv hR2 hy HR ho hi hx
    generalize l[k].h.t = t at *
    generalize l[k].h.r = r at *
    generalize l[k].h.W = W at *
    generalize l[k].a = qa at *
    generalize l[k].c = qc at *
    obtain ⟨n, hn⟩ : ∃ n, l[k].h.q.length = n := ⟨_, rfl⟩
    rw [hn] at f2 HG
    have HQ := Lib.hid (And.intro hq1 hq2)
    clear hn HX HP g1 hz hN b1 b2 hs2 hq1 hq2
    go_wp2_with fail
    refine (HG.out _ (Nw.refl _)).mono ?_
    rintro e w2 ⟨rfl, g2⟩
    have hal := allocAt w2 (.cells #[.int .i64 q0, .int .i64 q1, .int .i64 q2, .int .i64 q3, .int .i64 q4] 47)
    have hNa : Nw w2 (w2.alloc (.cells #[.int .i64 q0, .int .i64 q1, .int .i64 q2, .int .i64 q3, .int .i64 q4] 47)) := (Nw.refl w2).alloc _
    have hNy := g2.trans hNa
    have HN2 := Lib.hid (HN1.out.trans hNy)
    have hq1 := hNy.at' HQ.out.1
    have hq2 := hNy.at' HQ.out.2
    have hw2 : w1.heap.size ≤ w2.heap.size := g2.sz
    clear hNa g2
    go_wp2_with fail
    generalize hy2 : w2.alloc (.cells #[.int .i64 q0, .int .i64 q1, .int .i64 q2, .int .i64 q3, .int .i64 q4] 47) = y2 at *
    clear hy2
    obtain ⟨pb, hpb⟩ : ∃ pb, w2.heap.size = pb := ⟨_, rfl⟩
    rw [hpb] at hal hw2
    try rw [hpb]
    have hpl := hlt hal
    have p0 : y2.cell? ⟨pb, 0, none⟩ = some (.int .i64 q0) := hcell hal
    have p1 : y2.cell? ⟨pb, 1, none⟩ = some (.int .i64 q1) := hcell hal
    have p2 : y2.cell? ⟨pb, 2, none⟩ = some (.int .i64 q2) := hcell hal
    have p3 : y2.cell? ⟨pb, 3, none⟩ = some (.int .i64 q3) := hcell hal
    have p4 : y2.cell? ⟨pb, 4, none⟩ = some (.int .i64 q4) := hcell hal
    have m0 : y2.cell? ⟨w.heap.size, 0, none⟩ = some (.int .i64 0) := hcell hq1
    have m1 : y2.cell? ⟨w.heap.size, 1, none⟩ = some (.int .i64 0) := hcell hq1
    have mz := fun k => hfz (j := k) hq1
    have d0 : y2.cell? ⟨w.heap.size + 1, 0, none⟩ = some (.int .i64 0) := hcell hq2
    have d1 : y2.cell? ⟨w.heap.size + 1, 1, none⟩ = some (.int .i64 0) := hcell hq2
    have d2 : y2.cell? ⟨w.heap.size + 1, 2, none⟩ = some (.int .i64 0) := hcell hq2
    have d3 : y2.cell? ⟨w.heap.size + 1, 3, none⟩ = some (.int .i64 0) := hcell hq2
    have d4 : y2.cell? ⟨w.heap.size + 1, 4, none⟩ = some (.int .i64 0) := hcell hq2
    have fz := fun k => hfz (j := k) hq2
    replace c2 := hNy.kp c2
    replace f0 := hNy.kp f0
    replace f1 := hNy.kp f1
    clear f2 f3 hNy hq1 hq2 HG hal
    have ng1 : ¬ (w.heap.size = o) := by omega
    have ng2 : ¬ (w.heap.size + 1 = o) := by omega
    have ng3 : ¬ (w.heap.size = g) := by omega
    have ng4 : ¬ (w.heap.size + 1 = g) := by omega
    have ng5 : ¬ (w.heap.size = pb) := by omega
    have ng6 : ¬ (w.heap.size + 1 = pb) := by omega
    obtain ⟨y0, hy0⟩ : ∃ y0, y2.drew = y0 := ⟨_, rfl⟩
    obtain ⟨S, hSe⟩ : ∃ S : World → Prop, S = fun x => x = y0 ∨ x = ((y0.setCell ⟨w.heap.size, 0, none⟩ (.int .i64 t)).setCell ⟨w.heap.size, 1, none⟩ (.int .i64 r)) ∨ x = (((((((y0.setCell ⟨w.heap.size, 0, none⟩ (.int .i64 t)).setCell ⟨w.heap.size, 1, none⟩ (.int .i64 r)).setCell ⟨w.heap.size + 1, 0, none⟩ (.int .i64 q0)).setCell ⟨w.heap.size + 1, 1, none⟩ (.int .i64 q1)).setCell ⟨w.heap.size + 1, 2, none⟩ (.int .i64 q2)).setCell ⟨w.heap.size + 1, 3, none⟩ (.int .i64 q3)).setCell ⟨w.heap.size + 1, 4, none⟩ (.int .i64 q4)) := ⟨_, rfl⟩
    have s0 : y0.cell? ⟨o, 2, none⟩ = some (.slice (some ⟨g, 0, none⟩) l.length c) := by subst hy0; exact c2
    have t0 : ∀ x, Hs S x → x.cell? ⟨o, 2, none⟩ = some (.slice (some ⟨g, 0, none⟩) l.length c) := fun x h => by subst hSe; rcases h with rfl | rfl | rfl <;> simp [go_sem, s0]
    have s1 : y0.cell? ⟨g, k * 4, none⟩ = some (.int .i64 t) := by subst hy0; exact f0
    have t1 : ∀ x, Hs S x → x.cell? ⟨g, k * 4, none⟩ = some (.int .i64 t) := fun x h => by subst hSe; rcases h with rfl | rfl | rfl <;> simp [go_sem, s1]
    have s2 : y0.cell? ⟨g, k * 4 + 1, none⟩ = some (.int .i64 r) := by subst hy0; exact f1
    have t2 : ∀ x, Hs S x → x.cell? ⟨g, k * 4 + 1, none⟩ = some (.int .i64 r) := fun x h => by subst hSe; rcases h with rfl | rfl | rfl <;> simp [go_sem, s2]
    have s3 : y0.cell? ⟨pb, 0, none⟩ = some (.int .i64 q0) := by subst hy0; exact p0
    have t3 : ∀ x, Hs S x → x.cell? ⟨pb, 0, none⟩ = some (.int .i64 q0) := fun x h => by subst hSe; rcases h with rfl | rfl | rfl <;> simp [go_sem, s3]
    have s4 : y0.cell? ⟨pb, 1, none⟩ = some (.int .i64 q1) := by subst hy0; exact p1
    have t4 : ∀ x, Hs S x → x.cell? ⟨pb, 1, none⟩ = some (.int .i64 q1) := fun x h => by subst hSe; rcases h with rfl | rfl | rfl <;> simp [go_sem, s4]
    have s5 : y0.cell? ⟨pb, 2, none⟩ = some (.int .i64 q2) := by subst hy0; exact p2
    have t5 : ∀ x, Hs S x → x.cell? ⟨pb, 2, none⟩ = some (.int .i64 q2) := fun x h => by subst hSe; rcases h with rfl | rfl | rfl <;> simp [go_sem, s5]
    have s6 : y0.cell? ⟨pb, 3, none⟩ = some (.int .i64 q3) := by subst hy0; exact p3
    have t6 : ∀ x, Hs S x → x.cell? ⟨pb, 3, none⟩ = some (.int .i64 q3) := fun x h => by subst hSe; rcases h with rfl | rfl | rfl <;> simp [go_sem, s6]
    have s7 : y0.cell? ⟨pb, 4, none⟩ = some (.int .i64 q4) := by subst hy0; exact p4
    have t7 : ∀ x, Hs S x → x.cell? ⟨pb, 4, none⟩ = some (.int .i64 q4) := fun x h => by subst hSe; rcases h with rfl | rfl | rfl <;> simp [go_sem, s7]
    have m0' : y0.cell? ⟨w.heap.size, 0, none⟩ = some (.int .i64 0) := by subst hy0; exact m0
    have m1' : y0.cell? ⟨w.heap.size, 1, none⟩ = some (.int .i64 0) := by subst hy0; exact m1
    have d0' : y0.cell? ⟨w.heap.size + 1, 0, none⟩ = some (.int .i64 0) := by subst hy0; exact d0
    have d1' : y0.cell? ⟨w.heap.size + 1, 1, none⟩ = some (.int .i64 0) := by subst hy0; exact d1
    have d2' : y0.cell? ⟨w.heap.size + 1, 2, none⟩ = some (.int .i64 0) := by subst hy0; exact d2
    have d3' : y0.cell? ⟨w.heap.size + 1, 3, none⟩ = some (.int .i64 0) := by subst hy0; exact d3
    have d4' : y0.cell? ⟨w.heap.size + 1, 4, none⟩ = some (.int .i64 0) := by subst hy0; exact d4
    have mz' : ∀ j, y0.frozen? ⟨w.heap.size, j, none⟩ = false := by subst hy0; exact mz
    have fz' : ∀ j, y0.frozen? ⟨w.heap.size + 1, j, none⟩ = false := by subst hy0; exact fz
    have hS0 : Hs S y2.drew := by rw [hy0, hSe]; exact .inl rfl
    have hS1 : Hs S ((y0.setCell ⟨w.heap.size, 0, none⟩ (.int .i64 t)).setCell ⟨w.heap.size, 1, none⟩ (.int .i64 r)) := by rw [hSe]; exact .inr (.inl rfl)
    have hS2 : Hs S (((((((y0.setCell ⟨w.heap.size, 0, none⟩ (.int .i64 t)).setCell ⟨w.heap.size, 1, none⟩ (.int .i64 r)).setCell ⟨w.heap.size + 1, 0, none⟩ (.int .i64 q0)).setCell ⟨w.heap.size + 1, 1, none⟩ (.int .i64 q1)).setCell ⟨w.heap.size + 1, 2, none⟩ (.int .i64 q2)).setCell ⟨w.heap.size + 1, 3, none⟩ (.int .i64 q3)).setCell ⟨w.heap.size + 1, 4, none⟩ (.int .i64 q4)) := by rw [hSe]; exact .inr (.inr rfl)
    clear hSe c2 f0 f1 p0 p1 p2 p3 p4
    refine region_plan (.take (.take (.take (.take (.take (.take (.take (.take (.take (.off (.go1 (.off (.go1 (.take .fin)))))))))))))) (Hs S) (by kernel_rfl) (by kernel_rfl) (by kernel_rfl) hS0 ?_
    rw [hy0]
    iterate 9 (refine HP.take' ?_; (first | (refine ⟨undef, Or.inr ⟨by rfl, rfl⟩, ?_⟩) | (apply Exists.intro; refine ⟨Or.inl ⟨by rfl, ?_⟩, ?_⟩; (intro x hx'; go_simp; first | done | with_reducible rfl))); (try simp only [Act.put, List.setIfInBounds_toArray, List.set_cons_zero, List.set_cons_succ]))
    refine HP.off ?_
    refine HP.go1 (fun KK hKK => ?_)
    go_simp
    refine hKK.out _ _ hS1 ?_
    intro _
    clear hKK KK
    (try simp only [Act.put, List.setIfInBounds_toArray, List.set_cons_zero, List.set_cons_succ])
    refine HP.off ?_
    refine HP.go1 (fun KK hKK => ?_)
    go_simp
    refine hKK.out _ _ hS2 ?_
    intro _
    clear hKK KK
    (try simp only [Act.put, List.setIfInBounds_toArray, List.set_cons_zero, List.set_cons_succ])
    iterate 1 (refine HP.take' ?_; (first | (refine ⟨undef, Or.inr ⟨by rfl, rfl⟩, ?_⟩) | (apply Exists.intro; refine ⟨Or.inl ⟨by rfl, ?_⟩, ?_⟩; (intro x hx'; go_simp; first | done | with_reducible rfl))); (try simp only [Act.put, List.setIfInBounds_toArray, List.set_cons_zero, List.set_cons_succ]))
    refine HP.end_ ?_
    refine NoPanic.normal ?_
    subst hy0
    clear hS0 hS1 hS2
    go_wp2
    refine bodyPost_ret (v := .tuple #[.agg #[.int .i64 t, .int .i64 r], .agg #[.int .i64 q0, .int .i64 q1, .int .i64 q2, .int .i64 q3, .int .i64 q4], .bool true]) (by simp [results, Tryz.results21, go_sem, *]) rfl ⟨by rw [HR3.out]; rfl, ?_⟩
    exact ((((((HN2.out.dr.st (Nat.le_refl _) _).st (Nat.le_refl _) _).st (Nat.le_succ _) _).st (Nat.le_succ _) _).st (Nat.le_succ _) _).st (Nat.le_succ _) _).st (Nat.le_succ _) _
end Go.Proofs.YtodnlelnpidliaaGreat
end

/- The document's own bucket: a head is put in place of another one. -/
section
namespace Go.Proofs.YtodnlelnpidliaaGreat
open Go.RowKit
set_option linter.unusedVariables false      -- a contract need not use every name

theorem hrows_mid (l : List Hm) (k : Nat) (hk : k < l.length) : rowsOf hmrow l = rowsOf hmrow (l.take k) ++ (hmrow l[k] ++ rowsOf hmrow (l.drop (k + 1))) := by
  have e : l = l.take k ++ l[k] :: l.drop (k + 1) := by rw [← List.drop_eq_getElem_cons hk, List.take_append_drop]
  conv => lhs; rw [e]
  rw [rows_app]
  rfl
theorem hrows_put (l : List Hm) (k : Nat) (hk : k < l.length) (x : Hm) :
    ((((rowsOf hmrow l).set (k * 4) (.int .i64 x.h.t)).set (k * 4 + 1) (.int .i64 x.h.r)).set (k * 4 + 2) (.slice x.a x.h.q.length x.c)).set (k * 4 + 3) (.int .i64 x.h.W) = rowsOf hmrow (l.set k x) := by
  have hA : (rowsOf hmrow (l.take k)).length = k * 4 := by rw [rows_len (sz := 4) elemHm.len, List.length_take, Nat.min_eq_left (Nat.le_of_lt hk)]
  have h2 := hrows_mid (l.set k x) k (by rw [List.length_set]; exact hk)
  rw [List.take_set_of_le (Nat.le_refl k), List.drop_set_of_lt (Nat.lt_succ_self k), List.getElem_set_self] at h2
  rw [hrows_mid l k hk, h2, ← hA]
  have h0 := set_in (A := rowsOf hmrow (l.take k)) (M := hmrow l[k]) (B := rowsOf hmrow (l.drop (k + 1))) (j := 0) (by simp [hmrow]) (.int .i64 x.h.t)
  have h0' : (rowsOf hmrow (l.take k) ++ (hmrow l[k] ++ rowsOf hmrow (l.drop (k + 1)))).set (rowsOf hmrow (l.take k)).length (.int .i64 x.h.t) = _ := h0
  rw [h0', set_in (by simp [hmrow]), set_in (by simp [hmrow]), set_in (by simp [hmrow])]
  rfl
theorem hown_put {w : World} {g0 g cap : Nat} {l : List Hm} (h : HmOwn w g0 (.slice (some ⟨g, 0, none⟩) l.length cap) l) (k : Nat) (hk : k < l.length) (x : Hm) :
    HmOwn ((((w.setCell ⟨g, k * 4, none⟩ (.int .i64 x.h.t)).setCell ⟨g, k * 4 + 1, none⟩ (.int .i64 x.h.r)).setCell ⟨g, k * 4 + 2, none⟩ (.slice x.a x.h.q.length x.c)).setCell ⟨g, k * 4 + 3, none⟩ (.int .i64 x.h.W)) g0 (.slice (some ⟨g, 0, none⟩) l.length cap) (l.set k x) := by
  have h1 := (World.ownsRow.stored h (k * 4) (.int .i64 x.h.t)).1
  have h2 := (World.ownsRow.stored h1 (k * 4 + 1) (.int .i64 x.h.r)).1
  have h3 := (World.ownsRow.stored h2 (k * 4 + 2) (.slice x.a x.h.q.length x.c)).1
  have h4 := (World.ownsRow.stored h3 (k * 4 + 3) (.int .i64 x.h.W)).1
  unfold HmOwn Own
  rw [List.length_set, ← hrows_put l k hk x]
  exact h4
theorem HmOk.tch {w w' : World} {o : Nat} {u : Option Nat} {x : Hm} {S : Nat → Prop} (h : HmOk w o u x) (t : Tch S w w') (hS : ∀ b, S b → b ≤ o ∨ u = some b) : HmOk w' o u x := by
  refine ⟨?_, h.cap, h.len, h.new, h.off⟩
  obtain ⟨a, c, e, q | ⟨b, o', e2, hc⟩⟩ := h.rd
  · exact ⟨a, c, e, .inl q⟩
  · subst e2
    by_cases hq : x.h.q = []
    · exact ⟨_, c, e, .inl ⟨hq, fun q => by cases q⟩⟩
    have hb : ¬ S b := fun hs => by
      rcases hS b hs with q | q
      · have := h.new _ _ _ e
        have : o + 1 ≤ b := this
        omega
      · unfold hmV at e
        injection e with e1 _ _
        exact h.off _ e1 hq q
    exact ⟨_, c, e, .inr ⟨b, o', rfl, Nat.lt_of_lt_of_le hc.lt t.size, fun i hi c u hu => (t.cell hc.lt hb).trans (hc.cell i hi c u hu)⟩⟩
/-- The blocks that a bucket uses. -/
def RbIn (o : Nat) (v : Value) (l : List Hm) (b : Nat) : Prop := b = o ∨ v.ownBlock = some b ∨ ∃ x ∈ l, ∃ a, x.a = some a ∧ b = a.block
/-- What a call does to a bucket: it changes the bucket's own blocks and its pool's row. -/
structure RbTo (w : World) (o po pg : Nat) (most : Int) (v : Value) (l : List Hm) (w' : World) (v' : Value) (l' : List Hm) : Prop where
  rb : Rb w' o po most v' l'
  tch : Tch (fun b => b = o ∨ v.ownBlock = some b ∨ b = pg) w w'
  inn : ∀ b, RbIn o v' l' b → RbIn o v l b ∨ w.heap.size ≤ b
theorem Rb.same {w w' : World} {o po : Nat} {most : Int} {v : Value} {l : List Hm} (h : Rb w o po most v l) (g : Nw w w') (pg : Nat) : RbTo w o po pg most v l w' v l := ⟨h.nw g, Tch.nw g, fun b hb => .inl hb⟩
theorem Rb.put {w : World} {o po : Nat} {most : Int} {g cap : Nat} {l : List Hm} (h : Rb w o po most (.slice (some ⟨g, 0, none⟩) l.length cap) l) (k : Nat) (hk : k < l.length) (x : Hm) (hx : HmOk w o (some g) x) :
    Rb ((((w.setCell ⟨g, k * 4, none⟩ (.int .i64 x.h.t)).setCell ⟨g, k * 4 + 1, none⟩ (.int .i64 x.h.r)).setCell ⟨g, k * 4 + 2, none⟩ (.slice x.a x.h.q.length x.c)).setCell ⟨g, k * 4 + 3, none⟩ (.int .i64 x.h.W)) o po most (.slice (some ⟨g, 0, none⟩) l.length cap) (l.set k x)
    ∧ Tch (fun b => b = g) w ((((w.setCell ⟨g, k * 4, none⟩ (.int .i64 x.h.t)).setCell ⟨g, k * 4 + 1, none⟩ (.int .i64 x.h.r)).setCell ⟨g, k * 4 + 2, none⟩ (.slice x.a x.h.q.length x.c)).setCell ⟨g, k * 4 + 3, none⟩ (.int .i64 x.h.W)) := by
  have ho := hown_put h.own k hk x
  have t : Tch (fun b => b = g) w ((((w.setCell ⟨g, k * 4, none⟩ (.int .i64 x.h.t)).setCell ⟨g, k * 4 + 1, none⟩ (.int .i64 x.h.r)).setCell ⟨g, k * 4 + 2, none⟩ (.slice x.a x.h.q.length x.c)).setCell ⟨g, k * 4 + 3, none⟩ (.int .i64 x.h.W)) :=
    ((((Tch.refl (fun b => b = g) w).set (p := ⟨g, k * 4, none⟩) (.inl rfl) _).set (p := ⟨g, k * 4 + 1, none⟩) (.inl rfl) _).set (p := ⟨g, k * 4 + 2, none⟩) (.inl rfl) _).set (p := ⟨g, k * 4 + 3, none⟩) (.inl rfl) _
  have hog : o < g := oge h.own rfl
  have hne : ¬ (o = g) := by omega
  refine ⟨?_, t⟩
  revert ho t
  generalize ((((w.setCell ⟨g, k * 4, none⟩ (.int .i64 x.h.t)).setCell ⟨g, k * 4 + 1, none⟩ (.int .i64 x.h.r)).setCell ⟨g, k * 4 + 2, none⟩ (.slice x.a x.h.q.length x.c)).setCell ⟨g, k * 4 + 3, none⟩ (.int .i64 x.h.W)) = w4
  intro ho t
  refine ⟨(t.cell h.ol hne).trans h.c0, (t.cell h.ol hne).trans h.c1, (t.cell h.ol hne).trans h.c2, fun j => (t.froz h.ol hne).trans (h.fz j), Nat.lt_of_lt_of_le h.ol t.size, h.pl, ho, fun y hy => ?_, by rw [List.length_set]; exact h.len⟩
  rcases List.mem_or_eq_of_mem_set hy with q | rfl
  · exact (h.ok y q).tch t (fun b e => .inr (by rw [e]; rfl))
  · exact hx.tch t (fun b e => .inr (by rw [e]))
theorem put_set {l : List Hm} (s : SrtH (hsOf l)) {k : Nat} (hk : k < l.length) {x : Hm} (e : nmH x.h = nmH l[k].h) : putH (hsOf l) x.h = hsOf (l.set k x) := by
  have e0 : hsOf l = hsOf (l.take k) ++ l[k].h :: hsOf (l.drop (k + 1)) := by
    have : l = l.take k ++ l[k] :: l.drop (k + 1) := by rw [← List.drop_eq_getElem_cons hk, List.take_append_drop]
    show l.map Hm.h = (l.take k).map Hm.h ++ l[k].h :: (l.drop (k + 1)).map Hm.h
    conv => lhs; rw [this]
    rw [List.map_append, List.map_cons]
  have e1 : hsOf (l.set k x) = hsOf (l.take k) ++ x.h :: hsOf (l.drop (k + 1)) := by
    rw [List.set_eq_take_append_cons_drop, if_pos hk]; simp [hsOf]
  rw [e1, e0]
  have hb : ∀ y ∈ hsOf (l.take k), nlt (nmH y) (nmH x.h) := by
    intro y hy
    rw [e]
    obtain ⟨z, hz, rfl⟩ := List.mem_map.1 hy
    obtain ⟨j, hj, rfl⟩ := List.getElem_of_mem hz
    simp only [List.length_take] at hj
    rw [List.getElem_take]
    exact srt_at s (by omega) hk (by omega)
  rw [put_split hb, put_old e.symm]
/-- A head that a call has returned can be put. -/
theorem Rb.got {w w2 : World} {o po : Nat} {most : Int} {g cap : Nat} {l : List Hm} (h : Rb w o po most (.slice (some ⟨g, 0, none⟩) l.length cap) l) (g2 : Nw w w2) (X : Hq) {a : Option Addr} {c : Nat} (hrd : RqAt w2 (.slice a X.q.length c) X.q) (hcap : capOk (.slice a X.q.length c)) (hnew : newV w.heap.size (.slice a X.q.length c)) (hlen : X.q.length ≤ 1000) :
    HmOk w2 o (some g) ⟨X, a, c⟩ := by
  have hg : g < w.heap.size := olt h.own rfl
  refine ⟨hrd, hcap, hlen, fun b n k e => ?_, fun b e _ q => ?_⟩
  · have := hnew b n k e
    have := h.ol
    omega
  · have : a = some b := e
    subst this
    have := hnew b _ _ rfl
    have := Option.some.inj q
    omega
theorem Rb.put_to {w w2 : World} {o po : Nat} {most : Int} {g cap : Nat} {l : List Hm} (h : Rb w o po most (.slice (some ⟨g, 0, none⟩) l.length cap) l) (g2 : Nw w w2) (pg : Nat) (k : Nat) (hk : k < l.length) (x : Hm) (hx : HmOk w2 o (some g) x) (hnew : newV w.heap.size (hmV x)) :
    RbTo w o po pg most (.slice (some ⟨g, 0, none⟩) l.length cap) l ((((w2.setCell ⟨g, k * 4, none⟩ (.int .i64 x.h.t)).setCell ⟨g, k * 4 + 1, none⟩ (.int .i64 x.h.r)).setCell ⟨g, k * 4 + 2, none⟩ (.slice x.a x.h.q.length x.c)).setCell ⟨g, k * 4 + 3, none⟩ (.int .i64 x.h.W)) (.slice (some ⟨g, 0, none⟩) l.length cap) (l.set k x) := by
  obtain ⟨h1, h2⟩ := (h.nw g2).put k hk x hx
  refine ⟨h1, (Tch.nw g2).trans' h2 (fun i _ e => .inr (.inl (by rw [e]; rfl))), fun b hb => ?_⟩
  rcases hb with q | q | ⟨y, hy, a, ha, e⟩
  · exact .inl (.inl q)
  · exact .inl (.inr (.inl q))
  · rcases List.mem_or_eq_of_mem_set hy with q | rfl
    · exact .inl (.inr (.inr ⟨y, q, a, ha, e⟩))
    · refine .inr ?_
      rw [e]
      refine hnew a y.h.q.length y.c ?_
      unfold hmV
      rw [ha]
theorem RbTo.nw {w w' w2 : World} {o po pg : Nat} {most : Int} {v v' : Value} {l l' : List Hm} (h : RbTo w o po pg most v l w' v' l') (g : Nw w' w2) : RbTo w o po pg most v l w2 v' l' := ⟨h.rb.nw g, h.tch.trans (Tch.nw g), h.inn⟩
theorem RbTo.pre {w w1 w' : World} {o po pg : Nat} {most : Int} {v v' : Value} {l l' : List Hm} (g : Nw w w1) (h : RbTo w1 o po pg most v l w' v' l') : RbTo w o po pg most v l w' v' l' :=
  ⟨h.rb, (Tch.nw g).trans h.tch, fun b hb => (h.inn b hb).imp id (fun q => Nat.le_trans g.sz q)⟩
theorem rq_tch {w w' : World} {S : Nat → Prop} {v : Value} {q : List Rq} (h : RqAt w v q) (t : Tch S w w') (hS : ∀ a n c, v = .slice (some a) n c → ¬ S a.block) : RqAt w' v q := by
  obtain ⟨a, c, e, h | ⟨b, o, e2, hc⟩⟩ := h
  · exact ⟨a, c, e, .inl h⟩
  · subst e2
    have hb := hS _ _ _ e
    exact ⟨_, c, e, .inr ⟨b, o, rfl, Nat.lt_of_lt_of_le hc.lt t.size, fun i hi c u hu => (t.cell hc.lt hb).trans (hc.cell i hi c u hu)⟩⟩
theorem own_tchS {w w' : World} {S : Nat → Prop} {g0 e size n : Nat} {v : Value} {xs : List Value} (h : w.ownsRow g0 e size v n xs) (t : Tch S w w') (hS : ∀ g, v.ownBlock = some g → ¬ S g) : w'.ownsRow g0 e size v n xs := by
  refine ⟨h.1, ?_⟩
  rcases h.2 with hn | ⟨g, cap, cur, rfl, hb, hgg, rest⟩
  · exact .inl hn
  · exact .inr ⟨g, cap, cur, rfl, hb, (t.block g (Array.getElem?_eq_some_iff.1 hgg).1 (hS g rfl)).trans hgg, rest⟩
theorem rq_low {w : World} {x : Hm} {b : Addr} (h : RqAt w (hmV x) x.h.q) (e : x.a = some b) (hq : x.h.q ≠ []) : b.block < w.heap.size := by
  obtain ⟨a, c, e1, ⟨q, _⟩ | ⟨b', o', e2, hc⟩⟩ := h
  · exact absurd q hq
  · unfold hmV at e1
    rw [e, e2] at e1
    injection e1 with e1 _ _
    injection e1 with e1
    rw [e1]
    exact hc.lt
/-- The bucket gets another row of heads. -/
theorem Rb.row {w w5 : World} {o po : Nat} {most : Int} {v v6 : Value} {l l6 : List Hm} {g0 : Nat} (h : Rb w o po most v l) (g : Nw w w5) (ho : HmOwn w5 g0 v6 l6) (hg : w.heap.size ≤ g0)
    (hs : ∀ x ∈ l6, x ∈ l ∨ (HmOk w5 o none x ∧ newV w.heap.size (hmV x) ∧ ∀ b, x.a = some b → x.h.q ≠ [] → b.block < g0)) (hl : l6.length ≤ 64) (pg : Nat) :
    RbTo w o po pg most v l (w5.setCell ⟨o, 2, none⟩ v6) v6 l6 := by
  have hol := h.ol
  have h5 := h.nw g
  have t : Tch (fun b => b = o) w5 (w5.setCell ⟨o, 2, none⟩ v6) := setCell_at w5 ⟨o, 2, none⟩ v6
  have hge : ∀ b, v6.ownBlock = some b → g0 ≤ b := fun b hb => oge ho hb
  refine ⟨⟨?_, ?_, ?_, fun j => ?_, ?_, h.pl, ?_, fun x hx => ?_, hl⟩, (Tch.nw g).trans' t (fun i _ e => .inl e), fun b hb => ?_⟩
  · exact (World.cell?_setCell_other _ _ _ _ (by simp)).trans h5.c0
  · exact (World.cell?_setCell_other _ _ _ _ (by simp)).trans h5.c1
  · exact World.cell?_setCell_same _ _ _ h5.c2
  · rw [World.frozen?_setCell]; exact h5.fz j
  · simpa using h5.ol
  · refine olow (own_tchS ho t (fun b hb e => ?_)) (fun b hb => ?_)
    · have := hge b hb; omega
    · have := hge b hb; omega
  · have key : HmOk w5 o v6.ownBlock x := by
      rcases hs x hx with q | ⟨q1, q2, q3⟩
      · have hx5 := (h.ok x q).nw g
        refine ⟨hx5.rd, hx5.cap, hx5.len, hx5.new, fun b e hq e2 => ?_⟩
        have h1 := rq_low (h.ok x q).rd e hq
        have h2 := hge _ e2
        omega
      · refine ⟨q1.rd, q1.cap, q1.len, q1.new, fun b e hq e2 => ?_⟩
        have h1 := q3 b e hq
        have h2 := hge _ e2
        omega
    exact key.tch t (fun b e => .inl (by omega))
  · rcases hb with q | q | ⟨x, hx, a, ha, e⟩
    · exact .inl (.inl q)
    · exact .inr (Nat.le_trans hg (hge b q))
    · rcases hs x hx with q | ⟨q1, q2, q3⟩
      · exact .inl (.inr (.inr ⟨x, q, a, ha, e⟩))
      · refine .inr ?_
        rw [e]
        refine q2 a x.h.q.length x.c ?_
        unfold hmV
        rw [ha]
theorem del_set {l : List Hm} (s : SrtH (hsOf l)) {k : Nat} (hk : k < l.length) : delH (hsOf l) (nmH l[k].h) = hsOf (l.take k ++ l.drop (k + 1)) := by
  have e0 : hsOf l = hsOf (l.take k) ++ l[k].h :: hsOf (l.drop (k + 1)) := by
    have : l = l.take k ++ l[k] :: l.drop (k + 1) := by rw [← List.drop_eq_getElem_cons hk, List.take_append_drop]
    show l.map Hm.h = (l.take k).map Hm.h ++ l[k].h :: (l.drop (k + 1)).map Hm.h
    conv => lhs; rw [this]
    rw [List.map_append, List.map_cons]
  have h1 : ∀ y ∈ hsOf (l.take k), (!decide (nmH y = nmH l[k].h)) = true := by
    intro y hy
    obtain ⟨z, hz, rfl⟩ := List.mem_map.1 hy
    obtain ⟨j, hj, rfl⟩ := List.getElem_of_mem hz
    simp only [List.length_take] at hj
    rw [List.getElem_take]
    have := srt_at s (show j < l.length by omega) hk (by omega)
    simp only [Bool.not_eq_true', decide_eq_false_iff_not]
    intro e; rw [e] at this; exact nlt_irr _ this
  have h2 : ∀ y ∈ hsOf (l.drop (k + 1)), (!decide (nmH y = nmH l[k].h)) = true := by
    intro y hy
    obtain ⟨z, hz, rfl⟩ := List.mem_map.1 hy
    obtain ⟨j, hj, rfl⟩ := List.getElem_of_mem hz
    simp only [List.length_drop] at hj
    rw [List.getElem_drop]
    have := srt_at s hk (show k + 1 + j < l.length by omega) (by omega)
    simp only [Bool.not_eq_true', decide_eq_false_iff_not]
    intro e; rw [e] at this; exact nlt_irr _ this
  unfold delH
  rw [e0, List.filter_append, List.filter_cons, if_neg (by simp), List.filter_eq_self.2 h1, List.filter_eq_self.2 h2]
  show _ = (l.take k ++ l.drop (k + 1)).map Hm.h
  rw [List.map_append]
/-- Two changes, the first of which keeps the heads' row. -/
theorem RbTo.then {w w1 w2 : World} {o po pg : Nat} {most : Int} {v v2 : Value} {l l1 l2 : List Hm} (h : RbTo w o po pg most v l w1 v l1) (k : RbTo w1 o po pg most v l1 w2 v2 l2) : RbTo w o po pg most v l w2 v2 l2 :=
  ⟨k.rb, h.tch.trans k.tch, fun b hb => (k.inn b hb).elim (h.inn b) (fun q => .inr (Nat.le_trans h.tch.size q))⟩
/-- What lies below the bucket may change. -/
theorem Rb.low {w w' : World} {S : Nat → Prop} {o po : Nat} {most : Int} {v : Value} {l : List Hm} (h : Rb w o po most v l) (t : Tch S w w') (hS : ∀ b, S b → b < o) : Rb w' o po most v l := by
  have ho : ¬ S o := fun e => by have := hS o e; omega
  exact ⟨(t.cell h.ol ho).trans h.c0, (t.cell h.ol ho).trans h.c1, (t.cell h.ol ho).trans h.c2, fun j => (t.froz h.ol ho).trans (h.fz j), Nat.lt_of_lt_of_le h.ol t.size, h.pl,
    own_tchS h.own t (fun b hb e => by have := oge h.own hb; have := hS b e; omega), fun x hx => (h.ok x hx).tch t (fun b e => .inl (Nat.le_of_lt (hS b e))), h.len⟩
theorem RbTo.pg {w w' : World} {o po pg : Nat} {most : Int} {v v' : Value} {l l' : List Hm} (h : RbTo w o po o most v l w' v' l') : RbTo w o po pg most v l w' v' l' :=
  ⟨h.rb, h.tch.mono (fun b _ e => by rcases e with e | e | e; exact .inl e; exact .inr (.inl e); exact .inl e), h.inn⟩
theorem RbTo.low {w w1 w' : World} {o po pg : Nat} {most : Int} {v v' : Value} {l l' : List Hm} (g : Tch (fun b => b = pg) w w1) (h : RbTo w1 o po pg most v l w' v' l') : RbTo w o po pg most v l w' v' l' :=
  ⟨h.rb, (g.mono (fun b _ e => .inr (.inr e))).trans h.tch, fun b hb => (h.inn b hb).imp id (fun q => Nat.le_trans g.size q)⟩
end Go.Proofs.YtodnlelnpidliaaGreat
end

/- The document's own bucket: Hand. -/
section
namespace Go.Proofs.YtodnlelnpidliaaGreat
open Go.RowKit
set_option linter.unusedVariables false      -- a contract need not use every name

theorem hnR_len (h : Hq) (id txn : Int) : (hnR h id txn).1.q.length ≤ h.q.length := by
  unfold hnR
  split
  · exact Nat.zero_le _
  · split
    · exact Nat.zero_le _
    · split
      · exact Nat.zero_le _
      · show (chg _ _ _).length ≤ _
        rw [chg_len]; exact Nat.le_refl _
theorem hnR_nm (h : Hq) (id txn : Int) (he : (hnR h id txn).2 = 0) : (hnR h id txn).1.t = h.t ∧ (hnR h id txn).1.r = h.r := by
  unfold hnR at he ⊢
  split
  · rename_i e; rw [e] at he; cases he
  · rename_i e
    rw [e] at he
    split
    · rename_i e2; simp only [e2, if_true] at he; cases he
    · rename_i e2
      split
      · rename_i e3; simp only [e2, e3, if_true] at he; simp at he
      · exact ⟨rfl, rfl⟩
set_option maxRecDepth 20000 in
set_option maxHeartbeats 1000000 in
theorem rb_hand {w : World} {o po : Nat} {most : Int} {v : Value} {l : List Hm} (h : Rb w o po most v l) (s : SrtH (hsOf l)) (hok : ∀ x ∈ l, Ok x.h.W x.h.q) (pg : Nat) (id txn : Int) :
    Calls Tryz.prog 42 #[.pointer (some ⟨o, 0, none⟩), .int .i64 id, .int .i64 txn] w fun e w' => e = .returned (.int .i64 (hnBE (hsOf l) id txn)) ∧ ∃ v' l', hsOf l' = hnBS (hsOf l) id txn ∧ RbTo w o po pg most v l w' v' l' := by
  obtain ⟨a, c, rfl, hf⟩ := h.form
  have HF := Lib.hid hf
  have H := Lib.hid h
  have HS := Lib.hid s
  have HO := Lib.hid hok
  have hol := h.ol
  have HP := Lib.hid (rb_of h id)
  obtain ⟨E, hE⟩ : ∃ E, hnBE (hsOf l) id txn = E := ⟨_, rfl⟩
  obtain ⟨T, hT⟩ : ∃ T, hnBS (hsOf l) id txn = T := ⟨_, rfl⟩
  rw [hE, hT]
  have HE := Lib.hid hE
  have HT := Lib.hid hT
  clear h hf s hok hE hT
  go_enter Tryz.func42, Tryz.ntmps42
  go_wp2_with fail
  refine HP.out.mono ?_
  rintro e w1 ⟨i, rfl, hi, g1⟩
  have HN1 := Lib.hid g1
  rcases hi.of with ⟨rfl, ho⟩ | ⟨k, rfl, hk, ho⟩
  · have he : hnBE (hsOf l) id txn = 5 := by unfold hnBE; rw [ho]
    have HR := Lib.hid (HE.out.symm.trans he)
    have HR2 := Lib.hid (HT.out.symm.trans (show hnBS (hsOf l) id txn = hsOf l by unfold hnBS; rw [if_neg (by rw [he]; decide)]))
    clear he HE HT HP ho hi g1
    go_wp2
    go_ret
    exact ⟨by rw [HR.out]; rfl, _, l, HR2.out.symm, H.out.same HN1.out pg⟩
  · rcases HF.out with ⟨_, e, _⟩ | ⟨g, rfl, hog, hgl⟩
    · subst e; simp at hk
    have HW := Lib.hid (H.out.nw HN1.out)
    have hx := HW.out.ok _ (List.getElem_mem hk)
    obtain ⟨f0, f1, f2, f3⟩ := HW.out.at_ k hk
    have hl1 := HW.out.len
    have hki : (k : Int) < (l.length : Int) := by omega
    have c2 := HW.out.c2
    have HG := Lib.hid (fun w2 (g : Nw w1 w2) => r9handN l[k].h.t l[k].h.r l[k].h.W id txn (hmV l[k]) l[k].h.q w2 hx.len (HO.out _ (List.getElem_mem hk)) hx.cap (hx.rd.nw g))
    have he : hnBE (hsOf l) id txn = (hnR l[k].h id txn).2 := by unfold hnBE; rw [ho]
    have hs : hnBS (hsOf l) id txn = if (hnR l[k].h id txn).2 = 0 then putH (hsOf l) (hnR l[k].h id txn).1 else hsOf l := by unfold hnBS; rw [he]; split; rw [ho]; rfl
    have HR := Lib.hid (HE.out.symm.trans he)
    have HR2 := Lib.hid (HT.out.symm.trans hs)
    have hln := Nat.le_trans (hnR_len l[k].h id txn) hx.len
    have hnm := hnR_nm l[k].h id txn
    rw [show (⟨l[k].h.t, l[k].h.r, l[k].h.W, l[k].h.q⟩ : Hq) = l[k].h from rfl] at HG
    unfold hdV hmV at HG
    obtain ⟨Y, hY⟩ : ∃ Y, hnR l[k].h id txn = Y := ⟨_, rfl⟩
    rw [hY] at HG HR HR2 hln hnm
    obtain ⟨Y, er⟩ := Y
    have HLn := Lib.hid hln
    have HNm := Lib.hid (fun e => (hnm e : Y.t = l[k].h.t ∧ Y.r = l[k].h.r))
    clear hY he hs HE HT ho hi hx hln hnm HP
    generalize l[k].a = qa at *
    generalize l[k].c = qc at *
    obtain ⟨n, hn⟩ : ∃ n, l[k].h.q.length = n := ⟨_, rfl⟩
    obtain ⟨ht0, ht⟩ : ∃ t, l[k].h.t = t := ⟨_, rfl⟩
    obtain ⟨hr0, hr⟩ : ∃ r, l[k].h.r = r := ⟨_, rfl⟩
    obtain ⟨hW0, hW⟩ : ∃ W, l[k].h.W = W := ⟨_, rfl⟩
    rw [ht] at f0 HG
    rw [hr] at f1 HG
    rw [hn] at f2 HG
    rw [hW] at f3 HG
    clear hn ht hr hW g1
    go_wp2_with fail
    refine (HG.out _ (Nw.refl _)).mono ?_
    rintro e w2 ⟨v2, rfl, g2, hrd, hcap, hnew⟩
    obtain ⟨a2, n2, rfl⟩ := hrd.form
    simp only [hdV]
    have hal := allocAt w2 (.cells #[.int .i64 Y.t, .int .i64 Y.r, .slice a2 Y.q.length n2, .int .i64 Y.W] 56)
    have hNa : Nw w2 (w2.alloc (.cells #[.int .i64 Y.t, .int .i64 Y.r, .slice a2 Y.q.length n2, .int .i64 Y.W] 56)) := (Nw.refl w2).alloc _
    have hNy := g2.trans hNa
    have HK := Lib.hid (And.intro hrd (And.intro hcap hnew))
    have HA := Lib.hid hNa
    clear hrd hcap hnew hNa
    by_cases her : er = 0
    · subst her
      have HY := Lib.hid (HNm.out rfl)
      go_wp2_with fail
      generalize hy2 : w2.alloc (.cells #[.int .i64 Y.t, .int .i64 Y.r, .slice a2 Y.q.length n2, .int .i64 Y.W] 56) = y2 at *
      clear hy2
      obtain ⟨pb, hpb⟩ : ∃ pb, w2.heap.size = pb := ⟨_, rfl⟩
      rw [hpb] at hal
      try rw [hpb]
      have hpl := hlt hal
      have hgy : g < y2.heap.size := Nat.lt_of_lt_of_le hgl (HN1.out.trans hNy).sz
      have p0 : y2.cell? ⟨pb, 0, none⟩ = some (.int .i64 Y.t) := hcell hal
      have p1 : y2.cell? ⟨pb, 1, none⟩ = some (.int .i64 Y.r) := hcell hal
      have p2 : y2.cell? ⟨pb, 2, none⟩ = some (.slice a2 Y.q.length n2) := hcell hal
      have p3 : y2.cell? ⟨pb, 3, none⟩ = some (.int .i64 Y.W) := hcell hal
      have fz : ∀ j, y2.frozen? ⟨g, j, none⟩ = false := fun j => World.ownsRow.frozenAt (HW.out.nw hNy).own j
      replace c2 := hNy.kp c2
      replace f0 := hNy.kp f0
      replace f1 := hNy.kp f1
      replace f2 := hNy.kp f2
      replace f3 := hNy.kp f3
      have HQ := Lib.hid (HW.out.put_to hNy pg k hk ⟨Y, a2, n2⟩ (HW.out.got hNy Y (HK.out.1.nw HA.out) HK.out.2.1 HK.out.2.2 HLn.out) HK.out.2.2)
      have HQs := Lib.hid (HR2.out.trans (show (if (0 : Int) = 0 then putH (hsOf l) Y else hsOf l) = hsOf (l.set k ⟨Y, a2, n2⟩) by
        rw [if_pos rfl]
        refine put_set HS.out hk (x := ⟨Y, a2, n2⟩) ?_
        show (Y.t, Y.r) = (l[k].h.t, l[k].h.r)
        rw [HY.out.1, HY.out.2]))
      clear hal hNy HG g2
      refine wp_region_still_tail 7 (by kernel_rfl) (by kernel_rfl) ?_
      simp only [List.take_succ_cons, List.take_zero, List.drop_succ_cons, List.drop_zero]
      iterate 7 still_step
      try refine wpStill_nil ?_
      change wpList _ _ _ _ _ y2.drew
      go_wp2
      go_ret
      exact ⟨by rw [HR.out]; rfl, .slice (some ⟨g, 0, none⟩) l.length c, l.set k ⟨Y, a2, n2⟩, HQs.out.symm, RbTo.pre HN1.out (HQ.out.nw (Nw.refl _).dr)⟩
    · have hd : (er == 0) = false := by simpa using her
      have HQs := Lib.hid (HR2.out.trans (if_neg her))
      have HNy := Lib.hid (HN1.out.trans hNy)
      clear hal hNy HG g2 her
      go_wp2
      go_ret
      exact ⟨by rw [HR.out]; rfl, _, l, HQs.out.symm, H.out.same HNy.out pg⟩
end Go.Proofs.YtodnlelnpidliaaGreat
end

/- The document's own bucket: Upgrade. -/
section
namespace Go.Proofs.YtodnlelnpidliaaGreat
open Go.RowKit
set_option linter.unusedVariables false      -- a contract need not use every name

theorem upQ_len (W : Int) (q : List Rq) (r : Rq) (m : Int) : (upQ W q r m).2.1.length = q.length := by
  unfold upQ
  split
  · rfl
  · split <;> simp [chg_len]
theorem upR_len (h : Hq) (id m : Int) : (upR h id m).1.q.length ≤ h.q.length := by
  unfold upR
  split
  · exact Nat.zero_le _
  · split
    · exact Nat.zero_le _
    · split
      · exact Nat.zero_le _
      · exact Nat.le_of_eq (upQ_len _ _ _ _)
theorem upR_nm (h : Hq) (id m : Int) (he : (upR h id m).2.2 = 0) : (upR h id m).1.t = h.t ∧ (upR h id m).1.r = h.r := by
  revert he
  unfold upR
  split
  · intro he; cases he
  · split
    · intro he; cases he
    · split
      · intro he; cases he
      · intro _; exact ⟨rfl, rfl⟩
theorem ok_nil0 : Ok 0 [] := (okQ_iff 0 []).1 (by kernel_rfl)
/-- Upgrade's errors, by the head of a request or an empty one. -/
theorem upBE_of (hs : List Hq) (id m : Int) : upBE hs id m = match ofId hs id with
    | none => (upR ⟨0, 0, 0, []⟩ id m).2.2
    | some h => (upR h id m).2.2 := by
  unfold upBE upR badM
  split
  · cases ofId hs id <;> rfl
  · cases ofId hs id with
    | none => rfl
    | some h => rfl
theorem upBE_none (hs : List Hq) (id m : Int) (h : ofId hs id = none) : (upR ⟨0, 0, 0, []⟩ id m).2.2 ≠ 0 := by
  unfold upR
  split
  · decide
  · show (5 : Int) ≠ 0
    decide
set_option maxRecDepth 20000 in
set_option maxHeartbeats 1000000 in
theorem rb_upgrade {w : World} {o po : Nat} {most : Int} {v : Value} {l : List Hm} (h : Rb w o po most v l) (s : SrtH (hsOf l)) (hok : ∀ x ∈ l, Ok x.h.W x.h.q) (pg : Nat) (id m : Int) :
    Calls Tryz.prog 37 #[.pointer (some ⟨o, 0, none⟩), .int .i64 id, .int .i64 m] w fun e w' => e = .returned (.tuple #[.bool (upBG (hsOf l) id m), .int .i64 (upBE (hsOf l) id m)]) ∧ ∃ v' l', hsOf l' = upBS (hsOf l) id m ∧ RbTo w o po pg most v l w' v' l' := by
  obtain ⟨a, c, rfl, hf⟩ := h.form
  have HF := Lib.hid hf
  have H := Lib.hid h
  have HS := Lib.hid s
  have HO := Lib.hid hok
  have hol := h.ol
  have HP := Lib.hid (rb_of h id)
  obtain ⟨G, hG⟩ : ∃ G, upBG (hsOf l) id m = G := ⟨_, rfl⟩
  obtain ⟨E, hE⟩ : ∃ E, upBE (hsOf l) id m = E := ⟨_, rfl⟩
  obtain ⟨T, hT⟩ : ∃ T, upBS (hsOf l) id m = T := ⟨_, rfl⟩
  rw [hG, hE, hT]
  have HG0 := Lib.hid hG
  have HE := Lib.hid hE
  have HT := Lib.hid hT
  clear h hf s hok hE hT hG
  go_enter Tryz.func37, Tryz.ntmps37
  go_wp2_with fail
  refine HP.out.mono ?_
  rintro e w1 ⟨i, rfl, hi, g1⟩
  have HN1 := Lib.hid g1
  rcases hi.of with ⟨rfl, ho⟩ | ⟨k, rfl, hk, ho⟩
  · have he : upBE (hsOf l) id m = (upR ⟨0, 0, 0, []⟩ id m).2.2 := by rw [upBE_of, ho]
    have hz := upBE_none (hsOf l) id m ho
    have HC := Lib.hid (r9upgradeN 0 0 0 id m (.slice none 0 0) [] w1 (Nat.zero_le _) ok_nil0 (Rd.nil _))
    obtain ⟨Y, hY⟩ : ∃ Y, upR ⟨0, 0, 0, []⟩ id m = Y := ⟨_, rfl⟩
    rw [hY] at he hz HC
    obtain ⟨Y, gt, er⟩ := Y
    have hz' : er ≠ 0 := hz
    have hd : (er == 0) = false := by simpa using hz'
    have HR := Lib.hid (HE.out.symm.trans he)
    have HR2 := Lib.hid (HT.out.symm.trans (show upBS (hsOf l) id m = hsOf l by unfold upBS; rw [if_neg (by rw [he]; exact hz')]))
    have HR3 := Lib.hid (HG0.out.symm.trans (show upBG (hsOf l) id m = false by unfold upBG; rw [if_neg (by rw [he]; exact hz')]))
    clear he HE HT HG0 HP ho hi g1 hz hz' hY
    unfold hdV at HC
    go_wp2_with fail
    refine HC.out.mono ?_
    rintro e w2 ⟨v2, rfl, g2, hrd, hcap, hnew⟩
    obtain ⟨a2, n2, rfl⟩ := hrd.form
    simp only [hdV]
    have HN2 := Lib.hid (HN1.out.trans (g2.trans ((Nw.refl w2).alloc (.cells #[.int .i64 Y.t, .int .i64 Y.r, .slice a2 Y.q.length n2, .int .i64 Y.W] 56))))
    clear hrd hcap hnew g2 HC
    go_wp2
    refine bodyPost_ret (v := .tuple #[.bool false, .int .i64 er]) (by simp [results, Tryz.results37, go_sem, *]) rfl ?_
    exact ⟨by rw [HR.out, HR3.out], _, l, HR2.out.symm, H.out.same HN2.out pg⟩
  · rcases HF.out with ⟨_, e, _⟩ | ⟨g, rfl, hog, hgl⟩
    · subst e; simp at hk
    have HW := Lib.hid (H.out.nw HN1.out)
    have hx := HW.out.ok _ (List.getElem_mem hk)
    obtain ⟨f0, f1, f2, f3⟩ := HW.out.at_ k hk
    have hl1 := HW.out.len
    have hki : (k : Int) < (l.length : Int) := by omega
    have c2 := HW.out.c2
    have HG := Lib.hid (fun w2 (g : Nw w1 w2) => r9upgradeN l[k].h.t l[k].h.r l[k].h.W id m (hmV l[k]) l[k].h.q w2 hx.len (HO.out _ (List.getElem_mem hk)) (hx.rd.nw g))
    have he : upBE (hsOf l) id m = (upR l[k].h id m).2.2 := by rw [upBE_of, ho]
    have hs : upBS (hsOf l) id m = if (upR l[k].h id m).2.2 = 0 then putH (hsOf l) (upR l[k].h id m).1 else hsOf l := by unfold upBS; rw [he]; split; rw [ho]; rfl
    have hg : upBG (hsOf l) id m = if (upR l[k].h id m).2.2 = 0 then (upR l[k].h id m).2.1 else false := by unfold upBG; rw [he]; split; rw [ho]; rfl
    have HR := Lib.hid (HE.out.symm.trans he)
    have HR2 := Lib.hid (HT.out.symm.trans hs)
    have HR3 := Lib.hid (HG0.out.symm.trans hg)
    have hln := Nat.le_trans (upR_len l[k].h id m) hx.len
    have hnm := upR_nm l[k].h id m
    rw [show (⟨l[k].h.t, l[k].h.r, l[k].h.W, l[k].h.q⟩ : Hq) = l[k].h from rfl] at HG
    unfold hdV hmV at HG
    obtain ⟨Y, hY⟩ : ∃ Y, upR l[k].h id m = Y := ⟨_, rfl⟩
    rw [hY] at HG HR HR2 HR3 hln hnm
    obtain ⟨Y, gt, er⟩ := Y
    have HLn := Lib.hid hln
    have HNm := Lib.hid (fun e => (hnm e : Y.t = l[k].h.t ∧ Y.r = l[k].h.r))
    clear hY he hs hg HE HT HG0 ho hi hx hln hnm HP
    generalize l[k].a = qa at *
    generalize l[k].c = qc at *
    obtain ⟨n, hn⟩ : ∃ n, l[k].h.q.length = n := ⟨_, rfl⟩
    obtain ⟨ht0, ht⟩ : ∃ t, l[k].h.t = t := ⟨_, rfl⟩
    obtain ⟨hr0, hr⟩ : ∃ r, l[k].h.r = r := ⟨_, rfl⟩
    obtain ⟨hW0, hW⟩ : ∃ W, l[k].h.W = W := ⟨_, rfl⟩
    rw [ht] at f0 HG
    rw [hr] at f1 HG
    rw [hn] at f2 HG
    rw [hW] at f3 HG
    clear hn ht hr hW g1
    go_wp2_with fail
    refine (HG.out _ (Nw.refl _)).mono ?_
    rintro e w2 ⟨v2, rfl, g2, hrd, hcap, hnew⟩
    obtain ⟨a2, n2, rfl⟩ := hrd.form
    simp only [hdV]
    have hal := allocAt w2 (.cells #[.int .i64 Y.t, .int .i64 Y.r, .slice a2 Y.q.length n2, .int .i64 Y.W] 56)
    have hNa : Nw w2 (w2.alloc (.cells #[.int .i64 Y.t, .int .i64 Y.r, .slice a2 Y.q.length n2, .int .i64 Y.W] 56)) := (Nw.refl w2).alloc _
    have hNy := g2.trans hNa
    have HK := Lib.hid (And.intro hrd (And.intro hcap hnew))
    have HA := Lib.hid hNa
    clear hrd hcap hnew hNa
    by_cases her : er = 0
    · subst her
      have HY := Lib.hid (HNm.out rfl)
      have HGs : Hid (G = gt) := Lib.hid (HR3.out.trans (if_pos rfl))
      go_wp2_with fail
      generalize hy2 : w2.alloc (.cells #[.int .i64 Y.t, .int .i64 Y.r, .slice a2 Y.q.length n2, .int .i64 Y.W] 56) = y2 at *
      clear hy2
      obtain ⟨pb, hpb⟩ : ∃ pb, w2.heap.size = pb := ⟨_, rfl⟩
      rw [hpb] at hal
      try rw [hpb]
      have hpl := hlt hal
      have hgy : g < y2.heap.size := Nat.lt_of_lt_of_le hgl (HN1.out.trans hNy).sz
      have p0 : y2.cell? ⟨pb, 0, none⟩ = some (.int .i64 Y.t) := hcell hal
      have p1 : y2.cell? ⟨pb, 1, none⟩ = some (.int .i64 Y.r) := hcell hal
      have p2 : y2.cell? ⟨pb, 2, none⟩ = some (.slice a2 Y.q.length n2) := hcell hal
      have p3 : y2.cell? ⟨pb, 3, none⟩ = some (.int .i64 Y.W) := hcell hal
      have fz : ∀ j, y2.frozen? ⟨g, j, none⟩ = false := fun j => World.ownsRow.frozenAt (HW.out.nw hNy).own j
      replace c2 := hNy.kp c2
      replace f0 := hNy.kp f0
      replace f1 := hNy.kp f1
      replace f2 := hNy.kp f2
      replace f3 := hNy.kp f3
      have HQ := Lib.hid (HW.out.put_to hNy pg k hk ⟨Y, a2, n2⟩ (HW.out.got hNy Y (HK.out.1.nw HA.out) HK.out.2.1 HK.out.2.2 HLn.out) HK.out.2.2)
      have HQs := Lib.hid (HR2.out.trans (show (if (0 : Int) = 0 then putH (hsOf l) Y else hsOf l) = hsOf (l.set k ⟨Y, a2, n2⟩) by
        rw [if_pos rfl]
        refine put_set HS.out hk (x := ⟨Y, a2, n2⟩) ?_
        show (Y.t, Y.r) = (l[k].h.t, l[k].h.r)
        rw [HY.out.1, HY.out.2]))
      clear hal hNy HG g2
      refine wp_region_still_tail 7 (by kernel_rfl) (by kernel_rfl) ?_
      simp only [List.take_succ_cons, List.take_zero, List.drop_succ_cons, List.drop_zero]
      iterate 7 still_step
      try refine wpStill_nil ?_
      change wpList _ _ _ _ _ y2.drew
      go_wp2
      refine bodyPost_ret (v := .tuple #[.bool gt, .int .i64 0]) (by simp [results, Tryz.results37, go_sem, *]) rfl ?_
      exact ⟨by rw [HR.out, HGs.out], .slice (some ⟨g, 0, none⟩) l.length c, l.set k ⟨Y, a2, n2⟩, HQs.out.symm, RbTo.pre HN1.out (HQ.out.nw (Nw.refl _).dr)⟩
    · have hd : (er == 0) = false := by simpa using her
      have HQs := Lib.hid (HR2.out.trans (if_neg her))
      have HGs := Lib.hid (HR3.out.trans (if_neg her))
      have HNy := Lib.hid (HN1.out.trans hNy)
      clear hal hNy HG g2 her
      go_wp2
      refine bodyPost_ret (v := .tuple #[.bool false, .int .i64 er]) (by simp [results, Tryz.results37, go_sem, *]) rfl ?_
      exact ⟨by rw [HR.out, HGs.out], _, l, HQs.out.symm, H.out.same HNy.out pg⟩
end Go.Proofs.YtodnlelnpidliaaGreat
end
