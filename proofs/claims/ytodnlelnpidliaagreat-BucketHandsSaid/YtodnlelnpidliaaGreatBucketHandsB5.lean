/- Texts merged: PhA, PhE -/
import Derived.Test.YtodnlelnpidliaaGreatBucketHandsB4
import Derived.Shelf.Abstract
import Derived.LoopTactic
import Derived.StillTailTactics

/- Numbers in a row of the call's own, as a heap has them: Len, Less, Swap, and how they are reached through the interface value. -/
section
namespace Go.Proofs.YtodnlelnpidliaaGreat
open Go.RowKit Go.Shelf

/-- The block g holds the numbers, with room for cap. -/
abbrev ITRow (w : World) (g cap : Nat) (l : List Int) : Prop := IS w (.slice (some ⟨g, 0, none⟩) l.length cap) l
theorem itcells {w : World} {g cap : Nat} {l : List Int} (h : ITRow w g cap l) (i : Nat) (hi : i < l.length) : w.cell? ⟨g, i, none⟩ = some (.int .i64 (iat l i)) := IS.cell h i hi
theorem itcap_le {w : World} {g cap : Nat} {l : List Int} (h : ITRow w g cap l) : l.length ≤ cap ∧ cap ≤ maxLen := by
  rcases h.2 with ⟨h', _⟩ | ⟨g', cap', cur, h', _, _, h1, h2, _⟩
  · simp at h'
  · simp only [Value.slice.injEq] at h'
    obtain ⟨_, _, rfl⟩ := h'
    exact ⟨h1, h2⟩
theorem itkept {w w' : World} {g cap : Nat} {l : List Int} (h : ITRow w g cap l) (e : w'.heap[g]? = w.heap[g]?) : ITRow w' g cap l := by
  refine ⟨h.1, ?_⟩
  rcases h.2 with ⟨h', _⟩ | ⟨g', cap', cur, h', hb, hg, rest⟩
  · simp at h'
  · have h2 := h'
    simp only [Value.slice.injEq, Option.some.injEq, Addr.mk.injEq, and_true, true_and] at h2
    obtain ⟨rfl, rfl⟩ := h2
    exact .inr ⟨g, cap, cur, h', hb, e.trans hg, rest⟩
theorem itset {w : World} {g cap : Nat} {l : List Int} (h : ITRow w g cap l) (i : Nat) (x : Int) : ITRow (w.setCell ⟨g, i, none⟩ (.int .i64 x)) g cap (l.set i x) := by
  have := IS.set h i x
  unfold ITRow
  rw [List.length_set]
  exact this
theorem ittch {S : Nat → Prop} {w w' : World} {g cap : Nat} {l : List Int} (h : ITRow w g cap l) (k : Tch S w w') (hn : ¬ S g) : ITRow w' g cap l := itkept h (k.block g (IS.glt h) hn)

theorem ilen_any (a : Option Addr) (n c : Nat) (w : World) : Calls Tryz.prog 49 #[.slice a n c] w fun e w' => e = .returned (.int .i64 n) ∧ w = w' := by
  go_enter Tryz.func49, Tryz.ntmps49
  go_wp2
  go_ret
  exact ⟨rfl, rfl⟩
theorem iless_any (g cap : Nat) (l : List Int) (i j : Nat) (hi : i < l.length) (hj : j < l.length) (w : World) (h : ITRow w g cap l) :
    Calls Tryz.prog 176 #[.slice (some ⟨g, 0, none⟩) l.length cap, .int .i64 i, .int .i64 j] w fun e w' => e = .returned (.bool (itlt (iat l i) (iat l j))) ∧ Nw w w' := by
  have hm := Nat.le_trans (itcap_le h).1 (itcap_le h).2
  unfold maxLen at hm
  have a0 := itcells h i hi
  have b0 := itcells h j hj
  generalize l.length = N at *
  unfold itlt
  generalize iat l i = A at *
  generalize iat l j = B at *
  clear h
  go_enter Tryz.func176, Tryz.ntmps176
  go_wp2
  go_quiet (fail)
  go_wp2
  go_ret
  exact ⟨rfl, (Nw.refl w).drewN _⟩
theorem itwo (w : World) (g a b : Nat) (va vb : Value) : Tch (fun k => k = g) w ((w.setCell ⟨g, a, none⟩ va).setCell ⟨g, b, none⟩ vb).drew :=
  Tch.drew (Tch.set (p := ⟨g, b, none⟩) (Tch.set (p := ⟨g, a, none⟩) (Tch.refl (fun k => k = g) w) (.inl rfl) va) (.inl rfl) vb)
set_option maxHeartbeats 1000000 in
theorem iswap_any (g cap : Nat) (l : List Int) (i j : Nat) (hi : i < l.length) (hj : j < l.length) (w : World) (h : ITRow w g cap l) :
    Calls Tryz.prog 178 #[.slice (some ⟨g, 0, none⟩) l.length cap, .int .i64 i, .int .i64 j] w fun e w' => e = .returned (.tuple #[]) ∧ ITRow w' g cap (iswp l i j) ∧ Tch (fun k => k = g) w w' := by
  have hm := Nat.le_trans (itcap_le h).1 (itcap_le h).2
  unfold maxLen at hm
  have a0 := itcells h i hi
  have b0 := itcells h j hj
  have hg := IS.glt h
  have fz := IS.frozen h
  have HR : Hid (ITRow ((w.setCell ⟨g, i, none⟩ (.int .i64 (iat l j))).setCell ⟨g, j, none⟩ (.int .i64 (iat l i))) g cap (iswp l i j)) := itset (itset h i (iat l j)) j (iat l i)
  generalize l.length = N at *
  generalize iat l i = A at *
  generalize iat l j = B at *
  clear h
  by_cases e : i = j
  · subst e
    obtain rfl : A = B := by rw [a0] at b0; simpa using b0
    go_enter Tryz.func178, Tryz.ntmps178
    go_wp2
    go_region
    go_wp2
    go_end0
    exact ⟨rfl, itkept HR.out rfl, itwo _ _ _ _ _ _⟩
  · have e' : ¬ j = i := fun q => e q.symm
    go_enter Tryz.func178, Tryz.ntmps178
    go_wp2
    go_region
    go_wp2
    go_end0
    exact ⟨rfl, itkept HR.out rfl, itwo _ _ _ _ _ _⟩

/-! ### The methods through the interface value -/
theorem imt_len : ((Tryz.prog.info? 119).map fun i => ((i.methods.find? (·.name == "Len")).map fun m => (m.path, m.func))) = some (some (#[⟨92, 0, true⟩], some (49, false))) := by kernel_rfl
theorem imt_less : ((Tryz.prog.info? 119).map fun i => ((i.methods.find? (·.name == "Less")).map fun m => (m.path, m.func))) = some (some (#[⟨92, 0, true⟩], some (176, false))) := by kernel_rfl
theorem imt_swap : ((Tryz.prog.info? 119).map fun i => ((i.methods.find? (·.name == "Swap")).map fun m => (m.path, m.func))) = some (some (#[⟨92, 0, true⟩], some (178, false))) := by kernel_rfl
theorem imt_push : ((Tryz.prog.info? 119).map fun i => ((i.methods.find? (·.name == "Push")).map fun m => (m.path, m.func))) = some (some (#[], some (180, true))) := by kernel_rfl
theorem imt_pop : ((Tryz.prog.info? 119).map fun i => ((i.methods.find? (·.name == "Pop")).map fun m => (m.path, m.func))) = some (some (#[], some (179, true))) := by kernel_rfl
theorem imeth_val (name : String) (f : Nat) (h : ((Tryz.prog.info? 119).map fun i => ((i.methods.find? (·.name == name)).map fun m => (m.path, m.func))) = some (some (#[⟨92, 0, true⟩], some (f, false))))
    (w : World) (b o : Nat) (v : Value) (hc : w.cell? ⟨b, o, none⟩ = some v) (n : Nat) : Sem.run Tryz.prog (method (n + 1) 119 (.pointer (some ⟨b, o, none⟩)) name) w = .ok (f, v) w := by
  obtain ⟨i, hi, h⟩ := Option.map_eq_some_iff.1 h
  obtain ⟨m, hm, h⟩ := Option.map_eq_some_iff.1 h
  simp only [Prod.mk.injEq] at h
  obtain ⟨hp, hf⟩ := h
  have hu := Tryz.underlying119
  have hu2 := Tryz.underlying92
  have hu3 := Tryz.underlying90
  simp [method, typeInfo, hi, hm, hp, hf, follow, receiverAt, Place.get, fieldPlace, go_sem, hc]
theorem imeth_ptr (name : String) (f : Nat) (h : ((Tryz.prog.info? 119).map fun i => ((i.methods.find? (·.name == name)).map fun m => (m.path, m.func))) = some (some (#[], some (f, true))))
    (w : World) (v : Value) (n : Nat) : Sem.run Tryz.prog (method (n + 1) 119 v name) w = .ok (f, v) w := by
  obtain ⟨i, hi, h⟩ := Option.map_eq_some_iff.1 h
  obtain ⟨m, hm, h⟩ := Option.map_eq_some_iff.1 h
  simp only [Prod.mk.injEq] at h
  obtain ⟨hp, hf⟩ := h
  have hu := Tryz.underlying119
  simp [method, typeInfo, hi, hm, hp, hf, follow, receiverAt, Place.get, go_sem]
theorem im_len (w : World) (b o : Nat) (v : Value) (hc : w.cell? ⟨b, o, none⟩ = some v) : ∀ n, Sem.run Tryz.prog (method (n + 1) 119 (.pointer (some ⟨b, o, none⟩)) "Len") w = .ok (49, v) w := imeth_val _ _ imt_len w b o v hc
theorem im_less (w : World) (b o : Nat) (v : Value) (hc : w.cell? ⟨b, o, none⟩ = some v) : ∀ n, Sem.run Tryz.prog (method (n + 1) 119 (.pointer (some ⟨b, o, none⟩)) "Less") w = .ok (176, v) w := imeth_val _ _ imt_less w b o v hc
theorem im_swap (w : World) (b o : Nat) (v : Value) (hc : w.cell? ⟨b, o, none⟩ = some v) : ∀ n, Sem.run Tryz.prog (method (n + 1) 119 (.pointer (some ⟨b, o, none⟩)) "Swap") w = .ok (178, v) w := imeth_val _ _ imt_swap w b o v hc
theorem im_push (w : World) (v : Value) : ∀ n, Sem.run Tryz.prog (method (n + 1) 119 v "Push") w = .ok (180, v) w := imeth_ptr _ _ imt_push w v
theorem im_pop (w : World) (v : Value) : ∀ n, Sem.run Tryz.prog (method (n + 1) 119 v "Pop") w = .ok (179, v) w := imeth_ptr _ _ imt_pop w v
theorem ie_len : ∀ args w, (callFunc 49 args).run Tryz.prog w = .ok (.enter 49 args) w := enters_of Tryz.func49 (by kernel_rfl) rfl
theorem ie_less : ∀ args w, (callFunc 176 args).run Tryz.prog w = .ok (.enter 176 args) w := enters_of Tryz.func176 (by kernel_rfl) rfl
theorem ie_swap : ∀ args w, (callFunc 178 args).run Tryz.prog w = .ok (.enter 178 args) w := enters_of Tryz.func178 (by kernel_rfl) rfl
theorem ie_push : ∀ args w, (callFunc 180 args).run Tryz.prog w = .ok (.enter 180 args) w := enters_of Tryz.func180 (by kernel_rfl) rfl
theorem ie_pop : ∀ args w, (callFunc 179 args).run Tryz.prog w = .ok (.enter 179 args) w := enters_of Tryz.func179 (by kernel_rfl) rfl
end Go.Proofs.YtodnlelnpidliaaGreat
end

/- container/heap's up and down, on a row of numbers behind a header. -/
section
namespace Go.Proofs.YtodnlelnpidliaaGreat
open Go.RowKit Go.Shelf

/-- A heap of numbers in memory: the header's cell, and the row that it leads to. -/
structure IHpAt (w : World) (hb ho g cap : Nat) (l : List Int) : Prop where
  hd : w.cell? ⟨hb, ho, none⟩ = some (.slice (some ⟨g, 0, none⟩) l.length cap)
  hf : w.frozen? ⟨hb, ho, none⟩ = false
  row : ITRow w g cap l
  ne : hb ≠ g
theorem IHpAt.lt {w : World} {hb ho g cap : Nat} {l : List Int} (h : IHpAt w hb ho g cap l) : hb < w.heap.size := World.block_lt_of_cell? _ ⟨hb, ho, none⟩ h.hd
theorem IHpAt.nw {w w' : World} {hb ho g cap : Nat} {l : List Int} (h : IHpAt w hb ho g cap l) (k : Nw w w') : IHpAt w' hb ho g cap l :=
  ⟨(k.cell h.lt).trans h.hd, (World.frozen?_of_block (k.block hb h.lt)).trans h.hf, itkept h.row (k.block g (IS.glt h.row)), h.ne⟩
theorem IHpAt.tch {S : Nat → Prop} {w w' : World} {hb ho g cap : Nat} {l : List Int} (h : IHpAt w hb ho g cap l) (k : Tch S w w') (h1 : ¬ S hb) (h2 : ¬ S g) : IHpAt w' hb ho g cap l :=
  ⟨(k.cell h.lt h1).trans h.hd, (k.froz h.lt h1).trans h.hf, ittch h.row k h2, h.ne⟩
theorem IHpAt.turned {w w' : World} {hb ho g cap : Nat} {l l' : List Int} (h : IHpAt w hb ho g cap l) (k : Tch (fun k => k = g) w w') (r : ITRow w' g cap l') (hl : l'.length = l.length) : IHpAt w' hb ho g cap l' :=
  ⟨by rw [hl]; exact (k.cell h.lt h.ne).trans h.hd, (k.froz h.lt h.ne).trans h.hf, r, h.ne⟩

/-- The other cells of the header's block. -/
def ISide (hb ho : Nat) (w w' : World) : Prop := ∀ o, o ≠ ho → w'.cell? ⟨hb, o, none⟩ = w.cell? ⟨hb, o, none⟩ ∧ w'.frozen? ⟨hb, o, none⟩ = w.frozen? ⟨hb, o, none⟩
theorem ISide.refl (hb ho : Nat) (w : World) : ISide hb ho w w := fun _ _ => ⟨rfl, rfl⟩
theorem ISide.trans {hb ho : Nat} {a b c : World} (h : ISide hb ho a b) (k : ISide hb ho b c) : ISide hb ho a c := fun o e => ⟨(k o e).1.trans (h o e).1, (k o e).2.trans (h o e).2⟩
theorem ISide.tch {hb ho : Nat} {S : Nat → Prop} {a b : World} (h : Tch S a b) (hl : hb < a.heap.size) (hn : ¬ S hb) : ISide hb ho a b := fun _ _ => ⟨h.cell hl hn, h.froz hl hn⟩
theorem ISide.set {hb ho : Nat} (a : World) (v : Value) : ISide hb ho a (a.setCell ⟨hb, ho, none⟩ v) := fun o e => ⟨World.cell?_setCell_other _ _ _ _ (fun q => e (by simpa using q.symm)), by rw [World.frozen?_setCell]⟩
def IUpPost (w : World) (hb ho g cap n : Nat) (l : List Int) (w' : World) : Prop :=
  ∃ l' : List Int, l'.Perm l ∧ (∀ k, n ≤ k → iat l' k = iat l k) ∧ IHp (iat l') n ∧ IHpAt w' hb ho g cap l' ∧ Tch (fun k => k = g) w w'

theorem iat_swp_o (l : List Int) {i j k : Nat} (hi : i < l.length) (hj : j < l.length) (h : k ≠ i) (h' : k ≠ j) : iat (iswp l i j) k = iat l k := by rw [iat_swp l hi hj, isw_o _ h h']

set_option maxHeartbeats 1000000 in
theorem iup_any (hb ho g cap : Nat) (l : List Int) (n j : Nat) (hjn : j < n) (hn : n ≤ l.length) (w : World) (h : IHpAt w hb ho g cap l) (hex : IEx (iat l) n j) (hgr : IGr (iat l) n j) (hch : ICh (iat l) n j) :
    Calls Tryz.prog 102 #[.iface 119 (.pointer (some ⟨hb, ho, none⟩)), .int .i64 j] w fun e w' => e = .returned (.tuple #[]) ∧ IUpPost w hb ho g cap n l w' := by
  have hm := Nat.le_trans (itcap_le h.row).1 (itcap_le h.row).2
  unfold maxLen at hm
  have H0 := Lib.hid (And.intro h (And.intro hex (And.intro hgr hch)))
  clear h hex hgr hch
  have el := ie_less
  have es := ie_swap
  go_enter Tryz.func102, Tryz.ntmps102
  go_wp2
  go_loopw [1] (fun vj wr => ∃ (k : Nat) (l' : List Int), vj = .int .i64 k ∧ k < n ∧ l'.length = l.length ∧ Hid (l'.Perm l ∧ (∀ x, n ≤ x → iat l' x = iat l x) ∧ IEx (iat l') n k ∧ IGr (iat l') n k ∧ ICh (iat l') n k ∧ IHpAt wr hb ho g cap l' ∧ Tch (fun x => x = g) w wr)) (fun vj _ => (intOf vj).toNat)
  case atStart => exact ⟨j, l, rfl, hjn, rfl, .refl _, fun _ _ => rfl, H0.out.2.1, H0.out.2.2.1, H0.out.2.2.2, H0.out.1, Tch.refl _ _⟩
  case round =>
    obtain ⟨k, l', rfl, hk, hl, HR⟩ := hrel
    have hc := HR.out.2.2.2.2.2.1.hd
    rw [hl] at hc
    have mL := im_less wr _ _ _ hc
    rcases Nat.eq_zero_or_pos k with rfl | hk0
    · go_wp2
      go_end0
      exact ⟨rfl, l', HR.out.1, HR.out.2.1, IHp.of HR.out.2.2.1 HR.out.2.2.2.2.1 (fun h => absurd h (by omega)), HR.out.2.2.2.2.2⟩
    · obtain ⟨i, hi⟩ : ∃ i, (k - 1) / 2 = i := ⟨_, rfl⟩
      have hi' : ((k : Int) - 1) / 2 = (i : Int) := by omega
      have hik : ¬ i = k := by omega
      have hik' : ((i : Int) == (k : Int)) = false := by simp; omega
      have HL := iless_any g cap l' k i (by omega) (by omega) wr HR.out.2.2.2.2.2.1.row
      rw [hl, ← hi'] at HL
      have Hi' := Lib.hid hi'
      have Hi := Lib.hid hi
      clear hi'
      cases hlt : itlt (iat l' k) (iat l' i) with
      | true =>
        rw [hlt] at HL
        have Hlt := Lib.hid hlt
        clear hlt
        go_wp2_with fail
        refine HL.mono ?_
        rintro e w1 ⟨rfl, hg1⟩
        have h1 := HR.out.2.2.2.2.2.1.nw hg1
        have hc1 := h1.hd
        rw [hl] at hc1
        have mS := im_swap w1 _ _ _ hc1
        have HS := iswap_any g cap l' i k (by omega) (by omega) w1 h1.row
        rw [hl, ← Hi'.out] at HS
        have H1 := Lib.hid h1
        clear h1 mL
        go_wp2_with fail
        refine HS.mono ?_
        rintro e w2 ⟨rfl, hr2, ht2⟩
        have H2 := Lib.hid (H1.out.turned ht2 hr2 (iswp_len _ _ _))
        have T2 := Lib.hid (HR.out.2.2.2.2.2.2.trans ((Tch.nw (S := fun x => x = g) hg1).trans ht2))
        have U := Lib.hid (iup_step Hi.out hk0 hk HR.out.2.2.1 HR.out.2.2.2.1 HR.out.2.2.2.2.1 Hlt.out)
        clear hr2 ht2 mS hc hc1
        go_wp2
        go_roundw
        case rel =>
          have hs := iat_swp l' (i := i) (j := k) (by omega) (by omega)
          refine ⟨i, iswp l' i k, by rw [Hi'.out], by omega, by rw [iswp_len]; exact hl, (iswp_perm l' (by omega) (by omega)).trans HR.out.1, fun x hx => ?_, ?_, ?_, ?_, H2.out, T2.out⟩
          · rw [iat_swp_o l' (by omega) (by omega) (by omega) (by omega)]; exact HR.out.2.1 x hx
          · rw [hs]; exact U.out.1
          · rw [hs]; exact U.out.2.1
          · rw [hs]; exact U.out.2.2
        case measure => simp [intOf]; omega
      | false =>
        rw [hlt] at HL
        have Hlt := Lib.hid hlt
        clear hlt
        go_wp2_with fail
        refine HL.mono ?_
        rintro e w1 ⟨rfl, hg1⟩
        have H1 := Lib.hid (HR.out.2.2.2.2.2.1.nw hg1)
        have T1 := Lib.hid (HR.out.2.2.2.2.2.2.trans (Tch.nw hg1))
        clear mL hc
        go_wp2
        go_end0
        exact ⟨rfl, l', HR.out.1, HR.out.2.1, IHp.of HR.out.2.2.1 HR.out.2.2.2.2.1 (fun _ => by rw [Hi.out]; exact Hlt.out), H1.out, T1.out⟩
end Go.Proofs.YtodnlelnpidliaaGreat
end
