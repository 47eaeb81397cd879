/- Texts merged: PhE -/
import Derived.Test.YtodnlelnpidliaaGreatBucketHoldsB4
import Derived.LoopTactic
import Derived.StillTailTactics

/- container/heap's up and down, on a row of numbers behind a header. -/
section
namespace Go.Proofs.YtodnlelnpidliaaGreat
open Go.RowKit Go.Shelf

/-- A heap of numbers in memory: the header's cell, and the row that it leads to. -/
structure IHpAt (w : World) (hb ho g cap : Nat) (l : List Int) : Prop where
  hd : w.cell? ⟨hb, ho, none⟩ = some (.slice (some ⟨g, 0, none⟩) l.length cap)
  hf : w.frozen? ⟨hb, ho, none⟩ = false
  row : ITRow w g cap l
  ne : hb ≠ g
theorem IHpAt.lt {w : World} {hb ho g cap : Nat} {l : List Int} (h : IHpAt w hb ho g cap l) : hb < w.heap.size := World.block_lt_of_cell? _ ⟨hb, ho, none⟩ h.hd
theorem IHpAt.nw {w w' : World} {hb ho g cap : Nat} {l : List Int} (h : IHpAt w hb ho g cap l) (k : Nw w w') : IHpAt w' hb ho g cap l :=
  ⟨(k.cell h.lt).trans h.hd, (World.frozen?_of_block (k.block hb h.lt)).trans h.hf, itkept h.row (k.block g (IS.glt h.row)), h.ne⟩
theorem IHpAt.tch {S : Nat → Prop} {w w' : World} {hb ho g cap : Nat} {l : List Int} (h : IHpAt w hb ho g cap l) (k : Tch S w w') (h1 : ¬ S hb) (h2 : ¬ S g) : IHpAt w' hb ho g cap l :=
  ⟨(k.cell h.lt h1).trans h.hd, (k.froz h.lt h1).trans h.hf, ittch h.row k h2, h.ne⟩
theorem IHpAt.turned {w w' : World} {hb ho g cap : Nat} {l l' : List Int} (h : IHpAt w hb ho g cap l) (k : Tch (fun k => k = g) w w') (r : ITRow w' g cap l') (hl : l'.length = l.length) : IHpAt w' hb ho g cap l' :=
  ⟨by rw [hl]; exact (k.cell h.lt h.ne).trans h.hd, (k.froz h.lt h.ne).trans h.hf, r, h.ne⟩

/-- The other cells of the header's block. -/
def ISide (hb ho : Nat) (w w' : World) : Prop := ∀ o, o ≠ ho → w'.cell? ⟨hb, o, none⟩ = w.cell? ⟨hb, o, none⟩ ∧ w'.frozen? ⟨hb, o, none⟩ = w.frozen? ⟨hb, o, none⟩
theorem ISide.refl (hb ho : Nat) (w : World) : ISide hb ho w w := fun _ _ => ⟨rfl, rfl⟩
theorem ISide.trans {hb ho : Nat} {a b c : World} (h : ISide hb ho a b) (k : ISide hb ho b c) : ISide hb ho a c := fun o e => ⟨(k o e).1.trans (h o e).1, (k o e).2.trans (h o e).2⟩
theorem ISide.tch {hb ho : Nat} {S : Nat → Prop} {a b : World} (h : Tch S a b) (hl : hb < a.heap.size) (hn : ¬ S hb) : ISide hb ho a b := fun _ _ => ⟨h.cell hl hn, h.froz hl hn⟩
theorem ISide.set {hb ho : Nat} (a : World) (v : Value) : ISide hb ho a (a.setCell ⟨hb, ho, none⟩ v) := fun o e => ⟨World.cell?_setCell_other _ _ _ _ (fun q => e (by simpa using q.symm)), by rw [World.frozen?_setCell]⟩
def IUpPost (w : World) (hb ho g cap n : Nat) (l : List Int) (w' : World) : Prop :=
  ∃ l' : List Int, l'.Perm l ∧ (∀ k, n ≤ k → iat l' k = iat l k) ∧ IHp (iat l') n ∧ IHpAt w' hb ho g cap l' ∧ Tch (fun k => k = g) w w'

theorem iat_swp_o (l : List Int) {i j k : Nat} (hi : i < l.length) (hj : j < l.length) (h : k ≠ i) (h' : k ≠ j) : iat (iswp l i j) k = iat l k := by rw [iat_swp l hi hj, isw_o _ h h']

set_option maxHeartbeats 1000000 in
theorem iup_any (hb ho g cap : Nat) (l : List Int) (n j : Nat) (hjn : j < n) (hn : n ≤ l.length) (w : World) (h : IHpAt w hb ho g cap l) (hex : IEx (iat l) n j) (hgr : IGr (iat l) n j) (hch : ICh (iat l) n j) :
    Calls Tryz.prog 102 #[.iface 119 (.pointer (some ⟨hb, ho, none⟩)), .int .i64 j] w fun e w' => e = .returned (.tuple #[]) ∧ IUpPost w hb ho g cap n l w' := by
  have hm := Nat.le_trans (itcap_le h.row).1 (itcap_le h.row).2
  unfold maxLen at hm
  have H0 := Lib.hid (And.intro h (And.intro hex (And.intro hgr hch)))
  clear h hex hgr hch
  have el := ie_less
  have es := ie_swap
  go_enter Tryz.func102, Tryz.ntmps102
  go_wp2
  go_loopw [1] (fun vj wr => ∃ (k : Nat) (l' : List Int), vj = .int .i64 k ∧ k < n ∧ l'.length = l.length ∧ Hid (l'.Perm l ∧ (∀ x, n ≤ x → iat l' x = iat l x) ∧ IEx (iat l') n k ∧ IGr (iat l') n k ∧ ICh (iat l') n k ∧ IHpAt wr hb ho g cap l' ∧ Tch (fun x => x = g) w wr)) (fun vj _ => (intOf vj).toNat)
  case atStart => exact ⟨j, l, rfl, hjn, rfl, .refl _, fun _ _ => rfl, H0.out.2.1, H0.out.2.2.1, H0.out.2.2.2, H0.out.1, Tch.refl _ _⟩
  case round =>
    obtain ⟨k, l', rfl, hk, hl, HR⟩ := hrel
    have hc := HR.out.2.2.2.2.2.1.hd
    rw [hl] at hc
    have mL := im_less wr _ _ _ hc
    rcases Nat.eq_zero_or_pos k with rfl | hk0
    · go_wp2
      go_end0
      exact ⟨rfl, l', HR.out.1, HR.out.2.1, IHp.of HR.out.2.2.1 HR.out.2.2.2.2.1 (fun h => absurd h (by omega)), HR.out.2.2.2.2.2⟩
    · obtain ⟨i, hi⟩ : ∃ i, (k - 1) / 2 = i := ⟨_, rfl⟩
      have hi' : ((k : Int) - 1) / 2 = (i : Int) := by omega
      have hik : ¬ i = k := by omega
      have hik' : ((i : Int) == (k : Int)) = false := by simp; omega
      have HL := iless_any g cap l' k i (by omega) (by omega) wr HR.out.2.2.2.2.2.1.row
      rw [hl, ← hi'] at HL
      have Hi' := Lib.hid hi'
      have Hi := Lib.hid hi
      clear hi'
      cases hlt : itlt (iat l' k) (iat l' i) with
      | true =>
        rw [hlt] at HL
        have Hlt := Lib.hid hlt
        clear hlt
        go_wp2_with fail
        refine HL.mono ?_
        rintro e w1 ⟨rfl, hg1⟩
        have h1 := HR.out.2.2.2.2.2.1.nw hg1
        have hc1 := h1.hd
        rw [hl] at hc1
        have mS := im_swap w1 _ _ _ hc1
        have HS := iswap_any g cap l' i k (by omega) (by omega) w1 h1.row
        rw [hl, ← Hi'.out] at HS
        have H1 := Lib.hid h1
        clear h1 mL
        go_wp2_with fail
        refine HS.mono ?_
        rintro e w2 ⟨rfl, hr2, ht2⟩
        have H2 := Lib.hid (H1.out.turned ht2 hr2 (iswp_len _ _ _))
        have T2 := Lib.hid (HR.out.2.2.2.2.2.2.trans ((Tch.nw (S := fun x => x = g) hg1).trans ht2))
        have U := Lib.hid (iup_step Hi.out hk0 hk HR.out.2.2.1 HR.out.2.2.2.1 HR.out.2.2.2.2.1 Hlt.out)
        clear hr2 ht2 mS hc hc1
        go_wp2
        go_roundw
        case rel =>
          have hs := iat_swp l' (i := i) (j := k) (by omega) (by omega)
          refine ⟨i, iswp l' i k, by rw [Hi'.out], by omega, by rw [iswp_len]; exact hl, (iswp_perm l' (by omega) (by omega)).trans HR.out.1, fun x hx => ?_, ?_, ?_, ?_, H2.out, T2.out⟩
          · rw [iat_swp_o l' (by omega) (by omega) (by omega) (by omega)]; exact HR.out.2.1 x hx
          · rw [hs]; exact U.out.1
          · rw [hs]; exact U.out.2.1
          · rw [hs]; exact U.out.2.2
        case measure => simp [intOf]; omega
      | false =>
        rw [hlt] at HL
        have Hlt := Lib.hid hlt
        clear hlt
        go_wp2_with fail
        refine HL.mono ?_
        rintro e w1 ⟨rfl, hg1⟩
        have H1 := Lib.hid (HR.out.2.2.2.2.2.1.nw hg1)
        have T1 := Lib.hid (HR.out.2.2.2.2.2.2.trans (Tch.nw hg1))
        clear mL hc
        go_wp2
        go_end0
        exact ⟨rfl, l', HR.out.1, HR.out.2.1, IHp.of HR.out.2.2.1 HR.out.2.2.2.2.1 (fun _ => by rw [Hi.out]; exact Hlt.out), H1.out, T1.out⟩
end Go.Proofs.YtodnlelnpidliaaGreat
end
