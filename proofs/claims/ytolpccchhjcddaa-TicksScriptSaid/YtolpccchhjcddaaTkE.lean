
/- container/heap's up and down, on a row of timers behind a header. -/
import Derived.Test.YtolpccchhjcddaaTkD
namespace Go.Proofs.Ytolpccchhjcddaa
open Go.RowKit Go.Shelf

/-- A heap of timers in memory: the header's cell, and the row that it leads to. -/
structure HpAt (w : World) (hb ho g cap : Nat) (l : List Tm) : Prop where
  hd : w.cell? ⟨hb, ho, none⟩ = some (.slice (some ⟨g, 0, none⟩) l.length cap)
  hf : w.frozen? ⟨hb, ho, none⟩ = false
  row : TRow w g cap l
  ne : hb ≠ g
theorem HpAt.lt {w : World} {hb ho g cap : Nat} {l : List Tm} (h : HpAt w hb ho g cap l) : hb < w.heap.size := World.block_lt_of_cell? _ ⟨hb, ho, none⟩ h.hd
theorem HpAt.nw {w w' : World} {hb ho g cap : Nat} {l : List Tm} (h : HpAt w hb ho g cap l) (k : Nw w w') : HpAt w' hb ho g cap l :=
  ⟨(k.cell h.lt).trans h.hd, (World.frozen?_of_block (k.block hb h.lt)).trans h.hf, h.row.kept (k.block g h.row.lt), h.ne⟩
theorem HpAt.tch {S : Nat → Prop} {w w' : World} {hb ho g cap : Nat} {l : List Tm} (h : HpAt w hb ho g cap l) (k : Tch S w w') (h1 : ¬ S hb) (h2 : ¬ S g) : HpAt w' hb ho g cap l :=
  ⟨(k.cell h.lt h1).trans h.hd, (k.froz h.lt h1).trans h.hf, h.row.tch k h2, h.ne⟩
theorem HpAt.turned {w w' : World} {hb ho g cap : Nat} {l l' : List Tm} (h : HpAt w hb ho g cap l) (k : Tch (fun k => k = g) w w') (r : TRow w' g cap l') (hl : l'.length = l.length) : HpAt w' hb ho g cap l' :=
  ⟨by rw [hl]; exact (k.cell h.lt h.ne).trans h.hd, (k.froz h.lt h.ne).trans h.hf, r, h.ne⟩

/-- The other cells of the header's block. -/
def Side (hb ho : Nat) (w w' : World) : Prop := ∀ o, o ≠ ho → w'.cell? ⟨hb, o, none⟩ = w.cell? ⟨hb, o, none⟩ ∧ w'.frozen? ⟨hb, o, none⟩ = w.frozen? ⟨hb, o, none⟩
theorem Side.refl (hb ho : Nat) (w : World) : Side hb ho w w := fun _ _ => ⟨rfl, rfl⟩
theorem Side.trans {hb ho : Nat} {a b c : World} (h : Side hb ho a b) (k : Side hb ho b c) : Side hb ho a c := fun o e => ⟨(k o e).1.trans (h o e).1, (k o e).2.trans (h o e).2⟩
theorem Side.tch {hb ho : Nat} {S : Nat → Prop} {a b : World} (h : Tch S a b) (hl : hb < a.heap.size) (hn : ¬ S hb) : Side hb ho a b := fun _ _ => ⟨h.cell hl hn, h.froz hl hn⟩
theorem Side.set {hb ho : Nat} (a : World) (v : Value) : Side hb ho a (a.setCell ⟨hb, ho, none⟩ v) := fun o e => ⟨World.cell?_setCell_other _ _ _ _ (fun q => e (by simpa using q.symm)), by rw [World.frozen?_setCell]⟩
def UpPost (w : World) (hb ho g cap n : Nat) (l : List Tm) (w' : World) : Prop :=
  ∃ l' : List Tm, l'.Perm l ∧ (∀ k, n ≤ k → at' l' k = at' l k) ∧ Hp (at' l') n ∧ HpAt w' hb ho g cap l' ∧ Tch (fun k => k = g) w w'

theorem at_swp_o (l : List Tm) {i j k : Nat} (hi : i < l.length) (hj : j < l.length) (h : k ≠ i) (h' : k ≠ j) : at' (swp l i j) k = at' l k := by rw [at_swp l hi hj, sw_o _ h h']

set_option maxHeartbeats 1000000 in
theorem up_any (hb ho g cap : Nat) (l : List Tm) (n j : Nat) (hjn : j < n) (hn : n ≤ l.length) (w : World) (h : HpAt w hb ho g cap l) (hex : Ex (at' l) n j) (hgr : Gr (at' l) n j) (hch : Ch (at' l) n j) :
    Calls Try.prog 37 #[.iface 59 (.pointer (some ⟨hb, ho, none⟩)), .int .i64 j] w fun e w' => e = .returned (.tuple #[]) ∧ UpPost w hb ho g cap n l w' := by
  have hm := Nat.le_trans h.row.cap_le.1 h.row.cap_le.2
  unfold maxLen at hm
  have H0 := Lib.hid (And.intro h (And.intro hex (And.intro hgr hch)))
  clear h hex hgr hch
  have el := e_less
  have es := e_swap
  go_enter Try.func37, Try.ntmps37
  go_wp2
  go_loopw [1] (fun vj wr => ∃ (k : Nat) (l' : List Tm), vj = .int .i64 k ∧ k < n ∧ l'.length = l.length ∧ Hid (l'.Perm l ∧ (∀ x, n ≤ x → at' l' x = at' l x) ∧ Ex (at' l') n k ∧ Gr (at' l') n k ∧ Ch (at' l') n k ∧ HpAt wr hb ho g cap l' ∧ Tch (fun x => x = g) w wr)) (fun vj _ => (intOf vj).toNat)
  case atStart => exact ⟨j, l, rfl, hjn, rfl, .refl _, fun _ _ => rfl, H0.out.2.1, H0.out.2.2.1, H0.out.2.2.2, H0.out.1, Tch.refl _ _⟩
  case round =>
    obtain ⟨k, l', rfl, hk, hl, HR⟩ := hrel
    have hc := HR.out.2.2.2.2.2.1.hd
    rw [hl] at hc
    have mL := m_less wr _ _ hc
    rcases Nat.eq_zero_or_pos k with rfl | hk0
    · go_wp2
      go_end0
      exact ⟨rfl, l', HR.out.1, HR.out.2.1, Hp.of HR.out.2.2.1 HR.out.2.2.2.2.1 (fun h => absurd h (by omega)), HR.out.2.2.2.2.2⟩
    · obtain ⟨i, hi⟩ : ∃ i, (k - 1) / 2 = i := ⟨_, rfl⟩
      have hi' : ((k : Int) - 1) / 2 = (i : Int) := by omega
      have hik : ¬ i = k := by omega
      have hik' : ((i : Int) == (k : Int)) = false := by simp; omega
      have HL := less_any g cap l' k i (by omega) (by omega) wr HR.out.2.2.2.2.2.1.row
      rw [hl, ← hi'] at HL
      have Hi' := Lib.hid hi'
      have Hi := Lib.hid hi
      clear hi'
      cases hlt : tlt (at' l' k) (at' l' i) with
      | true =>
        rw [hlt] at HL
        have Hlt := Lib.hid hlt
        clear hlt
        go_wp2_with fail
        refine HL.mono ?_
        rintro e w1 ⟨rfl, hg1⟩
        have h1 := HR.out.2.2.2.2.2.1.nw hg1
        have hc1 := h1.hd
        rw [hl] at hc1
        have mS := m_swap w1 _ _ hc1
        have HS := swap_any g cap l' i k (by omega) (by omega) w1 h1.row
        rw [hl, ← Hi'.out] at HS
        have H1 := Lib.hid h1
        clear h1 mL
        go_wp2_with fail
        refine HS.mono ?_
        rintro e w2 ⟨rfl, hr2, ht2⟩
        have H2 := Lib.hid (H1.out.turned ht2 hr2 (swp_len _ _ _))
        have T2 := Lib.hid (HR.out.2.2.2.2.2.2.trans ((Tch.nw (S := fun x => x = g) hg1).trans ht2))
        have U := Lib.hid (up_step Hi.out hk0 hk HR.out.2.2.1 HR.out.2.2.2.1 HR.out.2.2.2.2.1 Hlt.out)
        clear hr2 ht2 mS hc hc1
        go_wp2
        go_roundw
        case rel =>
          have hs := at_swp l' (i := i) (j := k) (by omega) (by omega)
          refine ⟨i, swp l' i k, by rw [Hi'.out], by omega, by rw [swp_len]; exact hl, (swp_perm l' (by omega) (by omega)).trans HR.out.1, fun x hx => ?_, ?_, ?_, ?_, H2.out, T2.out⟩
          · rw [at_swp_o l' (by omega) (by omega) (by omega) (by omega)]; exact HR.out.2.1 x hx
          · rw [hs]; exact U.out.1
          · rw [hs]; exact U.out.2.1
          · rw [hs]; exact U.out.2.2
        case measure => simp [intOf]; omega
      | false =>
        rw [hlt] at HL
        have Hlt := Lib.hid hlt
        clear hlt
        go_wp2_with fail
        refine HL.mono ?_
        rintro e w1 ⟨rfl, hg1⟩
        have H1 := Lib.hid (HR.out.2.2.2.2.2.1.nw hg1)
        have T1 := Lib.hid (HR.out.2.2.2.2.2.2.trans (Tch.nw hg1))
        clear mL hc
        go_wp2
        go_end0
        exact ⟨rfl, l', HR.out.1, HR.out.2.1, Hp.of HR.out.2.2.1 HR.out.2.2.2.2.1 (fun _ => by rw [Hi.out]; exact Hlt.out), H1.out, T1.out⟩
end Go.Proofs.Ytolpccchhjcddaa
