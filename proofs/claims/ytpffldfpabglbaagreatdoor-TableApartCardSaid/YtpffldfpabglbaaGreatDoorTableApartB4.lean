/- Texts merged: PhF, PhG, PhH, PoA -/
import Derived.Test.YtpffldfpabglbaaGreatDoorTableApartB3
import Derived.RangeFuncBox
import Derived.Deep.RegionLaw
import Derived.LaidEqlPtr

/- container/heap's down, on a row of numbers behind a header. -/
section
namespace Go.Proofs.YtpffldfpabglbaaGreatDoor
open Go.RowKit Go.Shelf
set_option linter.unusedVariables false

def IDownPost (w : World) (hb ho g cap n i0 : Nat) (l : List Int) (e : Ending) (w' : World) : Prop :=
  ∃ (b : Bool) (l' : List Int), e = .returned (.bool b) ∧ l'.Perm l ∧ (∀ k, n ≤ k → iat l' k = iat l k) ∧ IHpAt w' hb ho g cap l' ∧ Tch (fun k => k = g) w w' ∧ ((b = true ∧ IHp (iat l') n) ∨ (b = false ∧ l' = l ∧ ICh (iat l) n i0))
def IDownRel (w : World) (hb ho g cap n i0 : Nat) (l : List Int) (i : Nat) (l' : List Int) (wr : World) : Prop :=
  l'.Perm l ∧ (∀ x, n ≤ x → iat l' x = iat l x) ∧ IEx (iat l') n i ∧ IGr (iat l') n i ∧ IHpAt wr hb ho g cap l' ∧ Tch (fun x => x = g) w wr ∧ ((i = i0 ∧ l' = l) ∨ (i0 < i ∧ IPa (iat l') i))

theorem IDownRel.ends {w : World} {hb ho g cap n i0 : Nat} {l : List Int} {i : Nat} {l' : List Int} {wr w1 : World} (h : IDownRel w hb ho g cap n i0 l i l' wr) (k : Nw wr w1) (hc : ICh (iat l') n i) :
    (i = i0 → IDownPost w hb ho g cap n i0 l (.returned (.bool false)) w1) ∧ (i0 < i → IDownPost w hb ho g cap n i0 l (.returned (.bool true)) w1) := by
  obtain ⟨h1, h2, h3, h4, h5, h6, h7⟩ := h
  refine ⟨fun e => ?_, fun e => ?_⟩
  · rcases h7 with ⟨rfl, rfl⟩ | ⟨a, _⟩
    · exact ⟨false, l', rfl, h1, h2, h5.nw k, h6.trans (Tch.nw k), .inr ⟨rfl, rfl, hc⟩⟩
    · omega
  · rcases h7 with ⟨a, _⟩ | ⟨_, hp⟩
    · omega
    · exact ⟨true, l', rfl, h1, h2, h5.nw k, h6.trans (Tch.nw k), .inl ⟨rfl, IHp.of h3 hc hp⟩⟩
theorem IDownRel.step {w : World} {hb ho g cap n i0 : Nat} {l : List Int} {i m : Nat} {l' : List Int} {wr w1 w2 : World} (h : IDownRel w hb ho g cap n i0 l i l' wr) (hl : l'.length = l.length) (hn : n ≤ l.length)
    (hm : (m - 1) / 2 = i) (h0 : 0 < m) (hmn : m < n) (hi : i0 ≤ i) (hmin : ∀ k, 0 < k → k < n → (k - 1) / 2 = i → itle (iat l' m) (iat l' k)) (hlt : itlt (iat l' m) (iat l' i) = true)
    (k : Nw wr w1) (h1 : IHpAt w1 hb ho g cap l') (r : ITRow w2 g cap (iswp l' i m)) (t : Tch (fun x => x = g) w1 w2) : IDownRel w hb ho g cap n i0 l m (iswp l' i m) w2 := by
  obtain ⟨a1, a2, a3, a4, a5, a6, a7⟩ := h
  obtain ⟨u1, u2, u3⟩ := idown_step hm h0 a3 a4 hmin hmn hlt
  have hs := iat_swp l' (i := i) (j := m) (by omega) (by omega)
  refine ⟨(iswp_perm l' (by omega) (by omega)).trans a1, fun x hx => ?_, ?_, ?_, h1.turned t r (iswp_len _ _ _), a6.trans ((Tch.nw k).trans t), .inr ⟨by omega, ?_⟩⟩
  · rw [iat_swp_o l' (by omega) (by omega) (by omega) (by omega)]; exact a2 x hx
  · rw [hs]; exact u1
  · rw [hs]; exact u2
  · rw [hs]; exact u3

set_option maxHeartbeats 2000000 in
theorem idown_any (hb ho g cap : Nat) (l : List Int) (n i0 : Nat) (hn : n ≤ l.length) (hsm : l.length ≤ 1000000) (hi0 : i0 ≤ 1000000) (w : World) (h : IHpAt w hb ho g cap l) (hex : IEx (iat l) n i0) (hgr : IGr (iat l) n i0) :
    Calls Tryz.prog 214 #[.iface 133 (.pointer (some ⟨hb, ho, none⟩)), .int .i64 i0, .int .i64 n] w (IDownPost w hb ho g cap n i0 l) := by
  have H0 := Lib.hid (And.intro h (And.intro hex hgr))
  clear h hex hgr
  have el := ie_less
  have es := ie_swap
  go_enter Tryz.func214, Tryz.ntmps214
  go_wp2
  go_loopw [7] (fun vj wr => ∃ (i : Nat) (l' : List Int), vj = .int .i64 i ∧ i0 ≤ i ∧ i ≤ 1000000 ∧ l'.length = l.length ∧ Hid (IDownRel w hb ho g cap n i0 l i l' wr)) (fun vj _ => n - (intOf vj).toNat)
  case atStart => exact ⟨i0, l, rfl, Nat.le_refl _, hi0, rfl, .refl _, fun _ _ => rfl, H0.out.2.1, H0.out.2.2, H0.out.1, Tch.refl _ _, .inl ⟨rfl, rfl⟩⟩
  case round =>
    obtain ⟨i, l', rfl, hi, hib, hl, HR⟩ := hrel
    have hc := HR.out.2.2.2.2.1.hd
    rw [hl] at hc
    have mL := im_less wr _ _ _ hc
    by_cases hA : n ≤ 2 * i + 1
    · have HE := Lib.hid (HR.out.ends (Nw.refl _) (fun k h0 h1 h2 => by omega))
      have hA' : (n : Int) ≤ 2 * (i : Int) + 1 := by omega
      clear H0 mL hc
      rcases Nat.eq_or_lt_of_le hi with he | hlt
      · have hq : decide ((i0 : Int) < (i : Int)) = false := by simp; omega
        go_wp2
        go_ret
        exact HE.out.1 he.symm
      · have hq : (i0 : Int) < (i : Int) := by omega
        go_wp2
        go_ret
        exact HE.out.2 hlt
    · have hA' : ¬ (n : Int) ≤ 2 * (i : Int) + 1 := by omega
      by_cases hB : 2 * i + 2 < n
      · have hB' : 2 * (i : Int) + 1 + 1 < (n : Int) := by omega
        have HL0 := iless_any g cap l' (2 * i + 2) (2 * i + 1) (by omega) (by omega) wr HR.out.2.2.2.2.1.row
        rw [hl, show ((2 * i + 2 : Nat) : Int) = 2 * (i : Int) + 1 + 1 by omega, show ((2 * i + 1 : Nat) : Int) = 2 * (i : Int) + 1 by omega] at HL0
        clear H0
        cases hl0 : itlt (iat l' (2 * i + 2)) (iat l' (2 * i + 1)) with
        | true =>
          rw [hl0] at HL0
          have Hl0 := Lib.hid hl0
          clear hl0
          go_wp2_with fail
          refine HL0.mono ?_
          rintro e wP ⟨rfl, hgP⟩
          clear mL hc
          have HM := Lib.hid (show ∀ k, 0 < k → k < n → (k - 1) / 2 = i → itle (iat l' (2 * i + 2)) (iat l' k) from fun k h0 h1 h2 => by
            rcases (show k = 2 * i + 1 ∨ k = 2 * i + 2 by omega) with rfl | rfl
            · exact itle_of_lt Hl0.out
            · exact itle_refl _)
          have H1 := Lib.hid (HR.out.2.2.2.2.1.nw hgP)
          have HG := Lib.hid hgP
          have hc1 := H1.out.hd
          rw [hl] at hc1
          have mL1 := im_less wP _ _ _ hc1
          have HL := iless_any g cap l' (2 * i + 2) i (by omega) (by omega) wP H1.out.row
          rw [hl, show (((2 * i + 2 : Nat)) : Int) = 2 * (i : Int) + 1 + 1 by omega] at HL
          clear hgP
          cases hlt : itlt (iat l' (2 * i + 2)) (iat l' i) with
          | true =>
            rw [hlt] at HL
            have Hlt := Lib.hid hlt
            clear hlt
            go_wp2_with fail
            refine HL.mono ?_
            rintro e w1 ⟨rfl, hg1⟩
            have h1 := H1.out.nw hg1
            have hc2 := h1.hd
            rw [hl] at hc2
            have mS := im_swap w1 _ _ _ hc2
            have HS := iswap_any g cap l' i (2 * i + 2) (by omega) (by omega) w1 h1.row
            rw [hl, show (((2 * i + 2 : Nat)) : Int) = 2 * (i : Int) + 1 + 1 by omega] at HS
            have H1' := Lib.hid h1
            have HG1 := Lib.hid (HG.out.trans hg1)
            clear h1 mL1 hc1 hg1
            go_wp2_with fail
            refine HS.mono ?_
            rintro e w2 ⟨rfl, hr2, ht2⟩
            have H2 := Lib.hid (HR.out.step (m := 2 * i + 2) hl hn (by omega) (by omega) (by omega) hi HM.out Hlt.out HG1.out H1'.out hr2 ht2)
            clear hr2 ht2 mS hc2
            go_wp2
            go_roundw
            case rel => exact ⟨2 * i + 2, iswp l' i (2 * i + 2), by congr 1, by omega, by omega, by rw [iswp_len]; exact hl, H2.out⟩
            case measure => simp [intOf]; omega
          | false =>
            rw [hlt] at HL
            have Hlt := Lib.hid hlt
            clear hlt
            go_wp2_with fail
            refine HL.mono ?_
            rintro e w1 ⟨rfl, hg1⟩
            have HE := Lib.hid (HR.out.ends (HG.out.trans hg1) (fun k h0 h1 h2 => itle_trans Hlt.out (HM.out k h0 h1 h2)))
            clear mL1 hc1 hg1
            rcases Nat.eq_or_lt_of_le hi with he | hlt
            · have hq : decide ((i0 : Int) < (i : Int)) = false := by simp; omega
              go_wp2
              go_ret
              exact HE.out.1 he.symm
            · have hq : (i0 : Int) < (i : Int) := by omega
              go_wp2
              go_ret
              exact HE.out.2 hlt
        | false =>
          rw [hl0] at HL0
          have Hl0 := Lib.hid hl0
          clear hl0
          go_wp2_with fail
          refine HL0.mono ?_
          rintro e wP ⟨rfl, hgP⟩
          clear mL hc
          have HM := Lib.hid (show ∀ k, 0 < k → k < n → (k - 1) / 2 = i → itle (iat l' (2 * i + 1)) (iat l' k) from fun k h0 h1 h2 => by
            rcases (show k = 2 * i + 1 ∨ k = 2 * i + 2 by omega) with rfl | rfl
            · exact itle_refl _
            · exact Hl0.out)
          have H1 := Lib.hid (HR.out.2.2.2.2.1.nw hgP)
          have HG := Lib.hid hgP
          have hc1 := H1.out.hd
          rw [hl] at hc1
          have mL1 := im_less wP _ _ _ hc1
          have HL := iless_any g cap l' (2 * i + 1) i (by omega) (by omega) wP H1.out.row
          rw [hl, show (((2 * i + 1 : Nat)) : Int) = 2 * (i : Int) + 1 by omega] at HL
          clear hgP
          cases hlt : itlt (iat l' (2 * i + 1)) (iat l' i) with
          | true =>
            rw [hlt] at HL
            have Hlt := Lib.hid hlt
            clear hlt
            go_wp2_with fail
            refine HL.mono ?_
            rintro e w1 ⟨rfl, hg1⟩
            have h1 := H1.out.nw hg1
            have hc2 := h1.hd
            rw [hl] at hc2
            have mS := im_swap w1 _ _ _ hc2
            have HS := iswap_any g cap l' i (2 * i + 1) (by omega) (by omega) w1 h1.row
            rw [hl, show (((2 * i + 1 : Nat)) : Int) = 2 * (i : Int) + 1 by omega] at HS
            have H1' := Lib.hid h1
            have HG1 := Lib.hid (HG.out.trans hg1)
            clear h1 mL1 hc1 hg1
            go_wp2_with fail
            refine HS.mono ?_
            rintro e w2 ⟨rfl, hr2, ht2⟩
            have H2 := Lib.hid (HR.out.step (m := 2 * i + 1) hl hn (by omega) (by omega) (by omega) hi HM.out Hlt.out HG1.out H1'.out hr2 ht2)
            clear hr2 ht2 mS hc2
            go_wp2
            go_roundw
            case rel => exact ⟨2 * i + 1, iswp l' i (2 * i + 1), by congr 1, by omega, by omega, by rw [iswp_len]; exact hl, H2.out⟩
            case measure => simp [intOf]; omega
          | false =>
            rw [hlt] at HL
            have Hlt := Lib.hid hlt
            clear hlt
            go_wp2_with fail
            refine HL.mono ?_
            rintro e w1 ⟨rfl, hg1⟩
            have HE := Lib.hid (HR.out.ends (HG.out.trans hg1) (fun k h0 h1 h2 => itle_trans Hlt.out (HM.out k h0 h1 h2)))
            clear mL1 hc1 hg1
            rcases Nat.eq_or_lt_of_le hi with he | hlt
            · have hq : decide ((i0 : Int) < (i : Int)) = false := by simp; omega
              go_wp2
              go_ret
              exact HE.out.1 he.symm
            · have hq : (i0 : Int) < (i : Int) := by omega
              go_wp2
              go_ret
              exact HE.out.2 hlt
      · have hB' : ¬ 2 * (i : Int) + 1 + 1 < (n : Int) := by omega
        clear H0 mL hc
        have hgP := Nw.refl wr
        have HM := Lib.hid (show ∀ k, 0 < k → k < n → (k - 1) / 2 = i → itle (iat l' (2 * i + 1)) (iat l' k) from fun k h0 h1 h2 => by
          obtain rfl : k = 2 * i + 1 := by omega
          exact itle_refl _)
        have H1 := Lib.hid (HR.out.2.2.2.2.1.nw hgP)
        have HG := Lib.hid hgP
        have hc1 := H1.out.hd
        rw [hl] at hc1
        have mL1 := im_less wr _ _ _ hc1
        have HL := iless_any g cap l' (2 * i + 1) i (by omega) (by omega) wr H1.out.row
        rw [hl, show (((2 * i + 1 : Nat)) : Int) = 2 * (i : Int) + 1 by omega] at HL
        clear hgP
        cases hlt : itlt (iat l' (2 * i + 1)) (iat l' i) with
        | true =>
          rw [hlt] at HL
          have Hlt := Lib.hid hlt
          clear hlt
          go_wp2_with fail
          refine HL.mono ?_
          rintro e w1 ⟨rfl, hg1⟩
          have h1 := H1.out.nw hg1
          have hc2 := h1.hd
          rw [hl] at hc2
          have mS := im_swap w1 _ _ _ hc2
          have HS := iswap_any g cap l' i (2 * i + 1) (by omega) (by omega) w1 h1.row
          rw [hl, show (((2 * i + 1 : Nat)) : Int) = 2 * (i : Int) + 1 by omega] at HS
          have H1' := Lib.hid h1
          have HG1 := Lib.hid (HG.out.trans hg1)
          clear h1 mL1 hc1 hg1
          go_wp2_with fail
          refine HS.mono ?_
          rintro e w2 ⟨rfl, hr2, ht2⟩
          have H2 := Lib.hid (HR.out.step (m := 2 * i + 1) hl hn (by omega) (by omega) (by omega) hi HM.out Hlt.out HG1.out H1'.out hr2 ht2)
          clear hr2 ht2 mS hc2
          go_wp2
          go_roundw
          case rel => exact ⟨2 * i + 1, iswp l' i (2 * i + 1), by congr 1, by omega, by omega, by rw [iswp_len]; exact hl, H2.out⟩
          case measure => simp [intOf]; omega
        | false =>
          rw [hlt] at HL
          have Hlt := Lib.hid hlt
          clear hlt
          go_wp2_with fail
          refine HL.mono ?_
          rintro e w1 ⟨rfl, hg1⟩
          have HE := Lib.hid (HR.out.ends (HG.out.trans hg1) (fun k h0 h1 h2 => itle_trans Hlt.out (HM.out k h0 h1 h2)))
          clear mL1 hc1 hg1
          rcases Nat.eq_or_lt_of_le hi with he | hlt
          · have hq : decide ((i0 : Int) < (i : Int)) = false := by simp; omega
            go_wp2
            go_ret
            exact HE.out.1 he.symm
          · have hq : (i0 : Int) < (i : Int) := by omega
            go_wp2
            go_ret
            exact HE.out.2 hlt
end Go.Proofs.YtpffldfpabglbaaGreatDoor
end

/- The heap's own Push and Pop. -/
section
namespace Go.Proofs.YtpffldfpabglbaaGreatDoor
open Go.RowKit Go.Shelf

def itrow (x : Int) : List Value := [.int .i64 x]
/-- A slice of numbers in memory, nil let in, and the header that holds it. -/
structure IHv (w : World) (hb ho : Nat) (v : Value) (l : List Int) : Prop where
  hd : w.cell? ⟨hb, ho, none⟩ = some v
  hf : w.frozen? ⟨hb, ho, none⟩ = false
  row : IS w v l
  ne : v.ownBlock ≠ some hb
theorem IHv.lt {w : World} {hb ho : Nat} {v : Value} {l : List Int} (h : IHv w hb ho v l) : hb < w.heap.size := World.block_lt_of_cell? _ ⟨hb, ho, none⟩ h.hd
theorem IHpAt.v {w : World} {hb ho g cap : Nat} {l : List Int} (h : IHpAt w hb ho g cap l) : IHv w hb ho (.slice (some ⟨g, 0, none⟩) l.length cap) l :=
  ⟨h.hd, h.hf, h.row, fun e => h.ne (by simp [Value.ownBlock] at e; exact e.symm)⟩
theorem IHv.form {w : World} {hb ho : Nat} {v : Value} {l : List Int} (h : IHv w hb ho v l) : (v = .slice none 0 0 ∧ l = []) ∨ ∃ g cap, v = .slice (some ⟨g, 0, none⟩) l.length cap ∧ IHpAt w hb ho g cap l := by
  rcases h.row.2 with ⟨rfl, h0⟩ | ⟨g, cap, cur, rfl, _⟩
  · exact .inl ⟨rfl, List.length_eq_zero_iff.1 h0⟩
  · exact .inr ⟨g, cap, rfl, h.hd, h.hf, h.row, fun e => h.ne (by simp [Value.ownBlock, e])⟩
theorem IHv.tch {S : Nat → Prop} {w w' : World} {hb ho : Nat} {v : Value} {l : List Int} (h : IHv w hb ho v l) (k : Tch S w w') (h1 : ¬ S hb) (h2 : ∀ g, v.ownBlock = some g → ¬ S g) : IHv w' hb ho v l := by
  rcases h.form with ⟨rfl, rfl⟩ | ⟨g, cap, rfl, hp⟩
  · exact ⟨(k.cell h.lt h1).trans h.hd, (k.froz h.lt h1).trans h.hf, World.ownsRow_nil _ _ _ _, h.ne⟩
  · exact (hp.tch k h1 (h2 g rfl)).v
theorem IHv.nw {w w' : World} {hb ho : Nat} {v : Value} {l : List Int} (h : IHv w hb ho v l) (k : Nw w w') : IHv w' hb ho v l := h.tch (Tch.nw (S := fun _ => False) k) (fun e => e) (fun _ _ e => e)
/-- The blocks of a slice behind its header. -/
def IOf (hb : Nat) (v : Value) : Nat → Prop := fun k => k = hb ∨ v.ownBlock = some k

def IPushM (w : World) (hb ho : Nat) (v : Value) (l : List Int) (w' : World) : Prop :=
  ∃ g' cap', IHpAt w' hb ho g' cap' l ∧ (some g' = v.ownBlock ∨ w.heap.size ≤ g') ∧ Tch (IOf hb v) w w' ∧ ISide hb ho w w'

/-- What append makes of a slice of numbers: at a world that has one box more than w. -/
theorem iappend_at (t ty : TypeId) (ht : Tryz.prog.underlying t = some (.slice 3)) (w W : World) (hb ho : Nat) (v : Value) (l : List Int) (x : Int) (h : IHv w hb ho v l) (hsm : l.length ≤ 1000000)
    (nwW : Nw w W) (hsz : W.heap.size = w.heap.size + 1) (c : ∀ j u, (itrow x)[j]? = some u → W.cell? ((⟨w.heap.size, 0, none⟩ : Addr).add j) = some u) :
    ∃ g' cap' w1, (Builtin.append_ #[t, t] ty #[v, .slice (some ⟨w.heap.size, 0, none⟩) 1 1]).run Tryz.prog W = .ok (.slice (some ⟨g', 0, none⟩) (l.length + 1) cap') w1 ∧
      w1.cell? ⟨hb, ho, none⟩ = some v ∧ w1.frozen? ⟨hb, ho, none⟩ = false ∧ IPushM w hb ho v (l ++ [x]) (w1.setCell ⟨hb, ho, none⟩ (.slice (some ⟨g', 0, none⟩) (l.length + 1) cap')) := by
  have hlt := h.lt
  have hv := h.nw nwW
  obtain ⟨i0, hi, hz0, hz1, hz2⟩ := info_parts infoI
  obtain ⟨v', w1, hr, ho1, hg1, hp1⟩ := run_append_fresh (P := Tryz.prog) W 0 t ty 3 i0 _ 1 8 ht hi hz0 hz1 hz2 rfl (by decide) v l.length (l.map (Value.int .i64)) hv.row
    ⟨w.heap.size, 0, none⟩ 1 1 (itrow x) rfl c (by simp [itrow, Value.oneCell']) (by unfold maxLen; omega) (by omega) (Nat.zero_le _)
  obtain ⟨g', cap', rfl⟩ := ownsRow_succ ho1
  have hne : some hb ≠ v.ownBlock := fun e => h.ne e.symm
  have hg'ne : hb ≠ g' := by
    intro e
    subst e
    rcases hp1 with e | e
    · exact hne e
    · simp [Value.ownBlock] at e; omega
  have hcell := hg1.cell hv.hd hne
  have hfroz : w1.frozen? ⟨hb, ho, none⟩ = false := (World.frozen?_of_block (hg1.block hb (by omega) hne)).trans hv.hf
  refine ⟨g', cap', w1, hr, hcell, hfroz, g', cap', ⟨?_, ?_, ?_, hg'ne⟩, ?_, ?_, ?_⟩
  · rw [List.length_append]; exact World.cell?_setCell_same _ _ _ hcell
  · rw [World.frozen?_setCell]; exact hfroz
  · have hrow : ITRow w1 g' cap' (l ++ [x]) := by
      unfold ITRow IS
      rw [List.length_append, List.map_append]
      exact ho1
    exact itkept hrow (Below.heap_setCell _ _ _ _ (fun e => hg'ne e.symm))
  · rcases hp1 with e | e
    · exact .inl e
    · refine .inr ?_
      simp [Value.ownBlock] at e; omega
  · have t1 : Tch (IOf hb v) w w1 := (Tch.nw nwW).grown hg1 (fun k e => .inl (.inr e))
    exact t1.set (.inl (.inl rfl)) _
  · refine ISide.trans (b := w1) (ISide.trans (b := W) (ISide.tch (Tch.nw (S := fun _ => False) nwW) hlt (fun e => e)) ?_) (ISide.set w1 _)
    exact fun o _ => ⟨World.cell?_of_block (hg1.block hb (by omega) hne), World.frozen?_of_block (hg1.block hb (by omega) hne)⟩

theorem ibox_cells (w : World) (x : Int) (T : TypeId) : ∀ j u, (itrow x)[j]? = some u → (w.alloc (.cells #[.int .i64 x] T)).cell? ((⟨w.heap.size, 0, none⟩ : Addr).add j) = some u := by
  intro j u hu
  match j, hu with
  | 0, hu => simp [itrow] at hu; subst hu; simp [go_sem]
  | j + 1, hu => simp [itrow] at hu
theorem iappend_t (t ty : TypeId) (ht : Tryz.prog.underlying t = some (.slice 3)) (w W : World) (hb ho : Nat) (v : Value) (l : List Int) (x : Int) (h : IHv w hb ho v l) (hsm : l.length ≤ 1000000)
    (hW : (w.alloc (.cells #[.int .i64 x] 3)).drew = W) :
    ∃ g' cap' w1, (Builtin.append_ #[t, t] ty #[v, .slice (some ⟨w.heap.size, 0, none⟩) 1 1]).run Tryz.prog W = .ok (.slice (some ⟨g', 0, none⟩) (l.length + 1) cap') w1 ∧
      w1.cell? ⟨hb, ho, none⟩ = some v ∧ w1.frozen? ⟨hb, ho, none⟩ = false ∧ IPushM w hb ho v (l ++ [x]) (w1.setCell ⟨hb, ho, none⟩ (.slice (some ⟨g', 0, none⟩) (l.length + 1) cap')) := by
  subst hW
  exact iappend_at t ty ht w _ hb ho v l x h hsm (((Nw.refl w).alloc _).drewN 1) (by simp) (ibox_cells w x _)

theorem istep_append {P : Program} {ops : Array Oper} {o : Oper} {a : Act} {w : World} {K : Act → World → Prop} {Q : Exit → Act → World → Prop} {E : Prop} (hgd : o.guard = none) (s x : Operand) (t : TypeId)
    (ho : o.op = .call { callee := .builtin .append, args := #[s, x], argTypes := #[t, t] }) (v u v' : Value) (w' : World) (hs : a.eval s = v) (hx : a.eval x = u) (hr : (Builtin.append_ #[t, t] o.type #[v, u]).run P w = .ok v' w')
    (h : K (a.put o.dst v') w') : if Region.wanted o (yielded ops a.tmps) = true then Oper.wp P o a w K Q else E := by
  have hw : Region.wanted o (yielded ops a.tmps) = true := by simp [Region.wanted, hgd]
  rw [if_pos hw]
  unfold Oper.wp execOp
  simp only [ho, resolve, invoke, builtin, Sem.run_bind, Sem.run_pure, Result.andThen_ok, List.map_toArray, List.map_cons, List.map_nil, hs, hx, hr]
  exact h
theorem iassert_t (y : Value) (w : World) : Sem.run Tryz.prog (Instr.typeAssert (.iface 3 y) 20 3 false) w = .ok y w := by
  have hu := Tryz.underlying3
  simp [Instr.typeAssert, go_sem]
set_option maxHeartbeats 1000000 in
theorem ipushM_any (hb ho : Nat) (v : Value) (l : List Int) (x : Int) (w : World) (h : IHv w hb ho v l) (hsm : l.length ≤ 1000000) :
    Calls Tryz.prog 285 #[.pointer (some ⟨hb, ho, none⟩), .iface 3 (.int .i64 x)] w fun e w' => e = .returned (.tuple #[]) ∧ IPushM w hb ho v (l ++ [x]) w' := by
  obtain ⟨W, hW⟩ : ∃ W, (w.alloc (.cells #[.int .i64 x] 3)).drew = W := ⟨_, rfl⟩
  obtain ⟨g', cap', w1, hr, hc, hf, hp⟩ := iappend_t 127 127 Tryz.underlying127 w W hb ho v l x h hsm hW
  have HP := Lib.hid hp
  have hd := h.hd
  have hlt := h.lt
  have vf := h.form
  clear hp h
  have ta := iassert_t
  generalize l.length = N at *
  have HA := Lib.hid hr
  clear hr
  subst hW
  rcases vf with ⟨rfl, _⟩ | ⟨g, cap, rfl, _⟩
  all_goals
    go_enter Tryz.func285, Tryz.ntmps285
    go_wp2
    go_region_law (refine istep_append rfl (.tmp 8) (.tmp 11) 127 rfl _ _ _ _ rfl rfl HA.out ?_)
    go_wp2
  all_goals
    go_end0
    exact ⟨rfl, HP.out⟩

theorem ipopM_world {w : World} {hb ho g cap : Nat} {l : List Int} {x : Int} (h : IHpAt w hb ho g cap (l ++ [x])) :
    IHpAt (w.setCell ⟨hb, ho, none⟩ (.slice (some ⟨g, 0, none⟩) l.length cap)) hb ho g cap l ∧ Tch (fun k => k = hb) w (w.setCell ⟨hb, ho, none⟩ (.slice (some ⟨g, 0, none⟩) l.length cap)) ∧ ISide hb ho w (w.setCell ⟨hb, ho, none⟩ (.slice (some ⟨g, 0, none⟩) l.length cap)) := by
  have h1 : IHpAt (w.setCell ⟨hb, ho, none⟩ (.slice (some ⟨g, 0, none⟩) l.length cap)) hb ho g cap l := by
    refine ⟨World.cell?_setCell_same _ _ _ h.hd, by rw [World.frozen?_setCell]; exact h.hf, ?_, h.ne⟩
    have hr := h.row
    unfold ITRow at hr
    unfold IS at hr
    rw [List.length_append, List.map_append] at hr
    have hp := ownsRow_pop (xs := l.map (Value.int .i64)) (last := [x].map (Value.int .i64)) (by simp) hr
    exact itkept (w := w) hp (Below.heap_setCell _ _ _ _ (fun e => h.ne e.symm))
  exact ⟨h1, Tch.set (S := fun k => k = hb) (p := ⟨hb, ho, none⟩) (Tch.refl _ w) (.inl rfl) _, ISide.set w _⟩
set_option maxHeartbeats 1000000 in
theorem ipopM_any (hb ho g cap : Nat) (l : List Int) (x : Int) (w : World) (h : IHpAt w hb ho g cap (l ++ [x])) :
    Calls Tryz.prog 284 #[.pointer (some ⟨hb, ho, none⟩)] w fun e w' => e = .returned (.iface 3 (.int .i64 x)) ∧ IHpAt w' hb ho g cap l ∧ Tch (fun k => k = hb) w w' ∧ ISide hb ho w w' := by
  have HW := Lib.hid (ipopM_world h)
  have hm := Nat.le_trans (itcap_le h.row).1 (itcap_le h.row).2
  unfold maxLen at hm
  have hcap := (itcap_le h.row).1
  have c0 := itcells h.row l.length (by simp)
  have hx : iat (l ++ [x]) l.length = x := by simp [iat, List.getD]
  rw [hx] at c0
  have hd := h.hd
  have hf := h.hf
  have hlt := h.lt
  rw [List.length_append] at hd hm hcap
  simp only [List.length_cons, List.length_nil, Nat.zero_add] at hd hm hcap
  generalize l.length = N at *
  clear h hx
  go_enter Tryz.func284, Tryz.ntmps284
  go_wp2
  go_ret
  exact ⟨rfl, HW.out⟩
end Go.Proofs.YtpffldfpabglbaaGreatDoor
end

/- container/heap's Push, Pop and Remove. -/
section
namespace Go.Proofs.YtpffldfpabglbaaGreatDoor
open Go.RowKit Go.Shelf

def IPushH (w : World) (hb ho : Nat) (v : Value) (s : List Int) (w' : World) : Prop :=
  ∃ g' cap' l', IHpAt w' hb ho g' cap' l' ∧ IHs l' s ∧ (some g' = v.ownBlock ∨ w.heap.size ≤ g') ∧ Tch (IOf hb v) w w' ∧ ISide hb ho w w'
set_option maxHeartbeats 1000000 in
theorem ihpush_any (hb ho : Nat) (v : Value) (l s : List Int) (x : Int) (w : World) (h : IHv w hb ho v l) (hs : IHs l s) (hsm : l.length ≤ 100000) :
    Calls Tryz.prog 94 #[.iface 133 (.pointer (some ⟨hb, ho, none⟩)), .iface 3 (.int .i64 x)] w fun e w' => e = .returned (.tuple #[]) ∧ IPushH w hb ho v (iins x s) w' := by
  have HP := Lib.hid (ipushM_any hb ho v l x w h (by omega))
  have HS := Lib.hid (And.intro h hs)
  have mP := im_push
  have eP := ie_push
  have eN := ie_len
  clear h hs
  go_enter Tryz.func94, Tryz.ntmps94
  go_wp2_with fail
  refine HP.out.mono ?_
  rintro e w1 ⟨rfl, hw1⟩
  have H1 := Lib.hid hw1
  obtain ⟨g', cap', hp, hor, ht, hsd⟩ := hw1
  have hd := hp.hd
  have mN := im_len w1 _ _ _ hd
  have HU := Lib.hid (fun j hj => iup_any hb ho g' cap' (l ++ [x]) (l.length + 1) j hj (by simp) w1 hp)
  have HX := Lib.hid (ihp_app x HS.out.2.1)
  have HH := Lib.hid (And.intro hor (And.intro ht (And.intro hsd hp)))
  clear hp hor ht hsd H1 HP mP
  rw [List.length_append] at mN hd
  simp only [List.length_cons, List.length_nil, Nat.zero_add] at mN hd
  go_wp2_with fail
  refine (ilen_any _ _ _ _).mono ?_
  rintro e w2 ⟨rfl, rfl⟩
  clear mN hd
  go_wp2_with fail
  refine (HU.out l.length (by omega) HX.out.1 HX.out.2.1 HX.out.2.2).mono ?_
  rintro e w2 ⟨rfl, hw2⟩
  have H2 := Lib.hid hw2
  clear hw2
  go_wp2
  go_end0
  obtain ⟨l', p1, _, p3, p4, p5⟩ := H2.out
  obtain ⟨hor, ht, hsd, hp⟩ := HH.out
  have hl : l'.length = l.length + 1 := by rw [p1.length_eq]; simp
  refine ⟨rfl, g', cap', l', p4, ⟨by rw [hl]; exact p3, ?_, iins_srt x s HS.out.2.2.2⟩, hor, ht.trans' p5 (fun i hi e => ?_), hsd.trans (ISide.tch p5 hp.lt hp.ne)⟩
  · exact p1.trans ((List.perm_append_comm).trans ((HS.out.2.2.1.cons x).trans (iins_perm x s).symm))
  · subst e
    rcases hor with e | e
    · exact .inr e.symm
    · omega

def IPopH (w : World) (hb ho g cap : Nat) (s : List Int) (w' : World) : Prop :=
  ∃ l', IHpAt w' hb ho g cap l' ∧ IHs l' s ∧ Tch (fun k => k = hb ∨ k = g) w w' ∧ ISide hb ho w w'
set_option maxHeartbeats 1000000 in
theorem ihpop_any (hb ho g cap : Nat) (l s : List Int) (a : Int) (w : World) (h : IHpAt w hb ho g cap l) (hs : IHs l (a :: s)) (hsm : l.length ≤ 100000) :
    Calls Tryz.prog 175 #[.iface 133 (.pointer (some ⟨hb, ho, none⟩))] w fun e w' => e = .returned (.iface 3 (.int .i64 a)) ∧ IPopH w hb ho g cap s w' := by
  obtain ⟨n, hn⟩ : ∃ n, l.length = n + 1 := ⟨s.length, by rw [hs.len]; rfl⟩
  have HS := Lib.hid (And.intro h hs)
  have hd := h.hd
  have mN := im_len w _ _ _ hd
  have mS := im_swap w _ _ _ hd
  have HW := Lib.hid (iswap_any g cap l 0 n (by omega) (by omega) w h.row)
  rw [hn] at mN mS hd HW
  have mO := im_pop
  have eO := ie_pop
  have eN := ie_len
  have eS := ie_swap
  clear h hs
  go_enter Tryz.func175, Tryz.ntmps175
  go_wp2_with fail
  refine (ilen_any _ _ _ _).mono ?_
  rintro e w2 ⟨rfl, rfl⟩
  clear mN
  go_wp2_with fail
  refine HW.out.mono ?_
  rintro e w1 ⟨rfl, hr1, ht1⟩
  have hat := iat_swp l (i := 0) (j := n) (by omega) (by omega)
  have h1 := HS.out.1.turned ht1 hr1 (iswp_len _ _ _)
  have hH := HS.out.2.1
  have HE := Lib.hid (idown_any hb ho g cap (iswp l 0 n) n 0 (by rw [iswp_len]; omega) (by rw [iswp_len]; omega) (by omega) w1 h1
    (fun k h0 hk hne hpa => by rw [hat, isw_o _ (by omega) (by omega), isw_o _ (by omega) (by omega)]; exact hH k h0 (by omega))
    (fun h0 => absurd h0 (by omega)))
  have H1 := Lib.hid (And.intro ht1 hat)
  clear hr1 ht1 hat h1 mS hd hH
  go_wp2_with fail
  refine HE.out.mono ?_
  rintro e w2 hw2
  have H2 : Hid _ := hw2
  obtain ⟨b, l', rfl, p1, p2, p3, p4, p5⟩ := hw2
  have hl' : l'.length = n + 1 := by rw [p1.length_eq, iswp_len, hn]
  have hp : IHp (iat l') n := by
    rcases p5 with ⟨_, q⟩ | ⟨_, rfl, q⟩
    · exact q
    · intro k h0 hk
      by_cases e : (k - 1) / 2 = 0
      · rw [e]; exact q k h0 hk e
      · rw [H1.out.2, isw_o _ (by omega) (by omega), isw_o _ (by omega) (by omega)]; exact HS.out.2.1 k h0 (by omega)
  have hx : iat l' n = a := by
    rw [p2 n (Nat.le_refl _), H1.out.2, isw_r]; exact HS.out.2.head
  obtain ⟨el, hs'⟩ := HS.out.2.cut (p1.trans (iswp_perm l (by omega) (by omega))) hl' hx hp (.refl _) (List.pairwise_cons.1 HS.out.2.2.2).2
  rw [el] at p3
  have HO := Lib.hid (ipopM_any hb ho g cap (l'.take n) a w2 p3)
  have H3 := Lib.hid (And.intro hs' p4)
  clear p1 p2 p3 p4 p5 hp hx el hs' H2 hl'
  go_wp2_with fail
  refine HO.out.mono ?_
  rintro e w3 ⟨rfl, q1, q2⟩
  have H4 := Lib.hid (And.intro q1 q2)
  clear q1 q2
  go_wp2
  go_ret
  refine ⟨rfl, l'.take n, H4.out.1, H3.out.1, ?_, ?_⟩
  · exact ((H1.out.1.trans H3.out.2).mono (fun _ _ e => Or.inr e)).trans (H4.out.2.1.mono (fun _ _ e => Or.inl e))
  · exact (ISide.tch (H1.out.1.trans H3.out.2) HS.out.1.lt HS.out.1.ne).trans H4.out.2.2
end Go.Proofs.YtpffldfpabglbaaGreatDoor
end

/- A pool in memory; made, Most, Has, Live. -/
section
namespace Go.Proofs.YtpffldfpabglbaaGreatDoor
open Go.RowKit

/-- A pool: the truths of its numbers, the heap of those that are free. -/
structure Po (w : World) (p g : Nat) (v : Value) (l : List Int) (L : List Bool) : Prop where
  self : w.cell? ⟨p, 0, none⟩ = some (.pointer (some ⟨p, 0, none⟩))
  row : w.cell? ⟨p, 1, none⟩ = some (.slice (some ⟨g, 0, none⟩) L.length L.length)
  cells : ∀ i, i < L.length → w.cell? ⟨g, i, none⟩ = some (.bool (L.getD i false)) ∧ w.frozen? ⟨g, i, none⟩ = false
  gl : g < w.heap.size
  hv : IHv w p 2 v l
  hs : IHs l (frI L)
  gp : g ≠ p
  gv : v.ownBlock ≠ some g
  sz : L.length ≤ 128
/-- The places that a pool may write. -/
def PoF (p g : Nat) (v : Value) : Nat → Prop := fun k => k = p ∨ k = g ∨ v.ownBlock = some k
theorem Po.lt {w : World} {p g : Nat} {v : Value} {l : List Int} {L : List Bool} (h : Po w p g v l L) : p < w.heap.size := h.hv.lt
theorem Po.own {w : World} {p g : Nat} {v : Value} {l : List Int} {L : List Bool} (h : Po w p g v l L) : ∀ k, PoF p g v k → k < w.heap.size := by
  rintro k (rfl | rfl | e)
  · exact h.lt
  · exact h.gl
  · exact IS.lt h.hv.row e
theorem Po.tch {S : Nat → Prop} {w w' : World} {p g : Nat} {v : Value} {l : List Int} {L : List Bool} (h : Po w p g v l L) (k : Tch S w w') (hS : ∀ k, PoF p g v k → ¬ S k) : Po w' p g v l L :=
  ⟨(k.cell h.lt (hS _ (.inl rfl))).trans h.self, (k.cell h.lt (hS _ (.inl rfl))).trans h.row, fun i hi => ⟨(k.cell h.gl (hS _ (.inr (.inl rfl)))).trans (h.cells i hi).1, (k.froz h.gl (hS _ (.inr (.inl rfl)))).trans (h.cells i hi).2⟩,
    Nat.lt_of_lt_of_le h.gl k.size, h.hv.tch k (hS _ (.inl rfl)) (fun b e => hS b (.inr (.inr e))), h.hs, h.gp, h.gv, h.sz⟩
theorem Po.nw {w w' : World} {p g : Nat} {v : Value} {l : List Int} {L : List Bool} (h : Po w p g v l L) (k : Nw w w') : Po w' p g v l L := h.tch (Tch.nw (S := fun _ => False) k) (fun _ _ e => e)
theorem Po.llen {w : World} {p g : Nat} {v : Value} {l : List Int} {L : List Bool} (h : Po w p g v l L) : l.length + liv L = L.length := by rw [h.hs.len]; exact frI_len L
/-- The same with the blocks alone named. -/
def Pol (w : World) (p : Nat) (L : List Bool) (F : Nat → Prop) : Prop := ∃ g v l, Po w p g v l L ∧ F = PoF p g v
theorem Pol.own {w : World} {p : Nat} {L : List Bool} {F : Nat → Prop} (h : Pol w p L F) : ∀ k, F k → k < w.heap.size := by
  obtain ⟨g, v, l, h, rfl⟩ := h; exact h.own
theorem Pol.tch {S : Nat → Prop} {w w' : World} {p : Nat} {L : List Bool} {F : Nat → Prop} (h : Pol w p L F) (k : Tch S w w') (hS : ∀ k, F k → ¬ S k) : Pol w' p L F := by
  obtain ⟨g, v, l, h, rfl⟩ := h; exact ⟨g, v, l, h.tch k hS, rfl⟩
theorem Pol.nw {w w' : World} {p : Nat} {L : List Bool} {F : Nat → Prop} (h : Pol w p L F) (k : Nw w w') : Pol w' p L F := by
  obtain ⟨g, v, l, h, rfl⟩ := h; exact ⟨g, v, l, h.nw k, rfl⟩
theorem Pol.sz {w : World} {p : Nat} {L : List Bool} {F : Nat → Prop} (h : Pol w p L F) : L.length ≤ 128 := by obtain ⟨g, v, l, h, rfl⟩ := h; exact h.sz
/-- A step of a pool: what it becomes, and what else may change. -/
def PolTo (w : World) (p : Nat) (F : Nat → Prop) (L : List Bool) (w' : World) : Prop := ∃ F', Pol w' p L F' ∧ (∀ k, F' k → F k ∨ w.heap.size ≤ k) ∧ Tch F w w'
theorem Pol.to {w w' : World} {p : Nat} {L : List Bool} {F : Nat → Prop} (h : Pol w p L F) (k : Nw w w') : PolTo w p F L w' := ⟨F, h.nw k, fun _ e => .inl e, Tch.nw k⟩

/-! ### made -/
theorem infoPool : (Tryz.prog.info? 131).isSome = true := by kernel_rfl
theorem peql_self (a : Addr) (w : World) : Sem.run Tryz.prog (binOp .eql 83 (.pointer (some a)) (.pointer (some a))) w = .ok (.bool true) w := by
  obtain ⟨j, hj⟩ := Option.isSome_iff_exists.1 infoPool
  exact run_eql_ptr_same w a Tryz.underlying83 hj
theorem pmade_yes (p : Nat) (w : World) (h : w.cell? ⟨p, 0, none⟩ = some (.pointer (some ⟨p, 0, none⟩))) : Calls Tryz.prog 123 #[.pointer (some ⟨p, 0, none⟩)] w fun e w' => e = .returned (.bool true) ∧ w = w' := by
  have he := peql_self
  go_enter Tryz.func123, Tryz.ntmps123
  go_wp2
  go_ret
  exact ⟨rfl, rfl⟩

/-! ### Most, Has, Live -/
theorem most_at {p g : Nat} {v : Value} {l : List Int} {L : List Bool} {w : World} (h : Po w p g v l L) : Calls Tryz.prog 177 #[.pointer (some ⟨p, 0, none⟩)] w fun e w' => e = .returned (.int .i64 L.length) ∧ w = w' := by
  have HM := Lib.hid (pmade_yes p w h.self)
  have hr := h.row
  clear h
  go_enter Tryz.func177, Tryz.ntmps177
  go_wp2_with (go_at_call 123; refine HM.out.mono ?_; rintro e w' ⟨rfl, rfl⟩)
  go_ret
  exact ⟨rfl, rfl⟩
theorem has_at {p g : Nat} {v : Value} {l : List Int} {L : List Bool} {w : World} (h : Po w p g v l L) (n : Int) : Calls Tryz.prog 130 #[.pointer (some ⟨p, 0, none⟩), .int .i64 n] w fun e w' => e = .returned (.bool (hsL L n)) ∧ w = w' := by
  have HM := Lib.hid (most_at h)
  have hr := h.row
  have hsz := h.sz
  have hg := h.gl
  by_cases hn : 0 ≤ n
  · obtain ⟨i, rfl⟩ := Int.eq_ofNat_of_zero_le hn
    by_cases hi : i < L.length
    · have hc := (h.cells i hi).1
      have e : hsL L i = L.getD i false := by simp [hsL]
      rw [e]
      generalize L.getD i false = b at *
      generalize L.length = N at *
      clear h e hn
      go_enter Tryz.func130, Tryz.ntmps130
      go_wp2_with (go_at_call 177; refine HM.out.mono ?_; rintro e w' ⟨rfl, rfl⟩)
      go_ret
      exact ⟨rfl, rfl⟩
    · have e : hsL L i = false := by simp [hsL, List.getElem?_eq_none (show L.length ≤ i by omega)]
      rw [e]
      generalize L.length = N at *
      have hd : decide (i < N) = false := by simpa using hi
      clear h e hn hi
      go_enter Tryz.func130, Tryz.ntmps130
      go_wp2_with (go_at_call 177; refine HM.out.mono ?_; rintro e w' ⟨rfl, rfl⟩)
      go_ret
      exact ⟨rfl, rfl⟩
  · have e : hsL L n = false := by simp [hsL, hn]
    rw [e]
    clear h e hr
    generalize L.length = N at *
    go_enter Tryz.func130, Tryz.ntmps130
    go_wp2
    go_ret
    exact ⟨rfl, rfl⟩
end Go.Proofs.YtpffldfpabglbaaGreatDoor
end
