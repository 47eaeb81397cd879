
/- Contracts of stage 3, second part: Spread (the program's and the document's), the document's Same, Own and Same of the checker's kit, Pick. -/
import Derived.Test.YtcffpbikjeimgaaDoorStripeM
import Derived.Test.YtcffpbikjeimgaaDoorSliceN
import Derived.LoopTactic
import Derived.WalkSpells
namespace Go.Proofs.YtcffpbikjeimgaaDoor
open Go.ChangeShapes Go.WideShapes Go.ChangeAt Go.RowKit

theorem rem_bd (n m : Int) (hm : 0 < m) : -m < n.tmod m ∧ n.tmod m < m := by
  refine ⟨?_, Int.tmod_lt_of_pos n hm⟩
  have := Int.tmod_lt_of_pos (-n) hm
  rw [Int.neg_tmod] at this; omega
theorem rem_emod (n m : Int) (hm : 0 < m) : n % m = if n.tmod m < 0 then n.tmod m + m else n.tmod m := by
  have h1 : n.tmod m + m * n.tdiv m = n := Int.tmod_add_mul_tdiv n m
  have h2 := rem_bd n m hm
  generalize n.tmod m = r at *
  generalize n.tdiv m = q at *
  subst h1
  rw [Int.add_mul_emod_self_left]
  by_cases h : r < 0
  · rw [if_pos h, ← Int.add_emod_right, Int.emod_eq_of_lt (by omega) (by omega)]
  · rw [if_neg h, Int.emod_eq_of_lt (by omega) (by omega)]
theorem ret_int {k : IntKind} {a b : Int} (h : a = b) : Ending.returned (.int k a) = .returned (.int k b) := by rw [h]

/-- Pick(n, m) is n modulo m, from 0 on. -/
theorem pick_any (n m : Int) (w : World) (hm : 0 < m) (hm' : m ≤ 9223372036854775807) :
    Calls Tryd.prog 21 #[.int .i64 n, .int .i64 m] w fun e w' => e = .returned (.int .i64 (n % m)) ∧ w = w' := by
  have hr := Lib.hid (rem_emod n m hm)
  obtain ⟨b1, b2⟩ := rem_bd n m hm
  by_cases hneg : n.tmod m < 0
  · go_enter Tryd.func21, Tryd.ntmps21
    go_wp2
    go_ret
    exact ⟨ret_int (by rw [hr.out, if_pos hneg]), rfl⟩
  · go_enter Tryd.func21, Tryd.ntmps21
    go_wp2
    go_ret
    exact ⟨ret_int (by rw [hr.out, if_neg (by omega)]), rfl⟩


/-! ### Spread -/
/-- A call that returns a new list of numbers. -/
def NewInts (w : World) (zs : List Int) (e : Ending) (w' : World) : Prop := ∃ b, e = .returned (.slice (some ⟨b, 0, none⟩) zs.length zs.length) ∧ ICells w' b 0 zs ∧ w.heap.size ≤ b ∧ Nw w w'
theorem NCells.snd {w : World} {b o : Nat} {zs : List (Int × Int)} (h : NCells w b o zs) (k : Nat) (hk : k < zs.length) : w.cell? ⟨b, o + k * 2, none⟩ = some (.int .i64 zs[k].1) ∧ w.cell? ⟨b, o + k * 2 + 1, none⟩ = some (.int .i64 zs[k].2) := h.2 k hk
theorem ptake_snoc (l : List (Int × Int)) (k : Nat) (h : k < l.length) : l.take (k + 1) = l.take k ++ [l[k]] := List.take_succ_eq_append_getElem h

theorem infoInt : (Tryd.prog.info? 3).map (fun i => (i.zero, i.size, i.bytes)) = some (some (.int .i64 0), 1, 8) := by kernel_rfl
theorem mk_ints (w : World) (N : Nat) (hN : N ≤ 1000) : (Instr.makeSlice 31 (.int .i64 N) (.int .i64 N)).run Tryd.prog w = .ok (.slice (some ⟨w.heap.size, 0, none⟩) N N) (w.alloc (.cells (Array.replicate N (.int .i64 0)) 3)) := by
  obtain ⟨i0, hi, hz0, hz1, hz2⟩ := info_parts infoInt
  have h := run_make (P := Tryd.prog) w 31 3 i0 (.int .i64 0) Tryd.underlying31 hi hz0 .i64 .i64 N N (by omega) (Int.le_refl _) (by rw [hz2]; omega) (by omega)
  have e : madeCells (Value.int .i64 0).cells (N * 1) = Array.replicate N (.int .i64 0) := by
    apply Array.ext
    · simp [madeCells]
    · intro j h1 h2
      simp [madeCells, Value.cells, Nat.mod_one]
  rw [h, hz1]
  simp only [Int.toNat_natCast, e]

set_option maxHeartbeats 1000000 in
theorem spread_some (b o c : Nat) (zs : List (Int × Int)) (N : Nat) (w : World) (hc : NCells w b o zs) (hl : zs.length ≤ 1000) (h0 : 1 ≤ N) (h1 : N ≤ 16) :
    Calls Tryd.prog 13 #[.slice (some ⟨b, o, none⟩) zs.length c, .int .i64 N] w (NewInts w (cnts zs N)) := by
  have HL := Lib.hid (fun k => cnts_len (zs.take k) N)
  have km := fun w => mk_ints w N (by omega)
  go_enter Tryd.func13, Tryd.ntmps13
  go_wp2_with fail
  refine (possible_yes _ _ (by omega) (by omega)).mono ?_
  rintro e w1 ⟨rfl, rfl⟩
  go_wp2
  go_loopw [16] (fun i wr => ∃ k : Nat, k ≤ zs.length ∧ i = .int .i64 k ∧ ICells wr w.heap.size 0 (cnts (zs.take k) N) ∧ Fz wr w.heap.size ∧ Nw w wr) (fun i _ => zs.length - (intOf i).toNat)
  case atStart => exact ⟨0, Nat.zero_le _, rfl, icells_new w N _, fz_new _ _ _, (Nw.refl _).alloc _⟩
  case round =>
    obtain ⟨k, hk, rfl, hI, hF, hG⟩ := hrel
    by_cases h : k < zs.length
    · obtain ⟨c0, c1⟩ := (hc.grown hG).2 k h
      have E : Hid (cnts (zs.take (k + 1)) N = bump (cnts (zs.take k) N) (ofS zs[k].1 zs[k].2 N)) := by rw [ptake_snoc zs k h]; exact cnts_snoc _ _ _
      have HO := Lib.hid (of_any zs[k].1 zs[k].2 N)
      have hr := ofS_range zs[k].1 zs[k].2 N
      have hb := fun i => cnts_bound (zs.take k) N i
      have hb2 : ((zs.take k).length : Int) ≤ 1000 := by rw [List.length_take]; omega
      have hlen := HL.out k
      generalize cnts (zs.take k) N = C at *
      generalize ofS zs[k].1 zs[k].2 N = K at *
      generalize zs[k].1 = t at *
      generalize zs[k].2 = r at *
      have HB := Lib.hid hb
      clear km hb
      go_wp2_with fail
      refine (HO.out _).mono ?_
      rintro e w2 ⟨rfl, hg2⟩
      have hG2 := (hG.alloc _).trans hg2
      have hI2 := (hI.grown ((Nw.refl _).alloc _)).grown hg2
      have hF2 := hF.grown hI.1 (((Nw.refl _).alloc _).trans hg2)
      rcases hr with rfl | ⟨k0, k1⟩
      · go_wp2
        go_roundw
        case rel => exact ⟨k + 1, by omega, by go_num, by rw [E.out, bump_none]; exact hI2, hF2, hG2⟩
        case measure => simp [intOf]; omega
      · obtain ⟨j, rfl⟩ := Int.eq_ofNat_of_zero_le k0
        have hj : j < C.length := by rw [hlen]; omega
        have hjN : j < N := by omega
        have hcell := hI2.2 j hj
        rw [Nat.zero_add] at hcell
        obtain ⟨b0, b1⟩ := HB.out j
        have E2 : Hid (cnts (zs.take (k + 1)) N = C.set j (C.getD j 0 + 1)) := by rw [E.out]; exact bump_some _ _ k0
        have hI3 := hI2.set j hj (C.getD j 0 + 1)
        have hG3 : Nw w (w2.setCell ⟨w.heap.size, j, none⟩ (.int .i64 (C.getD j 0 + 1))) := hG2.set (Nat.le_refl _) _
        have hfj := hF2 j
        generalize C.getD j 0 = x at *
        go_wp2
        go_roundw
        case rel => exact ⟨k + 1, by omega, by go_num, by rw [E2.out]; exact hI3, hF2.set _ _, hG3⟩
        case measure => simp [intOf]; omega
    · have hk' : k = zs.length := by omega
      rw [hk', List.take_length] at hI
      have hL := cnts_len zs N
      rw [Int.toNat_natCast] at hL
      clear km
      go_wp2
      go_ret
      exact ⟨w.heap.size, by rw [hL]; rfl, hI, Nat.le_refl _, hG⟩

set_option maxHeartbeats 1000000 in
theorem spread_nil (a : Option Addr) (c : Nat) (N : Nat) (w : World) (h0 : 1 ≤ N) (h1 : N ≤ 16) :
    Calls Tryd.prog 13 #[.slice a 0 c, .int .i64 N] w (NewInts w (cnts [] N)) := by
  have hL := cnts_len [] N
  rw [Int.toNat_natCast] at hL
  have HL := Lib.hid hL
  clear hL
  have km := fun w => mk_ints w N (by omega)
  go_enter Tryd.func13, Tryd.ntmps13
  go_wp2_with fail
  refine (possible_yes _ _ (by omega) (by omega)).mono ?_
  rintro e w1 ⟨rfl, rfl⟩
  go_wp2
  refine wp_loop_rounds 1 ?_
  rw [rounds_succ]
  go_wp2
  go_ret
  exact ⟨w.heap.size, by rw [HL.out]; rfl, icells_new w N _, Nat.le_refl _, (Nw.refl _).alloc _⟩
theorem spread_out (v : Value) (n : Int) (w : World) (h : ¬ (1 ≤ n ∧ n ≤ 16)) :
    Calls Tryd.prog 13 #[v, .int .i64 n] w fun e w' => e = .returned (.slice none 0 0) ∧ Nw w w' := by
  have H := Lib.hid h
  clear h
  go_enter Tryd.func13, Tryd.ntmps13
  go_wp2_with fail
  refine (possible_no _ _ H.out).mono ?_
  rintro e w1 ⟨rfl, rfl⟩
  go_wp2
  go_ret
  exact ⟨rfl, Nw.refl _⟩
theorem spread_any (v : Value) (zs : List (Int × Int)) (N : Nat) (w : World) (hv : Names w v zs) (hl : zs.length ≤ 1000) (h0 : 1 ≤ N) (h1 : N ≤ 16) :
    Calls Tryd.prog 13 #[v, .int .i64 N] w (NewInts w (cnts zs N)) := by
  obtain ⟨a, c, rfl, ⟨rfl, _⟩ | ⟨b, o, rfl, hn⟩⟩ := hv
  · exact spread_nil a c N w h0 h1
  · exact spread_some b o c zs N w hn hl h0 h1

/-! ### The document's own -/
set_option maxHeartbeats 1000000 in
theorem refSpread_some (b o c : Nat) (zs : List (Int × Int)) (N : Nat) (w : World) (hc : NCells w b o zs) (hl : zs.length ≤ 1000) (h0 : 1 ≤ N) (h1 : N ≤ 16) :
    Calls Tryd.prog 20 #[.slice (some ⟨b, o, none⟩) zs.length c, .int .i64 N] w (NewInts w (cnts zs N)) := by
  have HL := Lib.hid (fun k => cnts_len (zs.take k) N)
  have km := fun w => mk_ints w N (by omega)
  go_enter Tryd.func20, Tryd.ntmps20
  go_wp2
  go_loopw [6] (fun i wr => ∃ k : Nat, k ≤ zs.length ∧ i = .int .i64 k ∧ ICells wr w.heap.size 0 (cnts (zs.take k) N) ∧ Fz wr w.heap.size ∧ Nw w wr) (fun i _ => zs.length - (intOf i).toNat)
  case atStart => exact ⟨0, Nat.zero_le _, rfl, icells_new w N _, fz_new _ _ _, (Nw.refl _).alloc _⟩
  case round =>
    obtain ⟨k, hk, rfl, hI, hF, hG⟩ := hrel
    by_cases h : k < zs.length
    · obtain ⟨c0, c1⟩ := (hc.grown hG).2 k h
      have E : Hid (cnts (zs.take (k + 1)) N = bump (cnts (zs.take k) N) (ofS zs[k].1 zs[k].2 N)) := by rw [ptake_snoc zs k h]; exact cnts_snoc _ _ _
      have HO := Lib.hid (refOf_any zs[k].1 zs[k].2 N)
      have hr := ofS_range zs[k].1 zs[k].2 N
      have hb := fun i => cnts_bound (zs.take k) N i
      have hb2 : ((zs.take k).length : Int) ≤ 1000 := by rw [List.length_take]; omega
      have hlen := HL.out k
      generalize cnts (zs.take k) N = C at *
      generalize ofS zs[k].1 zs[k].2 N = K at *
      generalize zs[k].1 = t at *
      generalize zs[k].2 = r at *
      have HB := Lib.hid hb
      clear km hb
      go_wp2_with fail
      refine (HO.out _).mono ?_
      rintro e w2 ⟨rfl, hg2⟩
      have hG2 := hG.trans hg2
      have hI2 := hI.grown hg2
      have hF2 := hF.grown hI.1 hg2
      rcases hr with rfl | ⟨k0, k1⟩
      · go_wp2
        go_roundw
        case rel => exact ⟨k + 1, by omega, by go_num, by rw [E.out, bump_none]; exact hI2, hF2, hG2⟩
        case measure => simp [intOf]; omega
      · obtain ⟨j, rfl⟩ := Int.eq_ofNat_of_zero_le k0
        have hj : j < C.length := by rw [hlen]; omega
        have hjN : j < N := by omega
        have hcell := hI2.2 j hj
        rw [Nat.zero_add] at hcell
        obtain ⟨b0, b1⟩ := HB.out j
        have E2 : Hid (cnts (zs.take (k + 1)) N = C.set j (C.getD j 0 + 1)) := by rw [E.out]; exact bump_some _ _ k0
        have hI3 := hI2.set j hj (C.getD j 0 + 1)
        have hG3 : Nw w (w2.setCell ⟨w.heap.size, j, none⟩ (.int .i64 (C.getD j 0 + 1))) := hG2.set (Nat.le_refl _) _
        have hfj := hF2 j
        generalize C.getD j 0 = x at *
        go_wp2
        go_roundw
        case rel => exact ⟨k + 1, by omega, by go_num, by rw [E2.out]; exact hI3, hF2.set _ _, hG3⟩
        case measure => simp [intOf]; omega
    · have hk' : k = zs.length := by omega
      rw [hk', List.take_length] at hI
      have hL := cnts_len zs N
      rw [Int.toNat_natCast] at hL
      clear km
      go_wp2
      go_ret
      exact ⟨w.heap.size, by rw [hL]; rfl, hI, Nat.le_refl _, hG⟩

set_option maxHeartbeats 1000000 in
theorem refSpread_nil (a : Option Addr) (c : Nat) (N : Nat) (w : World) (h0 : 1 ≤ N) (h1 : N ≤ 16) :
    Calls Tryd.prog 20 #[.slice a 0 c, .int .i64 N] w (NewInts w (cnts [] N)) := by
  have hL := cnts_len [] N
  rw [Int.toNat_natCast] at hL
  have HL := Lib.hid hL
  clear hL
  have km := fun w => mk_ints w N (by omega)
  go_enter Tryd.func20, Tryd.ntmps20
  go_wp2
  refine wp_loop_rounds 1 ?_
  rw [rounds_succ]
  go_wp2
  go_ret
  exact ⟨w.heap.size, by rw [HL.out]; rfl, icells_new w N _, Nat.le_refl _, (Nw.refl _).alloc _⟩
theorem refSpread_out (v : Value) (n : Int) (w : World) (h : ¬ (1 ≤ n ∧ n ≤ 16)) :
    Calls Tryd.prog 20 #[v, .int .i64 n] w fun e w' => e = .returned (.slice none 0 0) ∧ Nw w w' := by
  by_cases h0 : n < 1
  · clear h
    go_enter Tryd.func20, Tryd.ntmps20
    go_wp2
    go_ret
    exact ⟨rfl, Nw.refl _⟩
  · have h2 : 16 < n := by omega
    have hd : decide (n < 1) = false := by simp; omega
    have hd2 : decide (16 < n) = true := by simp; omega
    clear h
    go_enter Tryd.func20, Tryd.ntmps20
    go_wp2
    go_ret
    exact ⟨rfl, Nw.refl _⟩
theorem refSpread_any (v : Value) (zs : List (Int × Int)) (N : Nat) (w : World) (hv : Names w v zs) (hl : zs.length ≤ 1000) (h0 : 1 ≤ N) (h1 : N ≤ 16) :
    Calls Tryd.prog 20 #[v, .int .i64 N] w (NewInts w (cnts zs N)) := by
  obtain ⟨a, c, rfl, ⟨rfl, _⟩ | ⟨b, o, rfl, hn⟩⟩ := hv
  · exact refSpread_nil a c N w h0 h1
  · exact refSpread_some b o c zs N w hn hl h0 h1

set_option maxHeartbeats 1000000 in
theorem same_ints (b o c b' o' c' : Nat) (zs : List Int) (w : World) (hc : ICells w b o zs) (hc' : ICells w b' o' zs) (hl : zs.length ≤ 1000) :
    Calls Tryd.prog 14 #[.slice (some ⟨b, o, none⟩) zs.length c, .slice (some ⟨b', o', none⟩) zs.length c'] w fun e w' => e = .returned (.bool true) ∧ Nw w w' := by
  go_enter Tryd.func14, Tryd.ntmps14
  go_wp2
  go_loopw [5] (fun i wr => ∃ k : Nat, k ≤ zs.length ∧ i = .int .i64 k ∧ Nw w wr) (fun i _ => zs.length - (intOf i).toNat)
  case atStart => exact ⟨0, Nat.zero_le _, rfl, Nw.refl _⟩
  case round =>
    obtain ⟨k, hk, rfl, hG⟩ := hrel
    by_cases h : k < zs.length
    · have c0 := (hc.grown hG).2 k h
      have d0 := (hc'.grown hG).2 k h
      generalize zs.getD k 0 = z at *
      go_wp2_with fail
      go_quiet (fail)
      go_wp2
      go_roundw
      case rel => exact ⟨k + 1, by omega, by go_num, hG.drewN _⟩
      case measure => simp [intOf]; omega
    · go_wp2
      go_ret
      exact ⟨rfl, hG⟩
theorem same_ints_nil (a a' : Option Addr) (c c' : Nat) (w : World) :
    Calls Tryd.prog 14 #[.slice a 0 c, .slice a' 0 c'] w fun e w' => e = .returned (.bool true) ∧ Nw w w' := by
  go_enter Tryd.func14, Tryd.ntmps14
  go_wp2
  refine wp_loop_rounds 1 ?_
  rw [rounds_succ]
  go_wp2
  go_ret
  exact ⟨rfl, Nw.refl _⟩

theorem infoName : (Tryd.prog.info? 24).map (fun i => (i.zero, i.size, i.bytes)) = some (some (.agg #[.int .i64 0, .int .i64 0]), 2, 16) := by kernel_rfl
theorem flat_len (zs : List (Int × Int)) : (flat zs).length = zs.length * 2 := by
  induction zs with
  | nil => rfl
  | cons z zs ih => simp [flat, ih]; omega
theorem flat_get (zs : List (Int × Int)) : ∀ k (h : k < zs.length), (flat zs)[k * 2]? = some (.int .i64 zs[k].1) ∧ (flat zs)[k * 2 + 1]? = some (.int .i64 zs[k].2) := by
  induction zs with
  | nil => intro k h; simp at h
  | cons z zs ih =>
    intro k h
    cases k with
    | zero => simp [flat]
    | succ k =>
      have := ih k (by simpa using h)
      rw [show (k + 1) * 2 = k * 2 + 2 by omega]
      simpa [flat] using this
theorem flat_in {w : World} {b o : Nat} {zs : List (Int × Int)} (h : NCells w b o zs) (j : Nat) (u : Value) (hu : (flat zs)[j]? = some u) : w.cell? ((⟨b, o, none⟩ : Addr).add j) = some u := by
  have hj : j < zs.length * 2 := by rw [← flat_len]; exact (List.getElem?_eq_some_iff.1 hu).1
  have hk : j / 2 < zs.length := by omega
  obtain ⟨f0, f1⟩ := flat_get zs (j / 2) hk
  obtain ⟨c0, c1⟩ := h.2 (j / 2) hk
  rw [Addr.add_lit]
  rcases Nat.mod_two_eq_zero_or_one j with e | e
  · rw [show j / 2 * 2 = j by omega] at f0 c0
    rw [f0] at hu; cases hu; exact c0
  · rw [show j / 2 * 2 + 1 = j by omega] at f1
    rw [show o + j / 2 * 2 + 1 = o + j by omega] at c1
    rw [f1] at hu; cases hu; exact c1
theorem flat_one (zs : List (Int × Int)) : ∀ u ∈ flat zs, u.oneCell' = true := by
  induction zs with
  | nil => intro u h; simp [flat] at h
  | cons z zs ih =>
    intro u h
    simp only [flat, List.mem_cons] at h
    rcases h with rfl | rfl | h
    · rfl
    · rfl
    · exact ih u h
theorem owned_names {w : World} {B T : Nat} {v : Value} {zs : List (Int × Int)} (h : w.ownsRow B T 2 v zs.length (flat zs)) : Names w v zs := by
  rcases h.2 with ⟨rfl, h0⟩ | ⟨g, cap, cur, e, hb, hg, hnc, hcm, hcs, htake⟩
  · have : zs = [] := List.eq_nil_of_length_eq_zero h0
    subst this
    exact ⟨none, 0, rfl, .inl ⟨rfl, fun _ => rfl⟩⟩
  · subst e
    refine ⟨_, cap, rfl, .inr ⟨g, 0, rfl, (h.lt g rfl).2, fun k hk => ?_⟩⟩
    have hcell := h.cells (g := g) rfl
    obtain ⟨f0, f1⟩ := flat_get zs k hk
    have c0 := hcell _ _ f0
    have c1 := hcell _ _ f1
    rw [Addr.add_lit] at c0 c1
    exact ⟨c0, by rw [Nat.add_assoc]; exact c1⟩
theorem own_some (b o c : Nat) (zs : List (Int × Int)) (w : World) (hn : NCells w b o zs) (hl : zs.length ≤ 1000) :
    Calls Tryd.prog 19 #[.slice (some ⟨b, o, none⟩) zs.length c] w fun e w' => ∃ v', e = .returned v' ∧ Names w' v' zs ∧ Nw w w' := by
  obtain ⟨i0, hi, hz0, hz1, hz2⟩ := info_parts infoName
  have hown : (w.alloc (.cells #[] 24)).ownsRow w.heap.size 24 2 (.slice (some ⟨w.heap.size, 0, none⟩) 0 0) 0 [] :=
    ⟨rfl, .inr ⟨w.heap.size, 0, #[], rfl, Nat.le_refl _, heap_alloc_last w _, Nat.le_refl _, by decide, rfl, rfl⟩⟩
  go_enter Tryd.func19, Tryd.ntmps19
  go_wp2_with (at_builtin; refine wpList_append_fresh _ (by rfl) (.tmp 3) (.tmp 4) 34 rfl w.heap.size 24 i0 _ 2 16 Tryd.underlying34 hi hz0 hz1 hz2 rfl (by decide) _ 0 [] rfl hown ⟨b, o, none⟩ zs.length c (flat zs) rfl (flat_len zs) (flat_in (hn.grown ((Nw.refl _).alloc _))) (flat_one zs) (by unfold maxLen; omega) (by omega) (by simp) ?_; intro v6 w6 hown6 hgrow6 hfr6)
  have hw6 : Below w.heap.size w w6 := (Below.alloc (Below.refl _ w) (Nat.le_refl _) _).grown hgrow6 (by simp) (fun q hq => by cases hq; exact Nat.le_refl _)
  rw [Nat.zero_add, List.nil_append] at hown6
  clear hown hgrow6 hfr6
  go_wp2
  go_ret
  exact ⟨_, rfl, owned_names hown6, hw6⟩
theorem own_zero (ad : Addr) (c : Nat) (w : World) :
    Calls Tryd.prog 19 #[.slice (some ad) 0 c] w fun e w' => ∃ v', e = .returned v' ∧ Names w' v' [] ∧ Nw w w' := by
  obtain ⟨i0, hi, hz0, hz1, hz2⟩ := info_parts infoName
  have hown : (w.alloc (.cells #[] 24)).ownsRow w.heap.size 24 2 (.slice (some ⟨w.heap.size, 0, none⟩) 0 0) 0 [] :=
    ⟨rfl, .inr ⟨w.heap.size, 0, #[], rfl, Nat.le_refl _, heap_alloc_last w _, Nat.le_refl _, by decide, rfl, rfl⟩⟩
  go_enter Tryd.func19, Tryd.ntmps19
  go_wp2_with (at_builtin; refine wpList_append_fresh _ (by rfl) (.tmp 3) (.tmp 4) 34 rfl w.heap.size 24 i0 _ 2 16 Tryd.underlying34 hi hz0 hz1 hz2 rfl (by decide) _ 0 [] rfl hown ad 0 c [] rfl rfl (fun j u hu => by cases hu) (fun u hu => by cases hu) (by unfold maxLen; omega) (by omega) (by simp) ?_; intro v6 w6 hown6 hgrow6 hfr6)
  have hw6 : Below w.heap.size w w6 := (Below.alloc (Below.refl _ w) (Nat.le_refl _) _).grown hgrow6 (by simp) (fun q hq => by cases hq; exact Nat.le_refl _)
  rw [Nat.zero_add, List.nil_append] at hown6
  clear hown hgrow6 hfr6
  go_wp2
  go_ret
  exact ⟨_, rfl, owned_names (zs := []) hown6, hw6⟩
theorem wpList_append_run {P : Program} (w : World) {ops : Array Oper} {rest : List Oper} {o : Oper} {a : Act} {Q : Exit → Act → World → Prop} (hgd : Region.wanted o (yielded ops a.tmps) = true) (s x : Operand) (t : TypeId)
    (ho : o.op = .call { callee := .builtin .append, args := #[s, x], argTypes := #[t, t] }) (v1 v2 v' : Value) (w' : World) (hs : a.eval s = v1) (hx : a.eval x = v2) (hr : (Builtin.append_ #[t, t] o.type #[v1, v2]).run P w = .ok v' w')
    (h : wpList P ops Q rest (a.put o.dst v') w') : wpList P ops Q (o :: rest) a w := by
  refine wpList_step fun _ hK => ?_
  rw [if_pos hgd]
  unfold Oper.wp execOp
  simp only [ho, resolve, invoke, builtin, Sem.run_bind, Sem.run_pure, Result.andThen_ok, List.map_toArray, List.map_cons, List.map_nil, hs, hx, hr]
  exact hK _ _ h
theorem own_none (w : World) :
    Calls Tryd.prog 19 #[.slice none 0 0] w fun e w' => ∃ v', e = .returned v' ∧ Names w' v' [] ∧ Nw w w' := by
  obtain ⟨i0, hi, hz0, hz1, hz2⟩ := info_parts infoName
  have hown : (w.alloc (.cells #[] 24)).ownsRow w.heap.size 24 2 (.slice (some ⟨w.heap.size, 0, none⟩) 0 0) 0 [] :=
    ⟨rfl, .inr ⟨w.heap.size, 0, #[], rfl, Nat.le_refl _, heap_alloc_last w _, Nat.le_refl _, by decide, rfl, rfl⟩⟩
  have hr := run_append_owned_none (P := Tryd.prog) (w.alloc (.cells #[] 24)) w.heap.size 34 34 24 i0 2 Tryd.underlying34 hi _ 0 [] hown
  go_enter Tryd.func19, Tryd.ntmps19
  go_wp2_with (at_builtin; refine wpList_append_run _ (by rfl) (.tmp 3) (.tmp 4) 34 rfl _ _ _ _ rfl rfl hr ?_)
  go_wp2
  go_ret
  exact ⟨_, rfl, owned_names (zs := []) hown, (Nw.refl _).alloc _⟩
theorem own_any (v : Value) (zs : List (Int × Int)) (w : World) (hv : Names w v zs) (hl : zs.length ≤ 1000) :
    Calls Tryd.prog 19 #[v] w fun e w' => ∃ v', e = .returned v' ∧ Names w' v' zs ∧ Nw w w' := by
  obtain ⟨a, c, rfl, ⟨rfl, h0⟩ | ⟨b, o, rfl, hn⟩⟩ := hv
  · cases a with
    | none => rw [h0 rfl]; exact own_none w
    | some ad => exact own_zero ad c w
  · exact own_some b o c zs w hn hl
end Go.Proofs.YtcffpbikjeimgaaDoor
